/- What the proof of FnExactMount leans on: contracts of the program's and the specification's functions, and plain facts (part 1 of 12). -/
import Derived.Test.YtiobfnpmidjijaaGreatDoorCards
import Derived.Test.YtiobfnpmidjijaaGreatDoorProg
import Derived.Test.YtiobfnpmidjijaaGreatDoorRows
import Derived.Test.YtiobfnpmidjijaaGreatDoorTie
import Derived.Deep.AppendLies
import Derived.Deep.DeepCutAuto
import Derived.Deep.DeepHandedRow
import Derived.Deep.DrawnRows
import Derived.Deep.RegionHeld3
import Derived.Deep.SlicePairs
import Derived.LaidHandle
import Derived.Laws.AppendOwnNone
import Derived.Laws.CopyOwn
import Derived.Laws.EntriesVeiled
import Derived.Lib.AppendIntMem
import Derived.Lib.BufferOwn
import Derived.Lib.ConvBytes
import Derived.LoopIn
import Derived.LoopNIn
import Derived.Maps.Ext
import Derived.OpenShut
import Derived.OwnWalkIn
import Derived.ProofKit
import Derived.RangeFuncBound
import Derived.RangeFuncNested
import Derived.Shelf.RegionOpen
import Derived.Shelf.SlSortCmp.WholeK
import Derived.Shelf.Slices.Empties2
import Derived.Shelf.Slices.Turned
import Derived.Shelf.SlicesG.Cmp
import Derived.Shelf.Small.Wraps
import Derived.Shelf.Strconv.Clone
import Derived.Shelf.Strconv.Itoa3
import Derived.Shelf.Strings.BuilderK
import Derived.Shelf.Strings.OnBuilder
import Derived.Shelf.Strings.Shaped
import Derived.ShutString
import Derived.Stop.Asserts
import Derived.WalkLawsBesides
import Derived.WalkSpells
set_option maxHeartbeats 16000000
set_option maxRecDepth 100000
namespace Go.Proofs.YtiobfnpmidjijaaGreatDoor
open Go.Proofs.Tryz
open Go.RowKit
open Go.Lib hiding intOf
/-- What lies in a block stays while new blocks are made. -/
theorem hblk {W W' : World} {q : Nat} {o : Obj} (h : Hid (W.heap[q]? = some o)) (b : Below W.heap.size W W') : Hid (W'.heap[q]? = some o) := (b.block q (Array.getElem?_eq_some_iff.1 h.out).1).trans h.out
theorem hown {W W' : World} {base : Nat} {T : TypeId} {z n : Nat} {v : Value} {c : List Value} (h : Hid (W.ownsRow base T z v n c)) (b : Below W.heap.size W W') : Hid (W'.ownsRow base T z v n c) := by
  obtain ⟨hl, hv⟩ := h.out
  refine ⟨hl, ?_⟩
  rcases hv with hv | ⟨g, cap, cur, e, hb, hg, hr⟩
  · exact .inl hv
  · exact .inr ⟨g, cap, cur, e, hb, (b.block g (Array.getElem?_eq_some_iff.1 hg).1).trans hg, hr⟩
theorem hbt {B : Nat} {w W W' : World} (h : Below B w W) (b : Below W.heap.size W W') (hB : B ≤ w.heap.size := by exact Nat.le_refl _) : Below B w W' := h.trans (b.mono (Nat.le_trans hB h.size))
theorem hsz {B : Nat} {W W' : World} (b : Below B W W') : Hid (W.heap.size ≤ W'.heap.size) := b.size
theorem bW7 (w : World) (a : Addr) (k : Nat) (v : Value) (h : k ≠ a.block) : (w.setCell a v).heap[k]? = w.heap[k]? := Below.heap_setCell w a v k h
theorem hset {W W' : World} {q q' off : Nat} {u : Value} {o : Obj} (hW : W' = W.setCell ⟨q', off, none⟩ u) (hn : q ≠ q') (h : Hid (W.heap[q]? = some o)) : Hid (W'.heap[q]? = some o) := by
  show _ = _
  rw [hW, bW7 _ _ _ _ hn]
  exact h.out
theorem dQ0 {W W' : World} {q' off : Nat} {u : Value} {base : Nat} {T : TypeId} {z n : Nat} {v : Value} {c : List Value} (hW : W' = W.setCell ⟨q', off, none⟩ u) (hn : ∀ g, (Value.ownBlock v) = some g → g ≠ q') (h : Hid (W.ownsRow base T z v n c)) : Hid (W'.ownsRow base T z v n c) := by
  obtain ⟨hl, hv⟩ := h.out
  refine ⟨hl, ?_⟩
  rcases hv with hv | ⟨g, cap, cur, e, hb, hg, hr⟩
  · exact .inl hv
  · refine .inr ⟨g, cap, cur, e, hb, ?_, hr⟩
    rw [hW, bW7 _ _ _ _ (hn g (by rw [e]; rfl))]
    exact hg
theorem tkP {P : Program} {ops : Array Oper} {Q : Exit → Act → World → Prop} {md : Region.Mode} {S : World → Prop} {oi : Oper} {fuel : Nat} {listed : Array Bool} {a : Act} {w : World} (i : Nat) (v : Value) (d : Tmp) (hi : ops[i]? = some oi) (hd : oi.dst = some d) (hS : S w)
    (h : wpAnyH P md ops Q S fuel (listed.setIfInBounds i true) (a.put (some d) v) w)
    (hs : Region.noSelect ops = true := by kernel_rfl) (hf : Region.free md ops listed i = true := by kernel_rfl) (hr : (Region.ready md ops listed).contains i = true := by kernel_rfl) (hQ : ∀ c a w, Q (.panic c) (a.put oi.dst v) w → Q (.panic c) a w := by exact fun _ _ _ h => h)
    (hy : YieldsIf P ops S oi v a := by exact Or.inl ⟨by rfl, by intro W _; go_simp⟩) : wpAnyH P md ops Q S (fuel + 1) listed a w :=
  wpAnyH_take hi hs hf hr hQ hy hS (hd ▸ h)
theorem tkN {P : Program} {ops : Array Oper} {Q : Exit → Act → World → Prop} {md : Region.Mode} {S : World → Prop} {oi : Oper} {fuel : Nat} {listed : Array Bool} {a : Act} {w : World} (i : Nat) (d : Tmp) (hi : ops[i]? = some oi) (hd : oi.dst = some d) (hS : S w)
    (h : wpAnyH P md ops Q S fuel (listed.setIfInBounds i true) (a.put (some d) undef) w)
    (hs : Region.noSelect ops = true := by kernel_rfl) (hf : Region.free md ops listed i = true := by kernel_rfl) (hr : (Region.ready md ops listed).contains i = true := by kernel_rfl) (hQ : ∀ c a w, Q (.panic c) (a.put oi.dst undef) w → Q (.panic c) a w := by exact fun _ _ _ h => h)
    (hy : YieldsIf P ops S oi undef a := by exact Or.inr ⟨by rfl, rfl⟩) : wpAnyH P md ops Q S (fuel + 1) listed a w :=
  wpAnyH_take hi hs hf hr hQ hy hS (hd ▸ h)
theorem tkL {P : Program} {ops : Array Oper} {Q : Exit → Act → World → Prop} {md : Region.Mode} {S : World → Prop} {oi : Oper} {fuel : Nat} {listed : Array Bool} {a : Act} {w : World} (i : Nat) (v : Value) (d : Tmp) (hi : ops[i]? = some oi) (hd : oi.dst = some d) (hy : YieldsIf P ops S oi v a) (hS : S w)
    (h : wpAnyH P md ops Q S fuel (listed.setIfInBounds i true) (a.put (some d) v) w)
    (hs : Region.noSelect ops = true := by kernel_rfl) (hf : Region.free md ops listed i = true := by kernel_rfl) (hr : (Region.ready md ops listed).contains i = true := by kernel_rfl) (hQ : ∀ c a w, Q (.panic c) (a.put oi.dst v) w → Q (.panic c) a w := by exact fun _ _ _ h => h) : wpAnyH P md ops Q S (fuel + 1) listed a w :=
  wpAnyH_take hi hs hf hr hQ hy hS (hd ▸ h)
abbrev Fs := List (ByteArray × ByteArray)
abbrev Bs := List (Int × ByteArray × ByteArray × Int)
abbrev Ts := List ByteArray
abbrev Tx := ByteArray
abbrev Oa := Option Addr
abbrev Bw (w W : World) : Prop := Below w.heap.size w W
theorem exq {α : Type} (a : α) : ∃ q, q = a := ⟨a, rfl⟩
theorem hsy {α : Type} {a b : α} (h : a = b) : Hid (b = a) := h.symm
theorem hid {p : Prop} (h : p) : Hid p := h
theorem hfz {W : World} {q T : Nat} {cs : Array Value} (h : Hid (W.heap[q]? = some (.cells cs T))) (i : Nat) : W.frozen? ⟨q, i, none⟩ = false := by simp [World.frozen?, h.out]
theorem dQ1 {w : World} {base : Nat} {e : TypeId} {size : Nat} {v : Value} {n g : Nat} {xs : List Value} (h : w.ownsRow base e size v n xs) (hg : v.ownBlock = some g) : base ≤ g ∧ g < w.heap.size := by
  rcases h.2 with ⟨rfl, _⟩ | ⟨g', cap, cur, rfl, hb, hh, _⟩
  · simp [Value.ownBlock] at hg
  · simp [Value.ownBlock] at hg
    subst hg
    exact ⟨hb, (Array.getElem?_eq_some_iff.1 hh).1⟩
theorem hlo {w : World} {base : Nat} {e : TypeId} {size : Nat} {v : Value} {n : Nat} {xs : List Value} (h : w.ownsRow base e size v n xs) : Hid (∀ g, (Value.ownBlock v) = some g → base ≤ g) := fun _ hg => (dQ1 h hg).1
theorem hhi {w : World} {base : Nat} {e : TypeId} {size : Nat} {v : Value} {n : Nat} {xs : List Value} (h : w.ownsRow base e size v n xs) : Hid (∀ g, (Value.ownBlock v) = some g → g < w.heap.size) := fun _ hg => (dQ1 h hg).2
theorem hwd {w : World} {B base : Nat} {e : TypeId} {size : Nat} {v : Value} {n : Nat} {xs : List Value} (h : w.ownsRow base e size v n xs) (hB : B ≤ base) : Hid (w.ownsRow B e size v n xs) := by
  refine ⟨h.1, ?_⟩
  rcases h.2 with h0 | ⟨g, cap, cur, h1, h2, h3⟩
  · exact .inl h0
  · exact .inr ⟨g, cap, cur, h1, Nat.le_trans hB h2, h3⟩
theorem bal {W W' : World} {o : Obj} (h : W' = W.alloc o) : Below W.heap.size W W' := by rw [h]; exact (Below.refl _ _).alloc (Nat.le_refl _) _
theorem bdr {W W' : World} (h : W' = W.drew) : Below W.heap.size W W' := by rw [h]; exact (Below.refl _ _).drew
theorem hsa {W W' : World} {o : Obj} {q : Nat} (h : W' = W.alloc o) (hz : W.heap.size = q) : W'.heap.size = q + 1 := by rw [h, ← hz]; simp
theorem cZ2 (w : World) (o : Obj) : (w.alloc o).heap[w.heap.size]? = some o := by
  show (w.heap.push o)[w.heap.size]? = some o
  simp
theorem hnew {W W' : World} {o : Obj} {q : Nat} (h : W' = W.alloc o) (hz : W.heap.size = q) : Hid (W'.heap[q]? = some o) := by show _ = _; rw [h, ← hz]; exact cZ2 _ _
theorem hnq {W : World} {p q : Nat} {o : Obj} (h : Hid (W.heap[p]? = some o)) (hz : W.heap.size = q) : Hid (p ≠ q) := fun e => by have h1 := (Array.getElem?_eq_some_iff.1 h.out).1; omega
theorem hbS {w W W' : World} {B q i : Nat} {v : Value} (hW : W' = W.setCell ⟨q, i, none⟩ v) (h : Below B w W) (hq : Hid (B ≤ q)) : Below B w W' := by rw [hW]; exact h.setCell (p := ⟨q, i, none⟩) hq.out _
theorem hcl {W : World} {q : Nat} {T : TypeId} {l : List Value} {v : Value} (h : Hid (W.heap[q]? = some (.cells l.toArray T))) (i : Nat) (hv : l[i]? = some v) : W.cell? ⟨q, i, none⟩ = some v := by simp [World.cell?, h.out, hv]
theorem hca {W : World} {q : Nat} {T : TypeId} {l : List Value} {v : Value} (h : Hid (W.heap[q]? = some (.cells l.toArray T))) (i : Nat) (hv : l[i]? = some v) : ∀ o, (W.alloc o).cell? ⟨q, i, none⟩ = some v := fun o => by
  have b := ((Below.refl W.heap.size W).alloc (Nat.le_refl _) o).block q (Array.getElem?_eq_some_iff.1 h.out).1
  simp [World.cell?, b, h.out, hv]
theorem hfa {W : World} {q : Nat} {T : TypeId} {cs : Array Value} (h : Hid (W.heap[q]? = some (.cells cs T))) (i : Nat) : ∀ o, (W.alloc o).frozen? ⟨q, i, none⟩ = false := fun o => by
  have b := ((Below.refl W.heap.size W).alloc (Nat.le_refl _) o).block q (Array.getElem?_eq_some_iff.1 h.out).1
  simp [World.frozen?, b, h.out]
theorem hxt {A W W' : World} (h : Hid (Below A.heap.size A W)) (b : Below W.heap.size W W') : Hid (Below A.heap.size A W') := h.out.trans (b.mono h.out.size)
theorem blt {W : World} {q : Nat} {o : Obj} (h : W.heap[q]? = some o) : q < W.heap.size := (Array.getElem?_eq_some_iff.1 h).1
theorem wdn {P : Program} {ops : Array Oper} {Q : Exit → Act → World → Prop} {md : Region.Mode} {S : World → Prop} {fuel : Nat} {listed : Array Bool} {a : Act} {w : World} (h : Q .normal a w) (hr : Region.ready md ops listed = [] := by kernel_rfl) : wpAnyH P md ops Q S fuel listed a w := wpAnyH_done hr h _
theorem rd1 {P : Program} {ops : Array Oper} {Q : Exit → Act → World → Prop} {md : Region.Mode} {S : World → Prop} {fuel : Nat} {listed : Array Bool} {a : Act} {w : World} {o : Oper} (i : Nat) (ho : ops[i]? = some o)
    (h : ∀ K' : Act → World → Prop, Shut (∀ a w, S w → (S w → wpAnyH P md ops Q S fuel (listed.setIfInBounds i true) a w) → K' a w) → if Region.wanted o (yielded ops a.tmps) = true then Oper.wp P o a w K' Q else K' (a.put o.dst undef) w)
    (hr : Region.ready md ops listed = [i] := by kernel_rfl) : wpAnyH P md ops Q S (fuel + 1) listed a w := wpAnyH_ready hr (by simp) (AllReadyH.cons ho h AllReadyH.nil)
theorem k1c {W : World} {q T : Nat} {a : Value} (kk : Hid (W.heap[q]? = some (.cells #[a] T))) : W.cell? ⟨q, 0, none⟩ = some a := by simp [World.cell?, kk.out]
theorem k4c {W : World} {q T : Nat} {a b c d : Value} (kk : Hid (W.heap[q]? = some (.cells #[a, b, c, d] T))) : W.cell? ⟨q, 0, none⟩ = some a ∧ W.cell? ⟨q, 1, none⟩ = some b ∧ W.cell? ⟨q, 2, none⟩ = some c ∧ W.cell? ⟨q, 3, none⟩ = some d := ⟨by simp [World.cell?, kk.out], by simp [World.cell?, kk.out], by simp [World.cell?, kk.out], by simp [World.cell?, kk.out]⟩
theorem k7c {W : World} {q T : Nat} {a b c d e f g : Value} (kk : Hid (W.heap[q]? = some (.cells #[a, b, c, d, e, f, g] T))) : W.cell? ⟨q, 0, none⟩ = some a ∧ W.cell? ⟨q, 1, none⟩ = some b ∧ W.cell? ⟨q, 2, none⟩ = some c ∧ W.cell? ⟨q, 3, none⟩ = some d ∧ W.cell? ⟨q, 4, none⟩ = some e ∧ W.cell? ⟨q, 5, none⟩ = some f ∧ W.cell? ⟨q, 6, none⟩ = some g := ⟨by simp [World.cell?, kk.out], by simp [World.cell?, kk.out], by simp [World.cell?, kk.out], by simp [World.cell?, kk.out], by simp [World.cell?, kk.out], by simp [World.cell?, kk.out], by simp [World.cell?, kk.out]⟩
theorem k9c {W : World} {q T : Nat} {a b c d e f g h i : Value} (kk : Hid (W.heap[q]? = some (.cells #[a, b, c, d, e, f, g, h, i] T))) : W.cell? ⟨q, 0, none⟩ = some a ∧ W.cell? ⟨q, 1, none⟩ = some b ∧ W.cell? ⟨q, 2, none⟩ = some c ∧ W.cell? ⟨q, 3, none⟩ = some d ∧ W.cell? ⟨q, 4, none⟩ = some e ∧ W.cell? ⟨q, 5, none⟩ = some f ∧ W.cell? ⟨q, 6, none⟩ = some g ∧ W.cell? ⟨q, 7, none⟩ = some h ∧ W.cell? ⟨q, 8, none⟩ = some i := ⟨by simp [World.cell?, kk.out], by simp [World.cell?, kk.out], by simp [World.cell?, kk.out], by simp [World.cell?, kk.out], by simp [World.cell?, kk.out], by simp [World.cell?, kk.out], by simp [World.cell?, kk.out], by simp [World.cell?, kk.out], by simp [World.cell?, kk.out]⟩
structure It where
  fp : Nat → Prop
  ok : World → Prop
  st : ∀ {W W' : World}, ok W → (∀ g, fp g → W'.heap[g]? = W.heap[g]?) → ok W'
  lt : ∀ {W : World}, ok W → ∀ g, fp g → g < W.heap.size
theorem jos {w w' : World} {base : Nat} {e : TypeId} {size : Nat} {v : Value} {n : Nat} {xs : List Value} (h : w.ownsRow base e size v n xs) (hs : ∀ j, v.ownBlock = some j → w'.heap[j]? = w.heap[j]?) : w'.ownsRow base e size v n xs := by
  obtain ⟨hl, hv⟩ := h
  refine ⟨hl, ?_⟩
  rcases hv with hv | ⟨g, cap, cur, e1, hb, hg, hr⟩
  · exact .inl hv
  · exact .inr ⟨g, cap, cur, e1, hb, (hs g (by rw [e1]; rfl)).trans hg, hr⟩
theorem jol {w : World} {base : Nat} {e : TypeId} {size : Nat} {v : Value} {n : Nat} {xs : List Value} (h : w.ownsRow base e size v n xs) : ∀ g, v.ownBlock = some g → base ≤ g ∧ g < w.heap.size ∧ ∃ cur, w.heap[g]? = some (.cells cur e (0, 0)) := fun g hg => by
  rcases h.2 with ⟨rfl, _⟩ | ⟨g', cap, cur, rfl, hb, hh, _⟩
  · simp [Value.ownBlock] at hg
  · simp [Value.ownBlock] at hg
    subst hg
    exact ⟨hb, (Array.getElem?_eq_some_iff.1 hh).1, cur, hh⟩
theorem job {w : World} {base B : Nat} {e : TypeId} {size : Nat} {v : Value} {n : Nat} {xs : List Value} (h : w.ownsRow base e size v n xs) (hB : ∀ g, v.ownBlock = some g → B ≤ g) : w.ownsRow B e size v n xs := by
  refine ⟨h.1, ?_⟩
  rcases h.2 with h0 | ⟨g, cap, cur, h1, h2, h3⟩
  · exact .inl h0
  · exact .inr ⟨g, cap, cur, h1, hB g (by rw [h1]; rfl), h3⟩
/-- A block of cells. -/
def bk (q : Nat) (cs : List Value) (T : TypeId) : It := ⟨fun g => g = q, fun W => W.heap[q]? = some (.cells cs.toArray T), fun h hs => (hs q rfl).trans h, fun h g e => by subst e; exact (Array.getElem?_eq_some_iff.1 h).1⟩
/-- A row of one's own. -/
def ro (T : TypeId) (z : Nat) (v : Value) (n : Nat) (c : List Value) : It := ⟨fun g => v.ownBlock = some g, fun W => W.ownsRow 0 T z v n c, fun h hs => jos h hs, fun h g hg => (jol h g hg).2.1⟩
/-- What was made since w, all of it apart. -/
structure Pk (w W : World) (l : List It) : Prop where
  hb : Below w.heap.size w W
  ok : ∀ x ∈ l, x.ok W
  ge : ∀ x ∈ l, ∀ g, x.fp g → w.heap.size ≤ g
  ne : l.Pairwise (fun x y => ∀ g, x.fp g → ¬ y.fp g)
theorem jnil (w : World) : Pk w w [] := ⟨Below.refl _ _, by simp, by simp, List.Pairwise.nil⟩
theorem jw {w W W' : World} {l : List It} (K : Pk w W l) (b : Below W.heap.size W W') : Pk w W' l :=
  ⟨K.hb.trans (b.mono K.hb.size), fun x hx => x.st (K.ok x hx) (fun g hg => b.block g (x.lt (K.ok x hx) g hg)), K.ge, K.ne⟩
/-- What was made since, beside what was there. -/
theorem jj0 {w W W' : World} {l m : List It} (K : Pk w W l) (N : Pk W W' m) : Pk w W' (m ++ l) := by
  have K' := jw K N.hb
  refine ⟨K'.hb, fun x hx => (List.mem_append.1 hx).elim (N.ok x) (K'.ok x), fun x hx g hg => (List.mem_append.1 hx).elim (fun h => Nat.le_trans K.hb.size (N.ge x h g hg)) (fun h => K.ge x h g hg), List.pairwise_append.2 ⟨N.ne, K.ne, fun a ha b hb g h1 h2 => ?_⟩⟩
  have e1 := N.ge a ha g h1
  have e2 := b.lt (K.ok b hb) g h2
  omega
theorem jj {w W W' : World} {l m l' : List It} (K : Pk w W l) (N : Pk W W' m) (hl : m ++ l = l' := by simp only [List.cons_append, List.nil_append]; rfl) : Pk w W' l' := hl ▸ jj0 K N
theorem jN {w W : World} (b : Below w.heap.size w W) : Pk w W [] := ⟨b, by simp, by simp, List.Pairwise.nil⟩
theorem jcB {w W : World} {l : List It} {q : Nat} {cs : List Value} {T : TypeId} (K : Pk w W l) (h : W.heap[q]? = some (.cells cs.toArray T)) (hq : w.heap.size ≤ q) (hn : ∀ y ∈ l, ¬ y.fp q) : Pk w W (bk q cs T :: l) :=
  ⟨K.hb, fun x hx => (List.mem_cons.1 hx).elim (fun e => e ▸ h) (K.ok x), fun x hx g hg => (List.mem_cons.1 hx).elim (fun e => by subst e; rw [show g = q from hg]; exact hq) (fun hm => K.ge x hm g hg), List.pairwise_cons.2 ⟨fun y hy g hg => by rw [show g = q from hg]; exact hn y hy, K.ne⟩⟩
/-- A row beside what else is new: none of it lies in its block. -/
theorem jcR {w W : World} {l : List It} {T z n : Nat} {v : Value} {c : List Value} (K : Pk w W l) (h : W.ownsRow w.heap.size T z v n c) (hn : ∀ y ∈ l, ∀ g, v.ownBlock = some g → ¬ y.fp g) : Pk w W (ro T z v n c :: l) :=
  ⟨K.hb, fun x hx => (List.mem_cons.1 hx).elim (fun e => e ▸ job h (fun _ _ => Nat.zero_le _)) (K.ok x), fun x hx g hg => (List.mem_cons.1 hx).elim (fun e => by subst e; exact (jol h g hg).1) (fun hm => K.ge x hm g hg), List.pairwise_cons.2 ⟨fun y hy g hg => hn y hy g hg, K.ne⟩⟩
theorem ja {w W W' : World} {l : List It} {cs : List Value} {T : TypeId} {q : Nat} (K : Pk w W l) (hW : W' = W.alloc (.cells cs.toArray T)) (hz : W.heap.size = q) : Pk w W' (bk q cs T :: l) := by
  have b : Below W.heap.size W W' := by rw [hW]; exact (Below.refl _ _).alloc (Nat.le_refl _) _
  refine jj0 K (jcB (jN b) ?_ (Nat.le_of_eq hz) (by simp))
  rw [hW, ← hz]
  show (W.heap.push _)[W.heap.size]? = _
  simp
theorem jne {w W : World} {l : List It} (K : Pk w W l) {i k : Nat} {x y : It} (hx : l[i]? = some x) (hy : l[k]? = some y) (hik : i ≠ k) : ∀ g, x.fp g → ¬ y.fp g := by
  obtain ⟨h1, e1⟩ := List.getElem?_eq_some_iff.1 hx
  obtain ⟨h2, e2⟩ := List.getElem?_eq_some_iff.1 hy
  have P := List.pairwise_iff_getElem.1 K.ne
  subst e1 e2
  intro g hg hg2
  rcases Nat.lt_or_gt_of_ne hik with h | h
  · exact P i k h1 h2 h g hg hg2
  · exact P k i h2 h1 h g hg2 hg
theorem jmem {l : List It} {i : Nat} {x : It} (h : l[i]? = some x) : x ∈ l := List.mem_of_getElem? h
theorem jb {w W : World} {l : List It} (K : Pk w W l) (i : Nat) {q : Nat} {cs : List Value} {T : TypeId} (h : l[i]? = some (bk q cs T)) : W.heap[q]? = some (.cells cs.toArray T) := K.ok _ (jmem h)
theorem jo {w W : World} {l : List It} (K : Pk w W l) (i : Nat) {T z n : Nat} {v : Value} {c : List Value} (h : l[i]? = some (ro T z v n c)) : W.ownsRow w.heap.size T z v n c := job (K.ok _ (jmem h)) (fun g hg => K.ge _ (jmem h) g hg)
theorem jge {w W : World} {l : List It} (K : Pk w W l) (i : Nat) {q : Nat} {cs : List Value} {T : TypeId} (h : l[i]? = some (bk q cs T)) : w.heap.size ≤ q := K.ge _ (jmem h) q rfl
/-- Cells set in a block of one's own. -/
def jW (w : World) (g : Nat) : List (Nat × Value) → World
  | [] => w
  | x :: r => jW (w.setCell ⟨g, x.1, none⟩ x.2) g r
def jA (cs : List Value) : List (Nat × Value) → List Value
  | [] => cs
  | x :: r => jA (cs.set x.1 x.2) r
theorem jwh (q : Nat) (T : TypeId) : ∀ (l : List (Nat × Value)) (w : World) (cs : List Value), w.heap[q]? = some (.cells cs.toArray T) → (jW w q l).heap[q]? = some (.cells (jA cs l).toArray T)
  | [], _, _, h => h
  | x :: r, w, cs, h => jwh q T r _ _ (by simp [World.setCell, Array.getElem?_modify, h])
theorem jwo (q g : Nat) (hg : g ≠ q) : ∀ (l : List (Nat × Value)) (w : World), (jW w q l).heap[g]? = w.heap[g]?
  | [], _ => rfl
  | x :: r, w => (jwo q g hg r _).trans (Below.heap_setCell w ⟨q, x.1, none⟩ x.2 g hg)
theorem jwb {B q : Nat} (hq : B ≤ q) {w : World} : ∀ (l : List (Nat × Value)) (W : World), Below B w W → Below B w (jW W q l)
  | [], _, h => h
  | x :: r, _, h => jwb hq r _ (h.setCell (p := ⟨q, x.1, none⟩) hq x.2)
theorem jss0 {w W W' : World} {l : List It} (K : Pk w W l) (i : Nat) (vs : List (Nat × Value)) {q : Nat} {cs : List Value} {T : TypeId} (hW : W' = jW W q vs) (h : l[i]? = some (bk q cs T)) : Pk w W' (l.set i (bk q (jA cs vs) T)) := by
  subst hW
  have hi := (List.getElem?_eq_some_iff.1 h).1
  have oth : ∀ k y, l[k]? = some y → k ≠ i → y.ok (jW W q vs) := fun k y hy hk => y.st (K.ok y (jmem hy)) (fun g hg => jwo q g (fun e => jne K hy h hk g hg e) vs W)
  have gs : ∀ k x, (l.set i (bk q (jA cs vs) T))[k]? = some x → k = i ∧ x = bk q (jA cs vs) T ∨ k ≠ i ∧ l[k]? = some x := fun k x hk => by
    by_cases e : k = i
    · subst e
      rw [List.getElem?_set_self hi] at hk
      exact .inl ⟨rfl, (Option.some.inj hk).symm⟩
    · rw [List.getElem?_set_ne (fun e2 => e e2.symm)] at hk
      exact .inr ⟨e, hk⟩
  refine ⟨jwb (jge K i h) vs W K.hb, fun x hx => ?_, fun x hx => ?_, ?_⟩
  · obtain ⟨k, hk⟩ := List.mem_iff_getElem?.1 hx
    rcases gs k x hk with ⟨_, rfl⟩ | ⟨hn, hk2⟩
    · exact jwh q T vs W cs (jb K i h)
    · exact oth k x hk2 hn
  · obtain ⟨k, hk⟩ := List.mem_iff_getElem?.1 hx
    rcases gs k x hk with ⟨_, rfl⟩ | ⟨_, hk2⟩
    · intro g hg
      rw [show g = q from hg]
      exact jge K i h
    · exact K.ge x (jmem hk2)
  · refine List.pairwise_iff_getElem.2 fun a b ha hb hab g h1 h2 => ?_
    have P := List.pairwise_iff_getElem.1 K.ne
    rw [List.length_set] at ha hb
    have e0 : l[i]'hi = bk q cs T := (List.getElem?_eq_some_iff.1 h).2
    rw [List.getElem_set] at h1 h2
    have f1 : (l[a]'ha).fp g := by
      split at h1
      · rename_i e; subst e; rw [e0]; exact h1
      · exact h1
    have f2 : (l[b]'hb).fp g := by
      split at h2
      · rename_i e; subst e; rw [e0]; exact h2
      · exact h2
    exact P a b ha hb hab g f1 f2
theorem js {w W W' : World} {l l' : List It} {q off : Nat} {v : Value} {cs : List Value} {T : TypeId} (K : Pk w W l) (i : Nat) (hW : W' = W.setCell ⟨q, off, none⟩ v) (h : l[i]? = some (bk q cs T) := by rfl) (hl : l.set i (bk q (cs.set off v) T) = l' := by simp only [List.set_cons_zero, List.set_cons_succ]; rfl) : Pk w W' l' := hl ▸ jss0 K i [(off, v)] hW h
theorem jss {w W W' : World} {l l' : List It} (K : Pk w W l) (i : Nat) (vs : List (Nat × Value)) {q : Nat} {cs : List Value} {T : TypeId} (hW : W' = jW W q vs) (h : l[i]? = some (bk q cs T) := by rfl) (hl : l.set i (bk q (jA cs vs) T) = l' := by simp only [jA, List.set_cons_zero, List.set_cons_succ]; rfl) : Pk w W' l' := hl ▸ jss0 K i vs hW h
/-- The same things (some of them), as they are in another world. -/
def Zj (W' : World) (l l' : List It) : Prop := (∀ y ∈ l', y.ok W') ∧ ∃ m : List It, m.Sublist l ∧ m.map It.fp = l'.map It.fp
theorem jzn (W' : World) : Zj W' [] [] := ⟨by simp, [], List.Sublist.slnil, rfl⟩
theorem jzx {W' : World} {x : It} {l l' : List It} (h : Zj W' l l') : Zj W' (x :: l) l' := ⟨h.1, h.2.elim fun m hm => ⟨m, hm.1.cons _, hm.2⟩⟩
theorem jzb {W' : World} {l l' : List It} {q : Nat} {cs cs' : List Value} {T T' : TypeId} (f : W'.heap[q]? = some (.cells cs'.toArray T')) (h : Zj W' l l') : Zj W' (bk q cs T :: l) (bk q cs' T' :: l') :=
  ⟨fun y hy => (List.mem_cons.1 hy).elim (fun e => e ▸ f) (h.1 y), h.2.elim fun m hm => ⟨bk q cs T :: m, hm.1.cons_cons _, by rw [List.map_cons, List.map_cons, hm.2]; rfl⟩⟩
theorem jzr {W' : World} {l l' : List It} {B T z n T' z' n' : Nat} {v : Value} {c c' : List Value} (f : W'.ownsRow B T' z' v n' c') (h : Zj W' l l') : Zj W' (ro T z v n c :: l) (ro T' z' v n' c' :: l') :=
  ⟨fun y hy => (List.mem_cons.1 hy).elim (fun e => e ▸ job f (fun _ _ => Nat.zero_le _)) (h.1 y), h.2.elim fun m hm => ⟨ro T z v n c :: m, hm.1.cons_cons _, by rw [List.map_cons, List.map_cons, hm.2]; rfl⟩⟩
theorem jz {w W W' : World} {l l' : List It} (K : Pk w W l) (hb : Below w.heap.size w W') (h : Zj W' l l') : Pk w W' l' := by
  obtain ⟨ho, m, hm, he⟩ := h
  have hp : (m.map It.fp).Pairwise (fun a b => ∀ g, a g → ¬ b g) := List.pairwise_map.2 (K.ne.sublist hm)
  refine ⟨hb, ho, fun x hx g hg => ?_, List.pairwise_map.1 (he ▸ hp)⟩
  have h1 : x.fp ∈ m.map It.fp := he ▸ List.mem_map_of_mem hx
  obtain ⟨y, hy, e⟩ := List.mem_map.1 h1
  exact K.ge y (hm.subset hy) g (e ▸ hg)
theorem jhn {v : Value} : ∀ y ∈ ([] : List It), ∀ g, v.ownBlock = some g → ¬ y.fp g := by simp
theorem jhc {v v2 : Value} {l : List It} {T z n : Nat} {c : List Value} (h : ∀ g, v.ownBlock = some g → v2.ownBlock ≠ some g) (t : ∀ y ∈ l, ∀ g, v.ownBlock = some g → ¬ y.fp g) : ∀ y ∈ ro T z v2 n c :: l, ∀ g, v.ownBlock = some g → ¬ y.fp g := fun y hy => (List.mem_cons.1 hy).elim (fun e => by subst e; exact h) (t y)
theorem jty {W : World} {b1 b2 z1 z2 n1 n2 : Nat} {t1 t2 : TypeId} {v1 v2 : Value} {xs ys : List Value} (h1 : W.ownsRow b1 t1 z1 v1 n1 xs) (h2 : W.ownsRow b2 t2 z2 v2 n2 ys) (ht : t1 ≠ t2 := by decide) : ∀ g, v1.ownBlock = some g → v2.ownBlock ≠ some g := fun g e1 e2 => by
  obtain ⟨_, _, c1, f1⟩ := jol h1 g e1
  obtain ⟨_, _, c2, f2⟩ := jol h2 g e2
  rw [f1] at f2
  injection f2 with f3
  injection f3 with _ f4
  exact ht f4
theorem jgB {W W' : World} {B q T T2 z n : Nat} {v : Value} {c : List Value} {cs : Array Value} (hg : W.grownBy W' v.ownBlock) (hr : W.ownsRow B T2 z v n c) (h : W.heap[q]? = some (.cells cs T)) (ht : T ≠ T2 := by decide) : W'.heap[q]? = some (.cells cs T) :=
  (hg.block q (Array.getElem?_eq_some_iff.1 h).1 (fun e => by
    obtain ⟨_, _, cur, hh⟩ := jol hr q e.symm
    rw [h] at hh
    injection hh with h3
    injection h3 with _ h4
    exact ht h4)).trans h
theorem jgA {W0 W W' : World} {B q T T2 z n : Nat} {v : Value} {c : List Value} {cs : Array Value} (bA : Below W0.heap.size W0 W) (hg : W.grownBy W' v.ownBlock) (hr : W0.ownsRow B T2 z v n c) (h : W0.heap[q]? = some (.cells cs T)) (ht : T ≠ T2 := by decide) : W'.heap[q]? = some (.cells cs T) :=
  jgB hg (jos hr (fun g e => bA.block g (jol hr g e).2.1)) ((bA.block q (Array.getElem?_eq_some_iff.1 h).1).trans h) ht
theorem jrr {W W' : World} {B q T t z n : Nat} {v : Value} {c : List Value} {cs : Array Value} (vs : List (Nat × Value)) (h : W.ownsRow B t z v n c) (hW : W' = jW W q vs) (hb : W.heap[q]? = some (.cells cs T)) (ht : T ≠ t := by decide) : W'.ownsRow B t z v n c :=
  jos h (fun g hg => by
    rw [hW]
    refine jwo q g (fun e => ?_) vs W
    obtain ⟨_, _, cur, hh⟩ := jol h g hg
    rw [e, hb] at hh
    injection hh with h3
    injection h3 with _ h4
    exact ht h4)
theorem jbo {W W' : World} {p q : Nat} {x : Option Obj} (vs : List (Nat × Value)) (h : W.heap[p]? = x) (hW : W' = jW W q vs) (ne : p ≠ q) : W'.heap[p]? = x := by rw [hW, jwo q p ne vs W]; exact h
theorem jbs {W W' : World} {q : Nat} {cs cs' : List Value} {T : TypeId} (vs : List (Nat × Value)) (h : W.heap[q]? = some (.cells cs.toArray T)) (hW : W' = jW W q vs) (hl : jA cs vs = cs' := by simp only [jA, List.set_cons_zero, List.set_cons_succ]; rfl) : W'.heap[q]? = some (.cells cs'.toArray T) := by rw [hW, ← hl]; exact jwh q T vs W cs h
theorem jfr {W : World} {q T : Nat} {cs : Array Value} (h : W.heap[q]? = some (.cells cs T)) : ∀ i, W.frozen? ⟨q, i, none⟩ = false := fun i => by simp [World.frozen?, h]
theorem c1c {W : World} {q T : Nat} {a : Value} (kk : W.heap[q]? = some (.cells #[a] T)) : W.cell? ⟨q, 0, none⟩ = some a := by simp [World.cell?, kk]
theorem c2c {W : World} {q T : Nat} {a b : Value} (kk : W.heap[q]? = some (.cells #[a, b] T)) : W.cell? ⟨q, 0, none⟩ = some a ∧ W.cell? ⟨q, 1, none⟩ = some b := ⟨by simp [World.cell?, kk], by simp [World.cell?, kk]⟩
theorem c2f {W : World} {q T : Nat} {a b : Value} (kk : W.heap[q]? = some (.cells #[a, b] T)) : (W.cell? ⟨q, 0, none⟩ = some a ∧ W.cell? ⟨q, 1, none⟩ = some b) ∧ ∀ i, W.frozen? ⟨q, i, none⟩ = false := ⟨c2c kk, jfr kk⟩
theorem c3c {W : World} {q T : Nat} {a b c : Value} (kk : W.heap[q]? = some (.cells #[a, b, c] T)) : W.cell? ⟨q, 0, none⟩ = some a ∧ W.cell? ⟨q, 1, none⟩ = some b ∧ W.cell? ⟨q, 2, none⟩ = some c := ⟨by simp [World.cell?, kk], by simp [World.cell?, kk], by simp [World.cell?, kk]⟩
theorem c3f {W : World} {q T : Nat} {a b c : Value} (kk : W.heap[q]? = some (.cells #[a, b, c] T)) : (W.cell? ⟨q, 0, none⟩ = some a ∧ W.cell? ⟨q, 1, none⟩ = some b ∧ W.cell? ⟨q, 2, none⟩ = some c) ∧ ∀ i, W.frozen? ⟨q, i, none⟩ = false := ⟨c3c kk, jfr kk⟩
theorem c4c {W : World} {q T : Nat} {a b c d : Value} (kk : W.heap[q]? = some (.cells #[a, b, c, d] T)) : W.cell? ⟨q, 0, none⟩ = some a ∧ W.cell? ⟨q, 1, none⟩ = some b ∧ W.cell? ⟨q, 2, none⟩ = some c ∧ W.cell? ⟨q, 3, none⟩ = some d := ⟨by simp [World.cell?, kk], by simp [World.cell?, kk], by simp [World.cell?, kk], by simp [World.cell?, kk]⟩
theorem c4f {W : World} {q T : Nat} {a b c d : Value} (kk : W.heap[q]? = some (.cells #[a, b, c, d] T)) : (W.cell? ⟨q, 0, none⟩ = some a ∧ W.cell? ⟨q, 1, none⟩ = some b ∧ W.cell? ⟨q, 2, none⟩ = some c ∧ W.cell? ⟨q, 3, none⟩ = some d) ∧ ∀ i, W.frozen? ⟨q, i, none⟩ = false := ⟨c4c kk, jfr kk⟩
theorem c6c {W : World} {q T : Nat} {a b c d e f : Value} (kk : W.heap[q]? = some (.cells #[a, b, c, d, e, f] T)) : W.cell? ⟨q, 0, none⟩ = some a ∧ W.cell? ⟨q, 1, none⟩ = some b ∧ W.cell? ⟨q, 2, none⟩ = some c ∧ W.cell? ⟨q, 3, none⟩ = some d ∧ W.cell? ⟨q, 4, none⟩ = some e ∧ W.cell? ⟨q, 5, none⟩ = some f := ⟨by simp [World.cell?, kk], by simp [World.cell?, kk], by simp [World.cell?, kk], by simp [World.cell?, kk], by simp [World.cell?, kk], by simp [World.cell?, kk]⟩
theorem c6f {W : World} {q T : Nat} {a b c d e f : Value} (kk : W.heap[q]? = some (.cells #[a, b, c, d, e, f] T)) : (W.cell? ⟨q, 0, none⟩ = some a ∧ W.cell? ⟨q, 1, none⟩ = some b ∧ W.cell? ⟨q, 2, none⟩ = some c ∧ W.cell? ⟨q, 3, none⟩ = some d ∧ W.cell? ⟨q, 4, none⟩ = some e ∧ W.cell? ⟨q, 5, none⟩ = some f) ∧ ∀ i, W.frozen? ⟨q, i, none⟩ = false := ⟨c6c kk, jfr kk⟩
theorem c7c {W : World} {q T : Nat} {a b c d e f g : Value} (kk : W.heap[q]? = some (.cells #[a, b, c, d, e, f, g] T)) : W.cell? ⟨q, 0, none⟩ = some a ∧ W.cell? ⟨q, 1, none⟩ = some b ∧ W.cell? ⟨q, 2, none⟩ = some c ∧ W.cell? ⟨q, 3, none⟩ = some d ∧ W.cell? ⟨q, 4, none⟩ = some e ∧ W.cell? ⟨q, 5, none⟩ = some f ∧ W.cell? ⟨q, 6, none⟩ = some g := ⟨by simp [World.cell?, kk], by simp [World.cell?, kk], by simp [World.cell?, kk], by simp [World.cell?, kk], by simp [World.cell?, kk], by simp [World.cell?, kk], by simp [World.cell?, kk]⟩
theorem c7f {W : World} {q T : Nat} {a b c d e f g : Value} (kk : W.heap[q]? = some (.cells #[a, b, c, d, e, f, g] T)) : (W.cell? ⟨q, 0, none⟩ = some a ∧ W.cell? ⟨q, 1, none⟩ = some b ∧ W.cell? ⟨q, 2, none⟩ = some c ∧ W.cell? ⟨q, 3, none⟩ = some d ∧ W.cell? ⟨q, 4, none⟩ = some e ∧ W.cell? ⟨q, 5, none⟩ = some f ∧ W.cell? ⟨q, 6, none⟩ = some g) ∧ ∀ i, W.frozen? ⟨q, i, none⟩ = false := ⟨c7c kk, jfr kk⟩
theorem c9c {W : World} {q T : Nat} {a b c d e f g h i : Value} (kk : W.heap[q]? = some (.cells #[a, b, c, d, e, f, g, h, i] T)) : W.cell? ⟨q, 0, none⟩ = some a ∧ W.cell? ⟨q, 1, none⟩ = some b ∧ W.cell? ⟨q, 2, none⟩ = some c ∧ W.cell? ⟨q, 3, none⟩ = some d ∧ W.cell? ⟨q, 4, none⟩ = some e ∧ W.cell? ⟨q, 5, none⟩ = some f ∧ W.cell? ⟨q, 6, none⟩ = some g ∧ W.cell? ⟨q, 7, none⟩ = some h ∧ W.cell? ⟨q, 8, none⟩ = some i := ⟨by simp [World.cell?, kk], by simp [World.cell?, kk], by simp [World.cell?, kk], by simp [World.cell?, kk], by simp [World.cell?, kk], by simp [World.cell?, kk], by simp [World.cell?, kk], by simp [World.cell?, kk], by simp [World.cell?, kk]⟩
theorem hgg {w W : World} {q : Nat} (hz : W.heap.size = q) (h : w.heap.size ≤ W.heap.size) : Hid (w.heap.size ≤ q) := hz ▸ h
theorem bsc {b : Nat} {w W : World} {q : Nat} (h : Below b w W) (g : b ≤ q) (i : Nat) {v : Value} : Below b w (W.setCell ⟨q, i, none⟩ v) := h.setCell (p := ⟨q, i, none⟩) g v
end Go.Proofs.YtiobfnpmidjijaaGreatDoor
namespace Go.Proofs.YtiobfnpmidjijaaGreatDoor
open Go.Proofs.Tryz
open Go.RowKit
def cls (r : Int) : Int :=
 if 65 ≤ r ∧ r ≤ 90 then 0 else if 97 ≤ r ∧ r ≤ 122 then 1 else if 48 ≤ r ∧ r ≤ 57 then 2 else if r = 45 then 3 else if r = 32 then 4 else if r = 44 then 5 else if 32 ≤ r ∧ r ≤ 126 then 6 else 7
def bB9 : Value := .agg #[.func (.func 346) #[] #[], .func (.func 347) #[] #[], .func (.func 348) #[] #[], .func (.func 349) #[] #[], .func (.func 350) #[] #[], .func (.func 351) #[] #[], .func (.func 352) #[] #[]]
theorem aM7 (r : Int) : (cls r = 0 ∧ 65 ≤ r ∧ r ≤ 90) ∨ (cls r = 1 ∧ 97 ≤ r ∧ r ≤ 122) ∨ (cls r = 2 ∧ 48 ≤ r ∧ r ≤ 57) ∨ (cls r = 3 ∧ r = 45) ∨ (cls r = 4 ∧ r = 32) ∨ (cls r = 5 ∧ r = 44) ∨ (cls r = 6 ∧ 32 ≤ r ∧ r ≤ 126 ∧ (r < 65 ∨ 90 < r) ∧ (r < 97 ∨ 122 < r) ∧ (r < 48 ∨ 57 < r) ∧ r ≠ 45 ∧ r ≠ 32 ∧ r ≠ 44) ∨ (cls r = 7 ∧ (r < 32 ∨ 126 < r)) := by
 unfold cls;repeat' split
 all_goals omega
theorem aU5 {k : IntKind} {a b : Int} (h : a = b) : Ending.returned (.int k a) = .returned (.int k b) := by rw [h]
theorem cA7 (w : World) :
  Calls prog 328 #[] w fun e w' => e = .returned bB9 ∧ Below w.heap.size w w' := by
 go_enter func328, ntmps328;go_wp2
 exact bodyPost_ret (v := bB9) (by simp [results, results328, go_sem, bB9]) rfl ⟨rfl, (Below.refl _ _).alloc (Nat.le_refl _) _⟩
theorem aG8 (r : Int) (w : World) :
  Calls prog 297 #[.int .i32 r] w fun e w' => e = .returned (.int .i64 (cls r)) ∧ Below w.heap.size w w' := by
 have i0 : ∀ w : World, (Instr.index 365 bB9 (.int .i64 0)).run prog w = .ok (.func (.func 346) #[] #[]) w := fun _ => by kernel_rfl
 have i1 : ∀ w : World, (Instr.index 365 bB9 (.int .i64 1)).run prog w = .ok (.func (.func 347) #[] #[]) w := fun _ => by kernel_rfl
 have i2 : ∀ w : World, (Instr.index 365 bB9 (.int .i64 2)).run prog w = .ok (.func (.func 348) #[] #[]) w := fun _ => by kernel_rfl
 have i3 : ∀ w : World, (Instr.index 365 bB9 (.int .i64 3)).run prog w = .ok (.func (.func 349) #[] #[]) w := fun _ => by kernel_rfl
 have i4 : ∀ w : World, (Instr.index 365 bB9 (.int .i64 4)).run prog w = .ok (.func (.func 350) #[] #[]) w := fun _ => by kernel_rfl
 have i5 : ∀ w : World, (Instr.index 365 bB9 (.int .i64 5)).run prog w = .ok (.func (.func 351) #[] #[]) w := fun _ => by kernel_rfl
 have i6 : ∀ w : World, (Instr.index 365 bB9 (.int .i64 6)).run prog w = .ok (.func (.func 352) #[] #[]) w := fun _ => by kernel_rfl
 go_enter func297, ntmps297;go_wp2_with (go_at_call 328; refine (cA7 _).mono ?_; rintro e w1 ⟨rfl, hb⟩)
 go_loop [6] (fun i => ∃ k : Nat, k ≤ 7 ∧ (k : Int) ≤ cls r ∧ i = .int .i64 k) (fun i => 7 - (intOf i).toNat)
 case atStart => exact ⟨0, by omega, by have := aM7 r; omega, rfl⟩
 case round =>
  obtain ⟨k, hk, hc, rfl⟩ := hrel;have a0 : k = 0 ∨ k = 1 ∨ k = 2 ∨ k = 3 ∨ k = 4 ∨ k = 5 ∨ k = 6 ∨ k = 7 := by omega
  rcases a0 with rfl | rfl | rfl | rfl | rfl | rfl | rfl | rfl
  all_goals have HS : Hid _ := aM7 r
  ·go_wp2
   ·go_ret;exact ⟨aU5 (by have := HS.out; omega), hb⟩
   ·go_round
    case rel => exact ⟨1, by omega, by have := HS.out; omega, rfl⟩
    case measure => simp [intOf]
   go_round
   case rel => exact ⟨1, by omega, by have := HS.out; omega, rfl⟩
   case measure => simp [intOf]
  ·go_wp2
   ·go_ret;exact ⟨aU5 (by have := HS.out; omega), hb⟩
   ·go_round
    case rel => exact ⟨2, by omega, by have := HS.out; omega, rfl⟩
    case measure => simp [intOf]
   go_round
   case rel => exact ⟨2, by omega, by have := HS.out; omega, rfl⟩
   case measure => simp [intOf]
  ·go_wp2
   ·go_ret;exact ⟨aU5 (by have := HS.out; omega), hb⟩
   ·go_round
    case rel => exact ⟨3, by omega, by have := HS.out; omega, rfl⟩
    case measure => simp [intOf]
   go_round
   case rel => exact ⟨3, by omega, by have := HS.out; omega, rfl⟩
   case measure => simp [intOf]
  ·by_cases hv : r = 45
   rotate_left
   ·have ht : (r == 45) = false := beq_eq_false_iff_ne.2 hv;go_wp2
    go_round
    case rel => exact ⟨4, by omega, by have := HS.out; omega, rfl⟩
    case measure => simp [intOf]
   have ht : (r == 45) = true := beq_iff_eq.2 hv;have HV : Hid (r = 45) := hv;clear hv;go_wp2
   go_ret;exact ⟨aU5 (by have := HS.out; have := HV.out; omega), hb⟩
  ·by_cases hv : r = 32
   rotate_left
   ·have ht : (r == 32) = false := beq_eq_false_iff_ne.2 hv;go_wp2
    go_round
    case rel => exact ⟨5, by omega, by have := HS.out; omega, rfl⟩
    case measure => simp [intOf]
   have ht : (r == 32) = true := beq_iff_eq.2 hv;have HV : Hid (r = 32) := hv;clear hv;go_wp2
   go_ret;exact ⟨aU5 (by have := HS.out; have := HV.out; omega), hb⟩
  ·by_cases hv : r = 44
   rotate_left
   ·have ht : (r == 44) = false := beq_eq_false_iff_ne.2 hv;go_wp2
    go_round
    case rel => exact ⟨6, by omega, by have := HS.out; omega, rfl⟩
    case measure => simp [intOf]
   have ht : (r == 44) = true := beq_iff_eq.2 hv;have HV : Hid (r = 44) := hv;clear hv;go_wp2
   go_ret;exact ⟨aU5 (by have := HS.out; have := HV.out; omega), hb⟩
  ·go_wp2
   ·go_ret;exact ⟨aU5 (by have := HS.out; omega), hb⟩
   ·go_round
    case rel => exact ⟨7, by omega, by have := HS.out; omega, rfl⟩
    case measure => simp [intOf]
   go_round
   case rel => exact ⟨7, by omega, by have := HS.out; omega, rfl⟩
   case measure => simp [intOf]
  go_wp2
  go_ret;exact ⟨aU5 (by have := HS.out; omega), hb⟩
end Go.Proofs.YtiobfnpmidjijaaGreatDoor
namespace Go.Proofs.YtiobfnpmidjijaaGreatDoor
open Go.Proofs.Tryz
open Go.RowKit
open Go.Lib hiding intOf
def TokB (n : Int) : Prop := (97 ≤ n ∧ n ≤ 122) ∨ (48 ≤ n ∧ n ≤ 57) ∨ n = 45
def ValB (n : Int) : Prop := 32 ≤ n ∧ n ≤ 126
theorem dM2 (n : Int) : TokB n ↔ cls n = 1 ∨ cls n = 2 ∨ cls n = 3 := by
 have := aM7 n; unfold TokB; omega
theorem dM3 (n : Int) : ValB n ↔ cls n ≠ 7 := by
 have := aM7 n; unfold ValB; omega
theorem cF7 {n : Int} (h : TokB n) : n < 128 := by unfold TokB at h; omega
theorem cF8 {n : Int} (h : ValB n) : n < 128 := by unfold ValB at h; omega
def aA5 (p : Prop) (w : World) (e : Ending) (w' : World) : Prop := ∃ b : Bool, e = .returned (.bool b) ∧ (b = true ↔ p) ∧ Below w.heap.size w w'
theorem aA5.yes {p : Prop} {w w' : World} (hp : p) (hb : Below w.heap.size w w') : aA5 p w (.returned (.bool true)) w' := ⟨true, rfl, by simpa using hp, hb⟩
theorem aA5.no {p : Prop} {w w' : World} (hp : ¬ p) (hb : Below w.heap.size w w') : aA5 p w (.returned (.bool false)) w' := ⟨false, rfl, by simpa using hp, hb⟩
def AllB (p : Int → Prop) (s : Tx) : Prop := ∀ j (h : j < s.size), p ((s[j]'h).toNat : Int)
def bU3 (p : Int → Prop) (s : Tx) (pos : Nat) : Prop := ∀ j (h : j < s.size), j < pos → p ((s[j]'h).toNat : Int)
theorem aS1 (p : Int → Prop) (s : Tx) : bU3 p s 0 := fun _ _ h => absurd h (by omega)
theorem aV1 {p : Int → Prop} {s : ByteArray} {pos : Nat} (h : bU3 p s pos) (hp : ¬ pos < s.size) : AllB p s := fun j hj => h j hj (by omega)
theorem aS2 {p : Int → Prop} {s : ByteArray} {pos : Nat} (h : bU3 p s pos) (hp : pos < s.size) (hv : p ((s[pos]'hp).toNat : Int)) : bU3 p s (pos + 1) := by
 intro j hj a0;by_cases e : j = pos
 ·subst e; exact hv
 exact h j hj (by omega)
theorem cL4 {p : Int → Prop} (hs : ∀ n, p n → n < 128) (s : Tx) (pos : Nat) (hp : pos < s.size) (h : p ((Utf8.decode s pos).1 : Int)) :
  p ((s[pos]'hp).toNat : Int) ∧ (Utf8.decode s pos).2 = 1 := by
 by_cases ha : (s[pos]'hp).toNat < 128
 ·rw [decode_ascii s pos hp ha] at h ⊢;exact ⟨h, rfl⟩
 have := (decode_high s pos hp (by omega)).1;have := hs _ h;omega
theorem cL5 {p : Int → Prop} (hs : ∀ n, p n → n < 128) (s : Tx) (pos : Nat) (hp : pos < s.size) (h : ¬ p ((Utf8.decode s pos).1 : Int)) : ¬ AllB p s := by
 intro ha;have h1 := ha pos hp;have h2 := hs _ h1;rw [decode_ascii s pos hp (by omega)] at h;exact h h1
theorem aI2 {w wr w1 : World} {s : ByteArray} {pos p1 : Nat} (hh : wr.heap[w.heap.size]? = some (.stringIter s pos)) (hbw : Below w.heap.size w wr)
  (hb1 : Below (wr.iterAt w.heap.size s p1).heap.size (wr.iterAt w.heap.size s p1) w1) : w1.heap[w.heap.size]? = some (.stringIter s p1) ∧ Below w.heap.size w w1 := by
 have a0 : w.heap.size < wr.heap.size := (blt hh);refine ⟨?_, ?_⟩
 ·rw [hb1.block _ (by rw [iterAt_size]; exact a0)];exact iterAt_heap _ _ _ _ _ hh
 exact (below_iterAt hbw (Nat.le_refl _) s p1).trans (hb1.mono (by rw [iterAt_size]; omega))
theorem bN1 (r : Int) (w : World) :
  Calls prog 300 #[.int .i32 r] w fun e w' => aA5 (TokB r) w e w' := by
 rw [dM2];go_enter func300, ntmps300;go_wp2_with (go_at_call 297; refine (aG8 _ _).mono ?_; rintro e w1 ⟨rfl, hb⟩)
 all_goals
  go_ret
  exact ⟨_, rfl, by simp_all, hb⟩
theorem bN2 (r : Int) (w : World) :
  Calls prog 301 #[.int .i32 r] w fun e w' => aA5 (ValB r) w e w' := by
 rw [dM3];go_enter func301, ntmps301;go_wp2_with (go_at_call 297; refine (aG8 _ _).mono ?_; rintro e w1 ⟨rfl, hb⟩)
 go_ret;exact ⟨_, rfl, by simp, hb⟩
theorem cF9 (s : Tx) (w : World) :
  Calls prog 254 #[.string s, .func (.func 300) #[] #[]] w fun e w' => aA5 (AllB TokB s) w e w' := by
 go_enter func254, ntmps254;go_wp2
 go_loopw [6] (fun _ wr => ∃ pos : Nat, wr.heap[w.heap.size]? = some (.stringIter s pos) ∧ Bw w wr ∧ Hid (bU3 TokB s pos)) (fun _ wr => s.size - wr.iterPos w.heap.size)
 case atStart => exact ⟨0, World.iter_heap _ _ _, (Below.refl _ _).alloc (Nat.le_refl _) _, aS1 _ _⟩
 case round =>
  obtain ⟨pos, hh, a2, a0⟩ := hrel;by_cases hp : pos < s.size
  rotate_left
  ·have a5 := fun ty => run_next_end_at (P := prog) wr w.heap.size s pos ty hh hp
   go_wp2
   go_ret;exact aA5.yes (aV1 a0.out hp) a2
  have a5 := fun ty => run_next_any_at (P := prog) wr w.heap.size s pos ty hh hp
  go_wp2_with (go_at_call 300; refine (bN1 _ _).mono ?_; rintro e w1 ⟨b, rfl, hbt, a3⟩)
  ·have a1 : b = false := by simpa using ‹(!b) = true›
   have a6 : ¬ TokB ((Utf8.decode s pos).1 : Int) := fun h => by rw [hbt.2 h] at a1; cases a1
   go_ret;exact aA5.no (cL5 (fun _ => cF7) s pos hp a6) (aI2 hh a2 a3).2
  have a1 : b = true := by simpa using ‹(!b) = false›
  obtain ⟨hv, a4⟩ := cL4 (fun _ => cF7) s pos hp (hbt.1 a1)
  rw [a4] at a3;obtain ⟨h1, h2⟩ := aI2 hh a2 a3;exact ⟨⟨pos + 1, h1, h2, aS2 a0.out hp hv⟩, by rw [iterPos_of h1, iterPos_of hh]; omega⟩
theorem cG0 (s : Tx) (w : World) :
  Calls prog 254 #[.string s, .func (.func 301) #[] #[]] w fun e w' => aA5 (AllB ValB s) w e w' := by
 go_enter func254, ntmps254;go_wp2
 go_loopw [6] (fun _ wr => ∃ pos : Nat, wr.heap[w.heap.size]? = some (.stringIter s pos) ∧ Bw w wr ∧ Hid (bU3 ValB s pos)) (fun _ wr => s.size - wr.iterPos w.heap.size)
 case atStart => exact ⟨0, World.iter_heap _ _ _, (Below.refl _ _).alloc (Nat.le_refl _) _, aS1 _ _⟩
 case round =>
  obtain ⟨pos, hh, a2, a0⟩ := hrel;by_cases hp : pos < s.size
  rotate_left
  ·have a5 := fun ty => run_next_end_at (P := prog) wr w.heap.size s pos ty hh hp
   go_wp2
   go_ret;exact aA5.yes (aV1 a0.out hp) a2
  have a5 := fun ty => run_next_any_at (P := prog) wr w.heap.size s pos ty hh hp
  go_wp2_with (go_at_call 301; refine (bN2 _ _).mono ?_; rintro e w1 ⟨b, rfl, hbt, a3⟩)
  ·have a1 : b = false := by simpa using ‹(!b) = true›
   have a6 : ¬ ValB ((Utf8.decode s pos).1 : Int) := fun h => by rw [hbt.2 h] at a1; cases a1
   go_ret;exact aA5.no (cL5 (fun _ => cF8) s pos hp a6) (aI2 hh a2 a3).2
  have a1 : b = true := by simpa using ‹(!b) = false›
  obtain ⟨hv, a4⟩ := cL4 (fun _ => cF8) s pos hp (hbt.1 a1)
  rw [a4] at a3;obtain ⟨h1, h2⟩ := aI2 hh a2 a3;exact ⟨⟨pos + 1, h1, h2, aS2 a0.out hp hv⟩, by rw [iterPos_of h1, iterPos_of hh]; omega⟩
def aK6 (s : Tx) : Prop := 1 ≤ s.size ∧ s.size ≤ 20 ∧ AllB TokB s
theorem aS5 (s : Tx) (w : World) (hs : s.size ≤ maxLen) :
  Calls prog 259 #[.string s] w fun e w' => aA5 (aK6 s) w e w' := by
 unfold maxLen at hs;by_cases h1 : (1 : Int) ≤ (s.size : Int)
 rotate_left
 ·go_enter func259, ntmps259;go_wp2_with fail
  go_ret;exact aA5.no (by unfold aK6; omega) (Below.refl _ _)
 by_cases h2 : (s.size : Int) ≤ 20
 rotate_left
 ·go_enter func259, ntmps259;go_wp2_with fail
  go_ret;exact aA5.no (by unfold aK6; omega) (Below.refl _ _)
 go_enter func259, ntmps259;go_wp2_with (go_at_call 254; refine (cF9 _ _).mono ?_; rintro e w1 ⟨b, rfl, hbt, a0⟩)
 go_ret;exact ⟨b, rfl, by unfold aK6; rw [hbt]; exact ⟨fun h => ⟨by omega, by omega, h⟩, fun h => h.2.2⟩, a0⟩
theorem aS6 (s : Tx) (w : World) (hs : s.size ≤ maxLen) :
    Calls prog 163 #[.string s] w fun e w' => aA5 (aK6 s) w e w' := by
  unfold maxLen at hs;go_enter func163, ntmps163;go_wp2
  go_loop [3] (fun i => ∃ k : Nat, k ≤ s.size ∧ i = .int .i64 k ∧ Hid (bU3 TokB s k)) (fun i => s.size - (intOf i).toNat)
  case atStart => exact ⟨0, Nat.zero_le _, rfl, aS1 _ _⟩
  case round =>
    obtain ⟨k, hk, rfl, a0⟩ := hrel;by_cases hlt : k < s.size
    rotate_left
    ·have a1 : Hid (AllB TokB s) := aV1 a0.out hlt;by_cases h1 : (1 : Int) ≤ (s.size : Int)
     rotate_left
     ·go_wp2
      go_ret;exact aA5.no (by unfold aK6; omega) (Below.refl _ _)
     by_cases h2 : (s.size : Int) ≤ 20
     rotate_left
     ·go_wp2
      go_ret;exact aA5.no (by unfold aK6; omega) (Below.refl _ _)
     go_wp2
     go_ret;exact aA5.yes ⟨by omega, by omega, a1.out⟩ (Below.refl _ _)
    go_wp2
    all_goals first
      | (go_ret
         have a2 : ¬ TokB ((s[k]'hlt).toNat : Int) := by
           unfold TokB
           try simp only [bne_iff_ne, ne_eq] at *
           omega
         exact aA5.no (fun h => a2 (h.2.2 k hlt)) (Below.refl _ _))
      | (go_round
         case rel =>
           have hy : TokB ((s[k]'hlt).toNat : Int) := by
             unfold TokB
             try simp only [bne_eq_false_iff_eq] at *
             omega
           exact ⟨k + 1, by omega, by go_num, aS2 a0.out hlt hy⟩
         case measure => simp [intOf]; omega)
end Go.Proofs.YtiobfnpmidjijaaGreatDoor
namespace Go.Proofs
open Go.Shelf
def Tryz.lays169_ren : Go.Shelf.Ren := ⟨fun | 169 => 90 | n => n, fun | 70 => 134 | 9 => 9 | 0 => 0 | 72 => 136 | 37 => 22 | 127 => 229 | 3 => 3 | 5 => 5 | n => n, fun | n => n⟩
theorem Tryz.lays169 : Go.Proofs.Lays.n169 prog Tryz.lays169_ren := {
  mixed := by kernel_rfl
  f169 := func90.trans (congrArg some (by kernel_rfl))
  t0 := underlying0
  a0 := isAgg0
  z0 := sizeOf0
  v0 := zeroValue0
  t3 := underlying3
  a3 := isAgg3
  z3 := sizeOf3
  v3 := zeroValue3
  t9 := underlying9
  a9 := isAgg9
  z9 := sizeOf9
  v9 := zeroValue9
  t37 := underlying22
  a37 := isAgg22
  z37 := sizeOf22
  v37 := zeroValue22
  t70 := underlying134
  a70 := isAgg134
  z70 := sizeOf134
  v70 := zeroValue134
  t72 := underlying136
  a72 := isAgg136
  z72 := sizeOf136
  v72 := zeroValue136
  t127 := underlying229
  a127 := isAgg229
  z127 := sizeOf229
  v127 := zeroValue229 }
theorem Tryz.Builder_Extra_169 : Builder.Extra prog Tryz.lays169_ren := {
  sizeBuilder := by kernel_rfl
  liesBuilder := by kernel_rfl
  t5 := underlying5
  a5 := isAgg5
  z5 := sizeOf5
  v5 := zeroValue5
  infoByte := by kernel_rfl
  cellsByte := by kernel_rfl
  sizeByte := by kernel_rfl
  neB5 := by decide }
open Go.RowKit in
theorem Tryz.Builder_String_any (B b : Nat) (l : List UInt8) (w : World) (h : Lib.IsBuilder 136 5 B b (Lib.byteCells l) w) (hBw : B ≤ w.heap.size) :
    Calls prog 90 #[.pointer (some ⟨b, 0, none⟩)] w fun e w' => e = .returned (.string ⟨l.toArray⟩) ∧ Below B w w' := Any.Builder_String_any Tryz.lays169 Tryz.Builder_Extra_169 B b l w h hBw
def Tryz.laysM171_ren : Go.Shelf.Ren := ⟨fun | 171 => 188 | 243 => 262 | 246 => 302 | 283 => 330 | 284 => 331 | 285 => 332 | 286 => 333 | 129 => 326 | 317 => 353 | 318 => 354 | 319 => 355 | 320 => 356 | 337 => 363 | 338 => 364 | n => n, fun | 3 => 3 | 9 => 9 | 2 => 2 | 4 => 4 | 171 => 367 | 0 => 0 | 53 => 364 | 37 => 22 | 5 => 5 | 173 => 369 | 212 => 381 | 51 => 362 | 20 => 20 | 213 => 382 | 46 => 301 | 232 => 390 | 233 => 391 | n => n, fun | 17 => 2 | 18 => 3 | 19 => 4 | n => n⟩
theorem Tryz.laysM171 : Go.Proofs.LaysM.n171 prog Tryz.laysM171_ren := {
  mixed := by kernel_rfl
  f129 := func326.trans (congrArg some (by kernel_rfl))
  f171 := func188.trans (congrArg some (by kernel_rfl))
  f243 := func262.trans (congrArg some (by kernel_rfl))
  f246 := func302.trans (congrArg some (by kernel_rfl))
  f283 := func330.trans (congrArg some (by kernel_rfl))
  f284 := func331.trans (congrArg some (by kernel_rfl))
  f285 := func332.trans (congrArg some (by kernel_rfl))
  f286 := func333.trans (congrArg some (by kernel_rfl))
  f317 := func353.trans (congrArg some (by kernel_rfl))
  f318 := func354.trans (congrArg some (by kernel_rfl))
  f319 := func355.trans (congrArg some (by kernel_rfl))
  f320 := func356.trans (congrArg some (by kernel_rfl))
  f337 := func363.trans (congrArg some (by kernel_rfl))
  f338 := func364.trans (congrArg some (by kernel_rfl))
  t0 := underlying0
  a0 := isAgg0
  z0 := sizeOf0
  v0 := zeroValue0
  t2 := underlying2
  a2 := isAgg2
  z2 := sizeOf2
  v2 := zeroValue2
  t3 := underlying3
  a3 := isAgg3
  z3 := sizeOf3
  v3 := zeroValue3
  t4 := underlying4
  a4 := isAgg4
  z4 := sizeOf4
  v4 := zeroValue4
  t5 := underlying5
  a5 := isAgg5
  z5 := sizeOf5
  v5 := zeroValue5
  t9 := underlying9
  a9 := isAgg9
  z9 := sizeOf9
  v9 := zeroValue9
  t20 := underlying20
  a20 := isAgg20
  z20 := sizeOf20
  v20 := zeroValue20
  t37 := underlying22
  a37 := isAgg22
  z37 := sizeOf22
  v37 := zeroValue22
  t46 := underlying301
  a46 := isAgg301
  z46 := sizeOf301
  v46 := zeroValue301
  t51 := underlying362
  a51 := isAgg362
  z51 := sizeOf362
  v51 := zeroValue362
  t53 := underlying364
  a53 := isAgg364
  z53 := sizeOf364
  v53 := zeroValue364
  t171 := underlying367
  a171 := isAgg367
  z171 := sizeOf367
  v171 := zeroValue367
  t173 := underlying369
  a173 := isAgg369
  z173 := sizeOf369
  v173 := zeroValue369
  t212 := underlying381
  a212 := isAgg381
  z212 := sizeOf381
  v212 := zeroValue381
  t213 := underlying382
  a213 := isAgg382
  z213 := sizeOf382
  t232 := underlying390
  a232 := isAgg390
  z232 := sizeOf390
  v232 := zeroValue390
  t233 := underlying391
  a233 := isAgg391
  z233 := sizeOf391
  v233 := zeroValue391
  g17 := by kernel_rfl
  g18 := by kernel_rfl
  g19 := by kernel_rfl
  i0 := by kernel_rfl
  i2 := by kernel_rfl
  i3 := by kernel_rfl
  i4 := by kernel_rfl
  i5 := by kernel_rfl
  i9 := by kernel_rfl
  i20 := by kernel_rfl
  i37 := by kernel_rfl
  i46 := by kernel_rfl
  i51 := by kernel_rfl
  i53 := by kernel_rfl
  i171 := by kernel_rfl
  i173 := by kernel_rfl
  i212 := by kernel_rfl
  i232 := by kernel_rfl
  i233 := by kernel_rfl
  m17 := by kernel_rfl
  m18 := by kernel_rfl
  m19 := by kernel_rfl }
open Go.RowKit Go.Sort Go.Lib in
theorem Tryz.strconv_Itoa (n : Int) (h0 : -9223372036854775808 ≤ n) (h1 : n ≤ 9223372036854775807) (w : World) (htab : Lib.TabIs prog w "internal/strconv.uint64pow10" .u64 Lib.pow10Tab) :
    Calls prog 188 #[.int .i64 n] w fun e w' => e = .returned (.string ⟨(Lib.itoa n).toArray⟩) ∧ ∃ k os, w' = grow (w.drewN k) os := Any.strconv_Itoa Tryz.laysM171 n h0 h1 w htab
def Tryz.laysM316_ren : Go.Shelf.Ren := ⟨fun | 316 => 265 | n => n, fun | 9 => 9 | 3 => 3 | 4 => 4 | 37 => 22 | 0 => 0 | 127 => 229 | 5 => 5 | n => n, fun | n => n⟩
theorem Tryz.laysM316 : Go.Proofs.LaysM.n316 prog Tryz.laysM316_ren := {
  mixed := by kernel_rfl
  f316 := func265.trans (congrArg some (by kernel_rfl))
  t0 := underlying0
  a0 := isAgg0
  z0 := sizeOf0
  v0 := zeroValue0
  t3 := underlying3
  a3 := isAgg3
  z3 := sizeOf3
  v3 := zeroValue3
  t4 := underlying4
  a4 := isAgg4
  z4 := sizeOf4
  v4 := zeroValue4
  t9 := underlying9
  a9 := isAgg9
  z9 := sizeOf9
  v9 := zeroValue9
  t37 := underlying22
  a37 := isAgg22
  z37 := sizeOf22
  v37 := zeroValue22
  t127 := underlying229
  a127 := isAgg229
  z127 := sizeOf229
  v127 := zeroValue229
  t5 := underlying5
  a5 := isAgg5
  z5 := sizeOf5
  v5 := zeroValue5
  i0 := by kernel_rfl
  i3 := by kernel_rfl
  i4 := by kernel_rfl
  i5 := by kernel_rfl
  i9 := by kernel_rfl
  i37 := by kernel_rfl
  i127 := by kernel_rfl }
open Go.RowKit in
theorem Tryz.stringslite_Clone (s : ByteArray) (w : World) (hlim : s.size ≤ 281474976710656) :
    Calls prog 265 #[.string s] w fun e w' => e = .returned (.string s) ∧ Below w.heap.size w w' := Any.stringslite_Clone Tryz.laysM316 s w hlim
def Tryz.lays145_ren : Go.Shelf.Ren := ⟨fun | 145 => 310 | 220 => 335 | 219 => 359 | 217 => 365 | 225 => 366 | 224 => 367 | 267 => 368 | 266 => 371 | 314 => 372 | n => n, fun | 9 => 9 | 4 => 4 | 59 => 337 | 3 => 3 | 5 => 5 | 46 => 301 | 146 => 392 | 51 => 362 | n => n, fun | 1 => 1 | n => n⟩
theorem Tryz.lays145 : Go.Proofs.Lays.n145 prog Tryz.lays145_ren := {
  mixed := by kernel_rfl
  f145 := func310.trans (congrArg some (by kernel_rfl))
  f217 := func365.trans (congrArg some (by kernel_rfl))
  f219 := func359.trans (congrArg some (by kernel_rfl))
  f220 := func335.trans (congrArg some (by kernel_rfl))
  f224 := func367.trans (congrArg some (by kernel_rfl))
  f225 := func366.trans (congrArg some (by kernel_rfl))
  f266 := func371.trans (congrArg some (by kernel_rfl))
  f267 := func368.trans (congrArg some (by kernel_rfl))
  f314 := func372.trans (congrArg some (by kernel_rfl))
  t3 := underlying3
  a3 := isAgg3
  z3 := sizeOf3
  v3 := zeroValue3
  t4 := underlying4
  a4 := isAgg4
  z4 := sizeOf4
  v4 := zeroValue4
  t5 := underlying5
  a5 := isAgg5
  z5 := sizeOf5
  v5 := zeroValue5
  t9 := underlying9
  a9 := isAgg9
  z9 := sizeOf9
  v9 := zeroValue9
  t46 := underlying301
  a46 := isAgg301
  z46 := sizeOf301
  v46 := zeroValue301
  t51 := underlying362
  a51 := isAgg362
  z51 := sizeOf362
  v51 := zeroValue362
  t59 := underlying337
  a59 := isAgg337
  z59 := sizeOf337
  v59 := zeroValue337
  t146 := underlying392
  a146 := isAgg392
  z146 := sizeOf392
  v146 := zeroValue392
  g1 := by kernel_rfl }
open Go.RowKit Go.Lib in
theorem Tryz.strings_Cut (s sep : ByteArray) (m : Int) (w : World) (hs : s.size < 4294967281) (hm : w.cell? ⟨1, 0, none⟩ = some (.int .i64 m)) :
    Calls prog 310 #[.string s, .string sep] w fun e w' => e = .returned (.tuple #[.string ⟨(Lib.cut s.data.toList sep.data.toList).1.toArray⟩, .string ⟨(Lib.cut s.data.toList sep.data.toList).2.1.toArray⟩, .bool (Lib.cut s.data.toList sep.data.toList).2.2]) ∧ ∃ n, w' = w.drewN n := Any.strings_Cut Tryz.lays145 s sep m w hs hm
def Tryz.laysM145_ren : Go.Shelf.Ren := ⟨fun | 145 => 310 | 220 => 335 | 219 => 359 | 217 => 365 | 225 => 366 | 224 => 367 | 267 => 368 | 266 => 371 | 314 => 372 | n => n, fun | 9 => 9 | 4 => 4 | 59 => 337 | 3 => 3 | 5 => 5 | 46 => 301 | 146 => 392 | 51 => 362 | n => n, fun | 1 => 1 | n => n⟩
theorem Tryz.laysM145 : Go.Proofs.LaysM.n145 prog Tryz.laysM145_ren := {
  mixed := by kernel_rfl
  f145 := func310.trans (congrArg some (by kernel_rfl))
  f217 := func365.trans (congrArg some (by kernel_rfl))
  f219 := func359.trans (congrArg some (by kernel_rfl))
  f220 := func335.trans (congrArg some (by kernel_rfl))
  f224 := func367.trans (congrArg some (by kernel_rfl))
  f225 := func366.trans (congrArg some (by kernel_rfl))
  f266 := func371.trans (congrArg some (by kernel_rfl))
  f267 := func368.trans (congrArg some (by kernel_rfl))
  f314 := func372.trans (congrArg some (by kernel_rfl))
  t3 := underlying3
  a3 := isAgg3
  z3 := sizeOf3
  v3 := zeroValue3
  t4 := underlying4
  a4 := isAgg4
  z4 := sizeOf4
  v4 := zeroValue4
  t5 := underlying5
  a5 := isAgg5
  z5 := sizeOf5
  v5 := zeroValue5
  t9 := underlying9
  a9 := isAgg9
  z9 := sizeOf9
  v9 := zeroValue9
  t46 := underlying301
  a46 := isAgg301
  z46 := sizeOf301
  v46 := zeroValue301
  t51 := underlying362
  a51 := isAgg362
  z51 := sizeOf362
  v51 := zeroValue362
  t59 := underlying337
  a59 := isAgg337
  z59 := sizeOf337
  v59 := zeroValue337
  t146 := underlying392
  a146 := isAgg392
  z146 := sizeOf392
  v146 := zeroValue392
  g1 := by kernel_rfl
  i3 := by kernel_rfl
  i4 := by kernel_rfl
  i5 := by kernel_rfl
  i9 := by kernel_rfl
  i46 := by kernel_rfl
  i51 := by kernel_rfl
  i59 := by kernel_rfl
  i146 := by kernel_rfl
  m1 := by kernel_rfl
  s1_3 := fun w h => Go.Proofs.cell_of_shapedOpen_int (zero := #[.int .i64 0]) (t := 3) h (of_decide_eq_true (by kernel_rfl)) (by kernel_rfl) rfl (by kernel_rfl) (by kernel_rfl) underlying3 }
def Tryz.lays99_ren : Go.Shelf.Ren := ⟨fun | 99 => 373 | 206 => 360 | n => n, fun | 9 => 9 | 4 => 4 | 3 => 3 | n => n, fun | n => n⟩
theorem Tryz.lays99 : Go.Proofs.Lays.n99 prog Tryz.lays99_ren := {
  mixed := by kernel_rfl
  f99 := func373.trans (congrArg some (by kernel_rfl))
  f206 := func360.trans (congrArg some (by kernel_rfl))
  t3 := underlying3
  a3 := isAgg3
  z3 := sizeOf3
  v3 := zeroValue3
  t4 := underlying4
  a4 := isAgg4
  z4 := sizeOf4
  v4 := zeroValue4
  t9 := underlying9
  a9 := isAgg9
  z9 := sizeOf9
  v9 := zeroValue9 }
open Go.RowKit Go.Lib in
theorem Tryz.strings_HasPrefix (s p : ByteArray) (w : World) :
    Calls prog 373 #[.string s, .string p] w fun e w' => e = .returned (.bool (Lib.hasPrefix s.data.toList p.data.toList)) ∧ w' = w := Any.strings_HasPrefix Tryz.lays99 s p w
def Tryz.lays101_ren : Go.Shelf.Ren := ⟨fun | 101 => 315 | 208 => 336 | 206 => 360 | n => n, fun | 9 => 9 | 4 => 4 | 3 => 3 | n => n, fun | n => n⟩
theorem Tryz.lays101 : Go.Proofs.Lays.n101 prog Tryz.lays101_ren := {
  mixed := by kernel_rfl
  f101 := func315.trans (congrArg some (by kernel_rfl))
  f206 := func360.trans (congrArg some (by kernel_rfl))
  f208 := func336.trans (congrArg some (by kernel_rfl))
  t3 := underlying3
  a3 := isAgg3
  z3 := sizeOf3
  v3 := zeroValue3
  t4 := underlying4
  a4 := isAgg4
  z4 := sizeOf4
  v4 := zeroValue4
  t9 := underlying9
  a9 := isAgg9
  z9 := sizeOf9
  v9 := zeroValue9 }
open Go.RowKit Go.Lib in
theorem Tryz.strings_TrimPrefix (s p : ByteArray) (w : World) :
    Calls prog 315 #[.string s, .string p] w fun e w' => e = .returned (.string ⟨(Lib.trimPrefix s.data.toList p.data.toList).toArray⟩) ∧ w' = w := Any.strings_TrimPrefix Tryz.lays101 s p w
def Tryz.lays193_ren : Go.Shelf.Ren := ⟨fun | 193 => 183 | n => n, fun | 31 => 24 | 9 => 9 | 4 => 4 | 3 => 3 | 0 => 0 | n => n, fun | n => n⟩
theorem Tryz.lays193 : Go.Proofs.Lays.n193 prog Tryz.lays193_ren := {
  mixed := by kernel_rfl
  f193 := func183.trans (congrArg some (by kernel_rfl))
  t0 := underlying0
  a0 := isAgg0
  z0 := sizeOf0
  v0 := zeroValue0
  t3 := underlying3
  a3 := isAgg3
  z3 := sizeOf3
  v3 := zeroValue3
  t4 := underlying4
  a4 := isAgg4
  z4 := sizeOf4
  v4 := zeroValue4
  t9 := underlying9
  a9 := isAgg9
  z9 := sizeOf9
  v9 := zeroValue9
  t31 := underlying24
  a31 := isAgg24
  z31 := sizeOf24
  v31 := zeroValue24 }
open Go.RowKit Go.Lib in
theorem Tryz.slices_Equal_string (b1 o1 n c b2 o2 m d : Nat) (xs ys : List ByteArray) (w : World) (hx : n ≤ xs.length) (hy : m ≤ ys.length) (hbig : n ≤ 9223372036854775807) (hbig2 : m ≤ 9223372036854775807) (hc1 : ∀ j, j < xs.length → w.cell? ⟨b1, o1 + j, none⟩ = some (.string (xs.getD j ByteArray.empty))) (hc2 : ∀ j, j < ys.length → w.cell? ⟨b2, o2 + j, none⟩ = some (.string (ys.getD j ByteArray.empty))) :
    Calls prog 183 #[.slice (some ⟨b1, o1, none⟩) n c, .slice (some ⟨b2, o2, none⟩) m d] w fun e w' => e = .returned (.bool (decide (xs.take n = ys.take m))) ∧ ∃ q, w' = w.drewN q := Any.slices_Equal_string Tryz.lays193 b1 o1 n c b2 o2 m d xs ys w hx hy hbig hbig2 hc1 hc2
open Go.RowKit Go.Lib in
theorem Tryz.slices_Equal_string_empty (a1 a2 : Option Addr) (c m d : Nat) (w : World) (hbig2 : m ≤ 9223372036854775807) :
    Calls prog 183 #[.slice a1 0 c, .slice a2 m d] w fun e w' => e = .returned (.bool (decide (m = 0))) ∧ w' = w := Any.slices_Equal_string_empty Tryz.lays193 a1 a2 c m d w hbig2
open Go.RowKit Go.Lib in
theorem Tryz.slices_Equal_string_lens (a1 a2 : Option Addr) (n c m d : Nat) (w : World) (hnm : n ≠ m) :
    Calls prog 183 #[.slice a1 n c, .slice a2 m d] w fun e w' => e = .returned (.bool false) ∧ w' = w := Any.slices_Equal_string_lens Tryz.lays193 a1 a2 n c m d w hnm
end Go.Proofs
namespace Go.Proofs.YtiobfnpmidjijaaGreatDoor
open Go.Proofs.Tryz
open Go.RowKit
theorem dU8 : (prog.info? 5).map (fun i => (i.zero, i.size, i.bytes)) = some (some (.int .u8 0), 1, 1) := by kernel_rfl
theorem aF3 (s : Tx) (w : World) (hlim : s.size ≤ 281474976710656) :
  Calls prog 194 #[.string s] w fun e w' => e = .returned (.string s) ∧ Below w.heap.size w w' := by
 go_enter func194, ntmps194;go_wp2_with (go_at_call 265; refine (Tryz.stringslite_Clone _ _ hlim).mono ?_; rintro e w1 ⟨rfl, a0⟩)
 go_ret;exact ⟨rfl, a0⟩
end Go.Proofs.YtiobfnpmidjijaaGreatDoor
namespace Go.Proofs.YtiobfnpmidjijaaGreatDoor
open Go.Proofs.Tryz
def aQ3 : List UInt8 → List UInt8
 | [] => []
 | b :: r => if b.toNat = 32 then aQ3 r else b :: r
def bL2 (l : List UInt8) : List UInt8 := (aQ3 (aQ3 l).reverse).reverse
def aI0 (s : Tx) : ByteArray := ⟨(bL2 s.data.toList).toArray⟩
theorem aU1 : ∀ (x y : List UInt8), (∀ b ∈ x, b.toNat = 32) → aQ3 (x ++ y) = aQ3 y
 | [], _, _ => rfl
 | b :: r, y, h => by
  rw [List.cons_append, aQ3, if_pos (h b (by simp))]
  exact aU1 r y (fun c hc => h c (by simp [hc]))
theorem bD1 (b : UInt8) (r : List UInt8) (h : b.toNat ≠ 32) : aQ3 (b :: r) = b :: r := by rw [aQ3, if_neg h]
structure dQ2 (s : Tx) (a b : Nat) : Prop where
 le : a ≤ b
 size : b ≤ s.size
 lead : ∀ j (h : j < s.size), j < a → (s[j]'h).toNat = 32
 tail : ∀ j (h : j < s.size), b ≤ j → (s[j]'h).toNat = 32
 first : ∀ h : a < s.size, a < b → (s[a]'h).toNat ≠ 32
 last : ∀ h : b - 1 < s.size, a < b → (s[b - 1]'h).toNat ≠ 32
theorem dH1 (l : List UInt8) (a b : Nat) (h : a ≤ b) : l = l.take a ++ ((l.take b).drop a ++ l.drop b) := by
 have h1 : (l.take b).take a = l.take a := by rw [List.take_take, Nat.min_eq_left h]
 have h2 : l.take b = l.take a ++ (l.take b).drop a := by
  have := (List.take_append_drop a (l.take b)).symm
  rw [h1] at this
  exact this
 have h3 := (List.take_append_drop b l).symm;rw [h2, List.append_assoc] at h3;exact h3
theorem cZ3 (x y z : List UInt8) (hx : ∀ b ∈ x, b.toNat = 32) (hz : ∀ b ∈ z, b.toNat = 32) (h0 : ∀ b, y.head? = some b → b.toNat ≠ 32) (h1 : ∀ b, y.getLast? = some b → b.toNat ≠ 32) : bL2 (x ++ (y ++ z)) = y := by
 unfold bL2;rw [aU1 x _ hx];cases y with
 | nil =>
  have : aQ3 ([] ++ z) = [] := by
   have := aU1 z [] hz
   simpa [aQ3] using this
  rw [this]; rfl
 | cons b r =>
  rw [List.cons_append, bD1 b _ (h0 b rfl), ← List.cons_append, List.reverse_append, aU1 _ _ (fun c hc => hz c (by simpa using hc))]
  cases hl : (b :: r).reverse with
  | nil => simp at hl
  | cons c q =>
   have hc : (b :: r).getLast? = some c := by rw [List.getLast?_eq_head?_reverse, hl]; rfl
   rw [bD1 c q (h1 c hc), ← hl, List.reverse_reverse]
theorem aR7 (s : Tx) (j : Nat) (h : j < s.size) : s.data.toList[j]? = some (s[j]'h) := by
 rw [List.getElem?_eq_getElem (by simpa using h)];rfl
theorem bN3 {s : ByteArray} {a b : Nat} (h : dQ2 s a b) : s.extract a b = aI0 s := by
 have a0 : s.data.toList.length = s.size := by simp
 have a2 : (s.extract a b).data.toList = (s.data.toList.take b).drop a := by
  rw [ByteArray.data_extract, Array.toList_extract]
  simp [List.extract, List.drop_take]
 have hcut := dH1 s.data.toList a b h.le
 have hm := cZ3 (s.data.toList.take a) ((s.data.toList.take b).drop a) (s.data.toList.drop b)
  (fun x hx => by
   obtain ⟨j, hj, rfl⟩ := List.getElem_of_mem hx
   have a1 : j < a ∧ j < s.size := by rw [List.length_take, a0] at hj; omega
   have := h.lead j a1.2 a1.1
   rw [List.getElem_take]; exact this)
  (fun x hx => by
   obtain ⟨j, hj, rfl⟩ := List.getElem_of_mem hx
   have a1 : b + j < s.size := by rw [List.length_drop, a0] at hj; omega
   have := h.tail (b + j) a1 (by omega)
   rw [List.getElem_drop]; exact this)
  (fun x hx => by
   rw [List.head?_eq_getElem?, List.getElem?_drop, List.getElem?_take] at hx
   split at hx
   ·rename_i hlt
    have ha : a < s.size := by have := h.size; omega
    rw [Nat.add_zero, aR7 s a ha] at hx
    cases hx
    exact h.first ha (by omega)
   ·cases hx)
  (fun x hx => by
   rw [List.getLast?_eq_getElem?, List.getElem?_drop, List.getElem?_take, List.length_drop, List.length_take, a0] at hx
   have hsz := h.size; have a3 := h.le
   rw [Nat.min_eq_left hsz] at hx
   split at hx
   ·rename_i hlt
    have e : a + (b - a - 1) = b - 1 := by omega
    have hb : b - 1 < s.size := by omega
    rw [e, aR7 s (b - 1) hb] at hx
    cases hx
    exact h.last hb (by omega)
   ·cases hx)
 rw [← hcut] at hm;apply ByteArray.ext
 unfold aI0;rw [hm, ← a2]
theorem cL6 {s : ByteArray} (h0 : ∀ h : 0 < s.size, (s[0]'h).toNat ≠ 32) (h1 : ∀ h : s.size - 1 < s.size, (s[s.size - 1]'h).toNat ≠ 32) : aI0 s = s := by
 rw [← bN3 (s := s) (a := 0) (b := s.size) ⟨Nat.zero_le _, Nat.le_refl _, fun _ _ h => absurd h (by omega), fun _ h h' => absurd h (by omega), fun h _ => h0 h, fun h _ => h1 h⟩]
 apply ByteArray.ext
 simp
end Go.Proofs.YtiobfnpmidjijaaGreatDoor
namespace Go.Proofs.YtiobfnpmidjijaaGreatDoor
open Go.Proofs.Tryz
open Go.RowKit
open Go.Lib hiding intOf
def aD5 (t : Tx) (w : World) (e : Ending) (w' : World) : Prop := e = .returned (.string t) ∧ Below w.heap.size w w'
theorem aD5.of {t u : ByteArray} {w w' : World} (h : u = t) (hb : Below w.heap.size w w') : aD5 t w (.returned (.string u)) w' := ⟨by rw [h], hb⟩
theorem aQ4 (s : Tx) (w : World) (hs : s.size ≤ maxLen) :
  Calls prog 242 #[.string s] w fun e w' => aD5 (aI0 s) w e w' := by
 unfold maxLen at hs;go_enter func242, ntmps242;go_wp2
 go_loop [3] (fun i => ∃ k : Nat, k ≤ s.size ∧ i = .int .i64 k ∧ Hid (∀ j (h : j < s.size), j < k → (s[j]'h).toNat = 32)) (fun i => s.size - (intOf i).toNat)
 case atStart => exact ⟨0, Nat.zero_le _, rfl, fun _ _ h => absurd h (by omega)⟩
 case round =>
  obtain ⟨k, hk, rfl, a0⟩ := hrel;by_cases hlt : k < s.size
  rotate_left
  ·have hT : Hid (ByteArray.empty = aI0 s) := (show ByteArray.empty = s.extract s.size s.size by simp).trans (bN3 ⟨Nat.le_refl _, Nat.le_refl _, fun j h _ => a0.out j h (by omega), fun j h hj => absurd h (by omega), fun h => absurd h (by omega), fun _ h => absurd h (by omega)⟩)
   obtain rfl : k = s.size := by omega
   go_wp2
   go_loop [4] (fun t => t = .int .i64 (s.size : Int)) (fun t => (intOf t).toNat)
   case atStart => exact rfl
   case round =>
    subst hrel;go_wp2
    go_ret;exact aD5.of hT.out (Below.refl _ _)
  by_cases hb : (s[k]'hlt).toNat = 32
  ·have a2 : (((s[k]'hlt).toNat : Int) == 32) = true := by simp [hb]
   have HB := hid hb;clear hb;go_wp2
   go_round
   case rel =>
    refine ⟨k + 1, by omega, by go_num, ?_⟩;intro j h hj;by_cases e : j = k
    ·subst e; exact HB.out
    exact a0.out j h (by omega)
   case measure => simp [intOf]; omega
  have a2 : (((s[k]'hlt).toNat : Int) == 32) = false := by
   rw [beq_eq_false_iff_ne]; omega
  have a1 : Hid ((s[k]'hlt).toNat ≠ 32) := hb;clear hb;go_wp2
  go_loop [4] (fun t => ∃ m : Nat, k ≤ m ∧ m < s.size ∧ t = .int .i64 ((m : Int) + 1) ∧ Hid (∀ j (h : j < s.size), m + 1 ≤ j → (s[j]'h).toNat = 32)) (fun t => (intOf t).toNat)
  case atStart => exact ⟨s.size - 1, by omega, by omega, by go_num, fun j h hj => absurd h (by omega)⟩
  case round =>
   obtain ⟨m, a6, a3, rfl, a4⟩ := hrel;have a7 : (k : Int) < (m : Int) + 1 := by omega
   by_cases hb : (s[m]'a3).toNat = 32
   rotate_left
   ·have a2 : (((s[m]'a3).toNat : Int) == 32) = false := by
     rw [beq_eq_false_iff_ne]; omega
    have hT : Hid (s.extract k (m + 1) = aI0 s) := bN3 ⟨by omega, by omega, fun j h hj => a0.out j h hj, fun j h hj => a4.out j h (by omega), fun _ _ => a1.out, fun _ _ => hb⟩
    clear hb;go_wp2
    go_ret;exact aD5.of hT.out (Below.refl _ _)
   have a2 : (((s[m]'a3).toNat : Int) == 32) = true := by simp [hb]
   have a5 : k < m := by
    rcases Nat.lt_or_ge k m with h | h
    ·exact h
    ·exfalso
     have e : m = k := by omega
     subst e
     exact a1.out hb
   have HB := hid hb;clear hb;go_wp2
   go_round
   case rel =>
    refine ⟨m - 1, by omega, by omega, by go_num, ?_⟩;intro j h hj;by_cases e : j = m
    ·subst e; exact HB.out
    exact a4.out j h (by omega)
   case measure => simp [intOf]
theorem bK0 (s : Tx) (w : World) (hs : s.size ≤ 281474976710656) :
  Calls prog 329 #[.string s] w fun e w' => aD5 (aI0 s) w e w' := by
 go_enter func329, ntmps329;go_wp2
 go_loopw [3] (fun t wr => ∃ pos : Nat, pos ≤ s.size ∧ t = .int .i64 (s.size : Int) ∧ wr.heap[w.heap.size]? = some (.stringIter s pos) ∧ Bw w wr ∧ Hid (∀ j (h : j < s.size), j < pos → (s[j]'h).toNat = 32)) (fun _ wr => s.size - wr.iterPos w.heap.size)
 case atStart => exact ⟨0, Nat.zero_le _, rfl, World.iter_heap _ _ _, (Below.refl _ _).alloc (Nat.le_refl _) _, fun _ _ h => absurd h (by omega)⟩
 case round =>
  obtain ⟨k, hk, rfl, hh, a1, a0⟩ := hrel;by_cases hlt : k < s.size
  rotate_left
  ·have hT : Hid (ByteArray.empty = aI0 s) := (show ByteArray.empty = s.extract s.size s.size by simp).trans (bN3 ⟨Nat.le_refl _, Nat.le_refl _, fun j h _ => a0.out j h (by omega), fun j h hj => absurd h (by omega), fun h => absurd h (by omega), fun _ h => absurd h (by omega)⟩)
   have a3 := fun ty => run_next_end_at (P := prog) wr w.heap.size s k ty hh hlt
   go_wp2
   clear a3 hh;go_loop [4] (fun t => t = .int .i64 (s.size : Int)) (fun t => (intOf t).toNat)
   case atStart => exact rfl
   case round =>
    subst hrel;go_wp2_with (go_at_call 194; refine (aF3 _ _ (by simp)).mono ?_; rintro e w2 ⟨rfl, a5⟩)
    go_ret;exact aD5.of hT.out (a1.trans (a5.mono a1.size))
  by_cases hb : (s[k]'hlt).toNat = 32
  ·have hcl : (cls ((s[k]'hlt).toNat : Int) != 4) = false := by rw [hb]; rfl
   have a3 := fun ty => run_next_ascii_at (P := prog) wr w.heap.size s k ty hh hlt (by omega)
   have HB := hid hb;clear hb;go_wp2_with (go_at_call 297; refine (aG8 _ _).mono ?_; rintro e w1 ⟨rfl, a4⟩)
   obtain ⟨h1, h2⟩ := aI2 hh a1 a4;refine ⟨⟨k + 1, by omega, rfl, h1, h2, ?_⟩, by rw [iterPos_of h1, iterPos_of hh]; omega⟩;intro j h hj;by_cases e : j = k
   ·subst e; exact HB.out
   exact a0.out j h (by omega)
  have a2 : Hid ((s[k]'hlt).toNat ≠ 32) := hb
  have a6 : ((Utf8.decode s k).1 : Int) ≠ 32 := by
   by_cases ha : (s[k]'hlt).toNat < 128
   ·rw [decode_ascii s k hlt ha]; show ((s[k]'hlt).toNat : Int) ≠ 32; omega
   ·have := (decode_high s k hlt (by omega)).1; omega
  have hcl : (cls ((Utf8.decode s k).1 : Int) != 4) = true := by
   have := aM7 ((Utf8.decode s k).1 : Int)
   rw [bne_iff_ne]; omega
  have a3 := fun ty => run_next_any_at (P := prog) wr w.heap.size s k ty hh hlt
  clear hb a6;go_wp2_with (go_at_call 297; refine (aG8 _ _).mono ?_; rintro e w1 ⟨rfl, a4⟩)
  obtain ⟨_, h2⟩ := aI2 hh a1 a4;clear a3 hcl a4 hh a1;go_loop [4] (fun t => ∃ m : Nat, k ≤ m ∧ m < s.size ∧ t = .int .i64 ((m : Int) + 1) ∧ Hid (∀ j (h : j < s.size), m + 1 ≤ j → (s[j]'h).toNat = 32)) (fun t => (intOf t).toNat)
  case atStart => exact ⟨s.size - 1, by omega, by omega, by go_num, fun j h hj => absurd h (by omega)⟩
  case round =>
   obtain ⟨m, b1, a7, rfl, a8⟩ := hrel;have b2 : (k : Int) < (m : Int) + 1 := by omega
   by_cases hb : (s[m]'a7).toNat = 32
   rotate_left
   ·have a9 : (((s[m]'a7).toNat : Int) == 32) = false := by
     rw [beq_eq_false_iff_ne]; omega
    have hT : Hid (s.extract k (m + 1) = aI0 s) := bN3 ⟨by omega, by omega, fun j h hj => a0.out j h hj, fun j h hj => a8.out j h (by omega), fun _ _ => a2.out, fun _ _ => hb⟩
    clear hb;have hz : (s.extract k (m + 1)).size ≤ 281474976710656 := by simp; omega
    go_wp2_with (go_at_call 194; refine (aF3 _ _ hz).mono ?_; rintro e w2 ⟨rfl, a5⟩)
    go_ret;exact aD5.of hT.out (h2.trans (a5.mono h2.size))
   have a9 : (((s[m]'a7).toNat : Int) == 32) = true := by simp [hb]
   have b0 : k < m := by
    rcases Nat.lt_or_ge k m with h | h
    ·exact h
    ·exfalso
     have e : m = k := by omega
     subst e
     exact a2.out hb
   have HB := hid hb;clear hb;go_wp2
   go_round
   case rel =>
    refine ⟨m - 1, by omega, by omega, by go_num, ?_⟩;intro j h hj;by_cases e : j = m
    ·subst e; exact HB.out
    exact a8.out j h (by omega)
   case measure => simp [intOf]
def aK7 (s : Tx) : Prop := 1 ≤ s.size ∧ s.size ≤ 60 ∧ AllB ValB s ∧ aI0 s = s
theorem cA8 (s : Tx) (h1 : 1 ≤ s.size) : aI0 s = s ↔ ((s[0]'(by omega)).toNat ≠ 32 ∧ (s[s.size - 1]'(by omega)).toNat ≠ 32) := by
 constructor
 ·intro h
  have hl : bL2 s.data.toList = s.data.toList := by
   have := congrArg (fun x : ByteArray => x.data.toList) h
   simpa [aI0] using this
  have a0 : s.data.toList.length = s.size := by simp
  have a1 : ∀ l : List UInt8, (aQ3 l).length ≤ l.length ∧ ((aQ3 l).length = l.length → ∀ b, l.head? = some b → b.toNat ≠ 32) := by
   intro l
   induction l with
   | nil => simp [aQ3]
   | cons b r ih =>
    rw [aQ3]
    split
    ·refine ⟨by simp; omega, fun h => ?_⟩
     simp at h; omega
    ·rename_i hb
     refine ⟨by simp, fun _ c hc => ?_⟩
     simp at hc; subst hc; exact hb
  have k1 := a1 s.data.toList;have k2 := a1 (aQ3 s.data.toList).reverse
  have hL : (aQ3 (aQ3 s.data.toList).reverse).length = s.data.toList.length := by
   have := congrArg List.length hl
   simpa [bL2] using this
  rw [List.length_reverse] at k2;have e1 : (aQ3 s.data.toList).length = s.data.toList.length := by omega
  have e2 : (aQ3 (aQ3 s.data.toList).reverse).length = (aQ3 s.data.toList).length := by omega
  have hd : aQ3 s.data.toList = s.data.toList := by
   cases hc : s.data.toList with
   | nil => rfl
   | cons b r =>
    have := k1.2 e1 b (by rw [hc]; rfl)
    exact bD1 b r this
  refine ⟨?_, ?_⟩
  ·apply k1.2 e1
   rw [List.head?_eq_getElem?, aR7 s 0 (by omega)]
  apply k2.2 e2
  rw [hd, ← List.getLast?_eq_head?_reverse, List.getLast?_eq_getElem?, a0, aR7 s (s.size - 1) (by omega)]
 rintro ⟨h0, h2⟩;exact cL6 (fun _ => h0) (fun _ => h2)
theorem aD3 (a b : Tx) : (a.toList == b.toList) = true ↔ a = b := by
 rw [beq_iff_eq, ByteArray.toList_eq, ByteArray.toList_eq];exact ⟨fun h => ByteArray.ext (Array.toList_inj.1 h), fun h => by rw [h]⟩
theorem aS7 (s : Tx) (w : World) (hs : s.size ≤ maxLen) :
  Calls prog 260 #[.string s] w fun e w' => aA5 (aK7 s) w e w' := by
 unfold maxLen at hs;by_cases h1 : (s.size : Int) < 1
 ·go_enter func260, ntmps260;go_wp2_with fail
  go_ret;exact aA5.no (by unfold aK7; omega) (Below.refl _ _)
 by_cases h2 : (60 : Int) < (s.size : Int)
 ·go_enter func260, ntmps260;go_wp2_with fail
  go_ret;exact aA5.no (by unfold aK7; omega) (Below.refl _ _)
 have a1 : Hid _ := cA8 s (by omega);have a0 : 0 < s.size := by omega
 by_cases hb : (s[0]'a0).toNat = 32
 ·have ht : (((s[0]'a0).toNat : Int) == 32) = true := by simp [hb]
  have HB := hid hb;clear hb;go_enter func260, ntmps260;go_wp2_with fail
  go_ret;exact aA5.no (fun h => (a1.out.1 h.2.2.2).1 HB.out) (Below.refl _ _)
 have ht : (((s[0]'a0).toNat : Int) == 32) = false := by
  rw [beq_eq_false_iff_ne]; omega
 obtain ⟨m, hm⟩ : ∃ m, s.size = m + 1 := ⟨s.size - 1, by omega⟩;have a2 : m < s.size := by omega
 have a3 : Hid (s.size - 1 = m) := by show s.size - 1 = m; omega
 have a4 : Hid (¬ (s[0]'a0).toNat = 32) := hb;clear hb;have a7 : (s.size : Int) - 1 = (m : Int) := by omega
 by_cases hl : (s[m]'a2).toNat = 32
 ·have hN : Hid (¬ aK7 s) := by
   intro h
   have h3 := (a1.out.1 h.2.2.2).2
   simp only [a3.out] at h3
   exact h3 hl
  have a5 : (((s[m]'a2).toNat : Int) == 32) = true := by simp [hl]
  clear hl hm;go_enter func260, ntmps260;go_wp2_with fail
  go_ret;exact aA5.no hN.out (Below.refl _ _)
 have hY : Hid (AllB ValB s → aK7 s) := by
  intro h
  refine ⟨by omega, by omega, h, a1.out.2 ⟨a4.out, ?_⟩⟩
  simp only [a3.out]
  exact hl
 have a5 : (((s[m]'a2).toNat : Int) == 32) = false := by
  rw [beq_eq_false_iff_ne]; omega
 clear hl hm;go_enter func260, ntmps260;go_wp2_with (go_at_call 254; refine (cG0 _ _).mono ?_; rintro e w1 ⟨b, rfl, hbt, a6⟩)
 go_ret;exact ⟨b, rfl, hbt.trans ⟨hY.out, fun h => h.2.2.1⟩, a6⟩
theorem aS8 (s : Tx) (w : World) (hs : s.size ≤ maxLen) :
    Calls prog 156 #[.string s] w fun e w' => aA5 (aK7 s) w e w' := by
  have a2 := hs;unfold maxLen at hs;go_enter func156, ntmps156;go_wp2
  go_loop [3] (fun i => ∃ k : Nat, k ≤ s.size ∧ i = .int .i64 k ∧ Hid (bU3 ValB s k)) (fun i => s.size - (intOf i).toNat)
  case atStart => exact ⟨0, Nat.zero_le _, rfl, aS1 _ _⟩
  case round =>
    obtain ⟨k, hk, rfl, a0⟩ := hrel;by_cases hlt : k < s.size
    ·go_wp2
     all_goals first
       | (go_ret
          have a3 : ¬ ValB ((s[k]'hlt).toNat : Int) := by
            unfold ValB
            omega
          exact aA5.no (fun h => a3 (h.2.2.1 k hlt)) (Below.refl _ _))
       | (go_round
          case rel =>
            have hy : ValB ((s[k]'hlt).toNat : Int) := by
              unfold ValB
              omega
            exact ⟨k + 1, by omega, by go_num, aS2 a0.out hlt hy⟩
          case measure => simp [intOf]; omega)
    have a1 : Hid (AllB ValB s) := aV1 a0.out hlt;by_cases h1 : (1 : Int) ≤ (s.size : Int)
    rotate_left
    ·go_wp2_with go_in
     go_ret;exact aA5.no (by unfold aK7; omega) (Below.refl _ _)
    by_cases h2 : (s.size : Int) ≤ 60
    rotate_left
    ·go_wp2_with go_in
     go_ret;exact aA5.no (by unfold aK7; omega) (Below.refl _ _)
    go_wp2_with (first | (go_at_call 242; refine (aQ4 _ _ a2).mono ?_; rintro e w2 ⟨rfl, a4⟩) | go_in)
    go_ret;refine ⟨_, rfl, ?_, a4⟩;rw [aD3];exact ⟨fun h => ⟨by omega, by omega, a1.out, h⟩, fun h => h.2.2.2⟩
end Go.Proofs.YtiobfnpmidjijaaGreatDoor
namespace Go.Proofs.YtiobfnpmidjijaaGreatDoor
open Go.Proofs.Tryz
def DigB (b : UInt8) : Prop := 48 ≤ b.toNat ∧ b.toNat ≤ 57
def valL (l : List UInt8) : Nat := l.foldl (fun v b => 10 * v + (b.toNat - 48)) 0
theorem aY8 (l : List UInt8) (b : UInt8) : valL (l ++ [b]) = 10 * valL l + (b.toNat - 48) := by simp [valL]
def dgF : Nat → Nat → List UInt8
 | 0, _ => []
 | f + 1, n => if n = 0 then [] else dgF f (n / 10) ++ [UInt8.ofNat (48 + n % 10)]
theorem aW4 (f : Nat) : dgF f 0 = [] := by cases f <;> simp [dgF]
theorem bH6 (f n : Nat) (h : n ≠ 0) : dgF (f + 1) n = dgF f (n / 10) ++ [UInt8.ofNat (48 + n % 10)] := by simp [dgF, h]
theorem aN0 (n : Nat) : (UInt8.ofNat (48 + n % 10)).toNat = 48 + n % 10 := by
 simp; omega
theorem bN4 : ∀ l : List UInt8, l = [] ∨ ∃ r b, l = r ++ [b]
 | [] => .inl rfl
 | a :: t => by
  rcases bN4 t with rfl | ⟨r, b, rfl⟩
  · exact .inr ⟨[], a, rfl⟩
  · exact .inr ⟨a :: r, b, rfl⟩
theorem bN5 (r : List UInt8) (b c : UInt8) (hr : r ≠ []) : (r ++ [b]).head? = some c ↔ r.head? = some c := by
 cases r with
 | nil => exact absurd rfl hr
 | cons a t => simp
theorem cQ8 (l : List UInt8) : (∀ b ∈ l, DigB b) → (∀ b, l.head? = some b → b.toNat ≠ 48) → l ≠ [] → 10 ^ (l.length - 1) ≤ valL l := by
 suffices H : ∀ n (l : List UInt8), l.length = n → (∀ b ∈ l, DigB b) → (∀ b, l.head? = some b → b.toNat ≠ 48) → l ≠ [] → 10 ^ (l.length - 1) ≤ valL l from H _ l rfl
 intro n;induction n with
 | zero => intro l hl _ _ a0; exact absurd (List.length_eq_zero_iff.1 hl) a0
 | succ n ih =>
  intro l hl hd hh a0
  rcases bN4 l with rfl | ⟨r, b, rfl⟩
  ·exact absurd rfl a0
  ·rw [aY8]
   by_cases hr : r = []
   ·subst hr
    have h1 := hd b (by simp)
    have h2 := hh b rfl
    simp [valL]; unfold DigB at h1; omega
   have a1 : r.length = n := by simpa using hl
   have h3 := ih r a1 (fun c hc => hd c (by simp [hc])) (fun c hc => hh c ((bN5 r b c hr).2 hc)) hr
   have a2 : 1 ≤ r.length := by cases r with | nil => exact absurd rfl hr | cons _ _ => simp
   have e : (r ++ [b]).length - 1 = (r.length - 1) + 1 := by simp; omega
   rw [e, Nat.pow_succ]
   omega
theorem dQ3 : ∀ (f : Nat) (l : List UInt8), (∀ b ∈ l, DigB b) → (∀ b, l.head? = some b → b.toNat ≠ 48) → l.length ≤ f → dgF f (valL l) = l := by
 intro f;induction f with
 | zero => intro l _ _ hl; rw [List.length_eq_zero_iff.1 (by omega : l.length = 0)]; rfl
 | succ f ih =>
  intro l hd hh hl
  rcases bN4 l with rfl | ⟨r, b, rfl⟩
  ·exact aW4 _
  ·have hb := hd b (by simp)
   unfold DigB at hb
   have a0 : valL (r ++ [b]) ≠ 0 := by
    have := cQ8 (r ++ [b]) hd hh (by simp)
    have : 0 < 10 ^ ((r ++ [b]).length - 1) := Nat.pow_pos (by omega)
    omega
   rw [bH6 f _ a0, aY8]
   have e1 : (10 * valL r + (b.toNat - 48)) / 10 = valL r := by omega
   have e2 : (10 * valL r + (b.toNat - 48)) % 10 = b.toNat - 48 := by omega
   rw [e1, e2]
   have e3 : UInt8.ofNat (48 + (b.toNat - 48)) = b := by
    rw [show 48 + (b.toNat - 48) = b.toNat by omega]; simp
   rw [e3]
   by_cases hr : r = []
   ·subst hr; simp [valL, aW4]
   rw [ih r (fun c hc => hd c (by simp [hc])) (fun c hc => hh c ((bN5 r b c hr).2 hc)) (by simp at hl; omega)]
theorem bM4 : ∀ (f n : Nat), n < 10 ^ f → (∀ b, (dgF f n).head? = some b → b.toNat ≠ 48) ∧ valL (dgF f n) = n ∧ (∀ b ∈ dgF f n, DigB b) := by
 intro f;induction f with
 | zero => intro n h; simp at h; subst h; simp [dgF, valL]
 | succ f ih =>
  intro n h
  by_cases h0 : n = 0
  ·subst h0; rw [aW4]; simp [valL]
  rw [bH6 f n h0]
  rw [Nat.pow_succ] at h
  obtain ⟨i1, i2, i3⟩ := ih (n / 10) (by omega)
  refine ⟨?_, ?_, ?_⟩
  ·intro b hb
   by_cases hr : dgF f (n / 10) = []
   rotate_left
   ·exact i1 b ((bN5 _ _ b hr).1 hb)
   rw [hr] at hb
   simp only [List.nil_append, List.head?_cons, Option.some.injEq] at hb
   rw [← hb, aN0]
   have : n / 10 = 0 := by rw [hr] at i2; simpa [valL] using i2.symm
   omega
  ·rw [aY8, i2, aN0]; omega
  ·intro b hb
   rcases List.mem_append.1 hb with h | h
   ·exact i3 b h
   ·simp only [List.mem_singleton] at h
    unfold DigB
    rw [h, aN0]; omega
def numL (n : Nat) : List UInt8 := if 1000000 < n then [] else if n = 0 then [48] else dgF 8 n
def aB7 (n : Nat) : ByteArray := ⟨(numL n).toArray⟩
def aO1 (s : Tx) : Prop := 1 ≤ s.size ∧ (∀ b ∈ s.data.toList, DigB b) ∧ (1 < s.size → ∀ h : 0 < s.size, (s[0]'h).toNat ≠ 48) ∧ valL s.data.toList ≤ 1000000
theorem bE1 (s : Tx) (h : 0 < s.size) : s.data.toList.head? = some (s[0]'h) := by
 rw [List.head?_eq_getElem?, aR7 s 0 h]
theorem cZ4 (s : Tx) (h1 : 1 ≤ s.size) (h7 : s.size ≤ 7) (hd : ∀ b ∈ s.data.toList, DigB b) : aB7 (valL s.data.toList) = s ↔ aO1 s := by
 have a0 : s.data.toList.length = s.size := by simp
 have a3 : aB7 (valL s.data.toList) = s ↔ numL (valL s.data.toList) = s.data.toList := by
  constructor
  ·intro h
   have := congrArg (fun x : ByteArray => x.data.toList) h
   simpa [aB7] using this
  ·intro h
   apply ByteArray.ext
   show (numL _).toArray = _
   rw [h]
 rw [a3]
 have a1 : s.data.toList ≠ [] := by
  intro e; rw [e] at a0; simp at a0; omega
 constructor
 ·intro h;unfold numL at h;split at h
  ·exact absurd h.symm a1
  rename_i hle
  refine ⟨h1, hd, ?_, by omega⟩;intro hs hp;split at h
  ·rw [← h] at a0; simp at a0; omega
  rename_i h0
  have hf := (bM4 8 (valL s.data.toList) (by omega)).1;apply hf
  rw [h, bE1 s hp]
 rintro ⟨_, _, hz, hv⟩;unfold numL;rw [if_neg (by omega)];by_cases hh : ∀ b, s.data.toList.head? = some b → b.toNat ≠ 48
 ·have hg := cQ8 s.data.toList hd hh a1;have a4 : 0 < 10 ^ (s.data.toList.length - 1) := Nat.pow_pos (by omega);rw [if_neg (by omega)];exact dQ3 8 _ hd hh (by omega)
 have hp : 0 < s.size := by omega
 have a2 : (s[0]'hp).toNat = 48 := by
  rcases Decidable.em ((s[0]'hp).toNat = 48) with h | h
  ·exact h
  ·exfalso; apply hh
   intro b hb
   rw [bE1 s hp] at hb
   cases hb; exact h
 have hsz : s.size = 1 := by
  rcases Nat.lt_or_ge 1 s.size with h | h
  ·exact absurd a2 (hz h hp)
  ·omega
 have hl : s.data.toList = [s[0]'hp] := by
  cases hc : s.data.toList with
  | nil => exact absurd hc a1
  | cons a t =>
   have ht : t = [] := by
    rw [hc] at a0; simp at a0; exact List.length_eq_zero_iff.1 (by omega)
   have ha : some a = some (s[0]'hp) := by rw [← bE1 s hp, hc]; rfl
   rw [ht, Option.some.inj ha]
 have he : s[0]'hp = 48 := by
  apply UInt8.toNat_inj.1; rw [a2]; rfl
 rw [hl, he]; rfl
def aU6 (s : Tx) (k : Nat) : Nat := valL (s.data.toList.take k)
theorem aV2 (s : Tx) (k : Nat) (h : k < s.size) : aU6 s (k + 1) = 10 * aU6 s k + ((s[k]'h).toNat - 48) := by
 unfold aU6
 have : s.data.toList.take (k + 1) = s.data.toList.take k ++ [s[k]'h] := by
  rw [List.take_succ_eq_append_getElem (by simpa using h)]; rfl
 rw [this, aY8]
theorem bN6 (s : Tx) (k : Nat) (h : ¬ k < s.size) : aU6 s k = valL s.data.toList := by
 unfold aU6; rw [List.take_of_length_le (by simp; omega)]
theorem dH2 (s : Tx) : ∀ k, k ≤ s.size → (∀ j (h : j < s.size), j < k → DigB (s[j]'h)) → aU6 s k < 10 ^ k := by
 intro k;induction k with
 | zero => intro _ _; simp [aU6, valL]
 | succ k ih =>
  intro hk hd
  rw [aV2 s k (by omega), Nat.pow_succ]
  have h1 := ih (by omega) (fun j h hj => hd j h (by omega))
  have h2 := hd k (by omega) (by omega)
  unfold DigB at h2
  omega
theorem cU0 (s : Tx) (k : Nat) : ∀ d, k + d ≤ s.size → aU6 s k ≤ aU6 s (k + d) := by
 intro d;induction d with
 | zero => intro _; exact Nat.le_refl _
 | succ d ih =>
  intro h
  rw [show k + (d + 1) = (k + d) + 1 by omega, aV2 s (k + d) (by omega)]
  have := ih (by omega)
  omega
theorem cZ5 (s : Tx) (k : Nat) (h : k ≤ s.size) : aU6 s k ≤ valL s.data.toList := by
 rw [← bN6 s s.size (by omega)];have := cU0 s k (s.size - k) (by omega);rw [show k + (s.size - k) = s.size by omega] at this;exact this
theorem cA9 {s : ByteArray} {p : UInt8 → Prop} (h : ∀ j (hj : j < s.size), p (s[j]'hj)) : ∀ b ∈ s.data.toList, p b := by
 intro b hb;obtain ⟨j, hj, rfl⟩ := List.getElem_of_mem hb;exact h j (by simpa using hj)
theorem cB0 (s : Tx) (j : Nat) (h : j < s.size) : s[j]'h ∈ s.data.toList := List.mem_of_getElem? (aR7 s j h)
theorem cZ6 {s : ByteArray} (h : aO1 s) : s.size ≤ 7 := by
 obtain ⟨h1, hd, hz, hv⟩ := h;rcases Nat.lt_or_ge 7 s.size with h7 | h7
 ·exfalso
  have hp : 0 < s.size := by omega
  have a0 : s.data.toList.length = s.size := by simp
  have hg := cQ8 s.data.toList hd (fun b hb => by rw [bE1 s hp] at hb; cases hb; exact hz (by omega) hp) (by intro e; rw [e] at a0; simp at a0; omega)
  have : 10 ^ 7 ≤ 10 ^ (s.data.toList.length - 1) := Nat.pow_le_pow_right (by omega) (by omega);omega
 exact h7
end Go.Proofs.YtiobfnpmidjijaaGreatDoor
namespace Go.Proofs.YtiobfnpmidjijaaGreatDoor
open Go.Proofs.Tryz
open Go.RowKit
open Go.Lib hiding intOf
theorem cB1 (W : World) (d : Int) : (convert 22 9 (.slice (some ⟨W.heap.size, 0, none⟩) 1 1)).run prog (W.alloc (.cells #[.int .u8 d] 5)) = .ok (.string (strOfNums [d])) (W.alloc (.cells #[.int .u8 d] 5)) :=
 run_convert_bytes_arg (P := prog) (W.alloc (.cells #[.int .u8 d] 5)) 22 5 underlying22 underlying5 W.heap.size 0 1 1 [d] rfl (fun i hi => by
  have : i = 0 := by omega
  subst this
  simp) 9 underlying9
theorem aK8 (n : Nat) (w : World) (hn : n ≤ 9999999) :
  Calls prog 63 #[.int .i64 (n : Int)] w fun e w' => aD5 (aB7 n) w e w' := by
 by_cases h1 : (n : Int) ≤ 1000000
 rotate_left
 ·go_enter func63, ntmps63;go_wp2
  go_ret;exact aD5.of (by unfold aB7 numL; rw [if_pos (by omega)]) (Below.refl _ _)
 by_cases h0 : n = 0
 ·subst h0;go_enter func63, ntmps63;go_wp2
  go_ret;exact aD5.of rfl (Below.refl _ _)
 have a3 : ((n : Int) == 0) = false := by rw [beq_eq_false_iff_ne]; omega
 have a4 := cB1;go_enter func63, ntmps63;go_wp2
 go_loopw [0, 3] (fun a b wr => ∃ (f m : Nat) (out : Tx), a = .int .i64 (m : Int) ∧ b = .string out ∧ m ≤ 1000000 ∧ f ≤ 8 ∧ out.size ≤ 8 - f ∧ Bw w wr ∧ Hid (m < 10 ^ f ∧ dgF f m ++ out.data.toList = dgF 8 n)) (fun a _ _ => (intOf a).toNat)
 case atStart => exact ⟨8, n, _, rfl, rfl, by omega, Nat.le_refl _, Nat.le_refl _, Below.refl _ _, ⟨by omega, by simp⟩⟩
 case round =>
  obtain ⟨f, m, out, rfl, rfl, hm, a5, hsz, a0, hd⟩ := hrel;by_cases hp : (0 : Int) < (m : Int)
  rotate_left
  ·have hT : Hid (out = aB7 n) := by
    obtain ⟨_, h⟩ := hd.out
    have e : m = 0 := by omega
    rw [e, aW4, List.nil_append] at h
    show out = aB7 n
    apply ByteArray.ext
    apply Array.toList_inj.1
    rw [h]
    unfold aB7 numL
    rw [if_neg (by omega), if_neg h0]
   go_wp2
   go_ret;exact aD5.of hT.out a0
  have a1 : ∀ d : Int, (strOfNums [d]).size = 1 := fun d => strOfNums_size [d]
  go_wp2
  go_roundw
  case rel =>
   obtain ⟨hf, a2⟩ := hd.out;cases f with
   | zero => simp at hf; omega
   | succ f =>
    rw [Nat.pow_succ] at hf
    refine ⟨f, m / 10, strOfNums [48 + (m : Int) % 10] ++ out, by simp, rfl, by omega, by omega, ?_, a0.alloc a0.size _, by omega, ?_⟩
    ·rw [ByteArray.size_append, a1]; omega
    ·have e : (strOfNums [48 + (m : Int) % 10]).data.toList = [UInt8.ofNat (48 + m % 10)] := by
      rw [strOfNums_data]
      have : (48 + (m : Int) % 10).toNat = 48 + m % 10 := by omega
      simp only [List.map_cons, List.map_nil, this]
     rw [bH6 f m (by omega), List.append_assoc] at a2
     rw [← a2, ByteArray.data_append, Array.toList_append, e]
  case measure => simp [intOf]; omega
def aY5 (s : Tx) (w : World) (e : Ending) (w' : World) : Prop :=
 ∃ (b : Bool) (n : Int), e = .returned (.tuple #[.int .i64 n, .bool b]) ∧ (b = true ↔ aO1 s) ∧ (b = true → n = valL s.data.toList) ∧ (b = false → n = 0) ∧ Below w.heap.size w w'
theorem aY5.no {s : ByteArray} {w w' : World} (h : ¬ aO1 s) (hb : Below w.heap.size w w') : aY5 s w (.returned (.tuple #[.int .i64 0, .bool false])) w' :=
 ⟨false, 0, rfl, by simpa using h, by simp, fun _ => rfl, hb⟩
theorem aY5.yes {s : ByteArray} {w w' : World} {n : Int} (h : aO1 s) (hn : n = valL s.data.toList) (hb : Below w.heap.size w w') : aY5 s w (.returned (.tuple #[.int .i64 n, .bool true])) w' :=
 ⟨true, n, rfl, by simpa using h, fun _ => hn, by simp, hb⟩
def dH3 (s : Tx) (k : Nat) : Prop := ∀ j (h : j < s.size), j < k → DigB (s[j]'h)
theorem bW8 {s : ByteArray} {k : Nat} (h : dH3 s k) (hk : k < s.size) (hd : DigB (s[k]'hk)) : dH3 s (k + 1) := by
 intro j hj a0;by_cases e : j = k
 ·subst e; exact hd
 exact h j hj (by omega)
theorem aN5 {s : ByteArray} (h : 1 ≤ s.size) : s.toList.isEmpty = false := by
 have : s.toList.length = s.size := by rw [ByteArray.toList_eq]; simp
 cases hc : s.toList with
 | nil => rw [hc] at this; simp at this; omega
 | cons _ _ => rfl
theorem aK9 {s : ByteArray} (h : s.size = 0) : s.toList.isEmpty = true := by
 have : s.toList.length = s.size := by rw [ByteArray.toList_eq]; simp
 rw [h] at this;rw [List.length_eq_zero_iff.1 this]; rfl
theorem aI3 (s : Tx) (w : World) (hs : s.size ≤ maxLen) :
  Calls prog 213 #[.string s] w fun e w' => aY5 s w e w' := by
 unfold maxLen at hs;by_cases h1 : s.size = 0
 ·have he := aK9 h1;go_enter func213, ntmps213;go_wp2_with fail
  go_ret2
  exact aY5.no (fun h => by have := h.1; omega) (Below.refl _ _)
 have he := aN5 (s := s) (by omega);by_cases h7 : (7 : Int) < (s.size : Int)
 ·go_enter func213, ntmps213;go_wp2_with fail
  go_ret2
  exact aY5.no (fun h => by have := cZ6 h; omega) (Below.refl _ _)
 go_enter func213, ntmps213;go_wp2_with fail
 go_loop [4, 5] (fun a i => ∃ x k : Nat, k ≤ s.size ∧ i = .int .i64 k ∧ a = .int .i64 (x : Int) ∧ x ≤ 9999999 ∧ Hid (dH3 s k) ∧ Hid (x = aU6 s k)) (fun _ i => s.size - (intOf i).toNat)
 case atStart => exact ⟨0, 0, Nat.zero_le _, rfl, rfl, by omega, fun _ _ h => absurd h (by omega), by show 0 = aU6 s 0; simp [aU6, valL]⟩
 case round =>
  obtain ⟨x, k, hk, rfl, rfl, hx, a1, a2⟩ := hrel;by_cases hlt : k < s.size
  ·have hb := (s[k]'hlt).toNat_lt;by_cases hd1 : ((s[k]'hlt).toNat : Int) < 48
   ·go_wp2_with fail
    go_ret2
    exact aY5.no (fun h => by have := h.2.1 _ (cB0 s k hlt); unfold DigB at this; omega) (Below.refl _ _)
   by_cases hd2 : (57 : Int) < ((s[k]'hlt).toNat : Int)
   ·go_wp2_with fail
    go_ret2
    exact aY5.no (fun h => by have := h.2.1 _ (cB0 s k hlt); unfold DigB at this; omega) (Below.refl _ _)
   go_wp2_with fail
   have a7 : DigB (s[k]'hlt) := by unfold DigB; omega
   have a9 := aV2 s k hlt;have hv := a2.out;have a6 := bW8 a1.out hlt a7;have a8 := dH2 s (k + 1) (by omega) (fun j h hj => a6 j h hj)
   have b0 : 10 ^ (k + 1) ≤ 10 ^ 7 := Nat.pow_le_pow_right (by omega) (by omega);go_round
   case rel =>
    refine ⟨aU6 s (k + 1), k + 1, by omega, by go_num, ?_, by omega, a6, rfl⟩;congr 1
    omega
   case measure => simp [intOf]; omega
  have a0 : ∀ b ∈ s.data.toList, DigB b := cA9 (fun j h => a1.out j h (by omega))
  have a4 : x = valL s.data.toList := by have := a2.out; rw [bN6 s k hlt] at this; exact this
  have a3 := cZ4 s (by omega) (by omega) a0;rw [← a4] at a3;by_cases hok : aO1 s
  ·have ht : ((aB7 x).toList == s.toList) = true := (aD3 _ _).2 (a3.2 hok);have HX := hid a4;have HO : Hid (aO1 s) := hok;clear a4 a3 hok a0;go_wp2_with (go_at_call 63; refine (aK8 x _ hx).mono ?_; rintro e w1 ⟨rfl, a5⟩)
   go_ret2
   exact aY5.yes HO.out (by rw [HX.out]) a5
  have ht : ((aB7 x).toList == s.toList) = false := by
   rcases Bool.eq_false_or_eq_true ((aB7 x).toList == s.toList) with h | h
   ·exact absurd (a3.1 ((aD3 _ _).1 h)) hok
   ·exact h
  have HO := hid hok;clear a4 a3 hok a0;go_wp2_with (go_at_call 63; refine (aK8 x _ hx).mono ?_; rintro e w1 ⟨rfl, a5⟩)
  go_ret2
  exact aY5.no HO.out a5
theorem aL0 (s : Tx) (w : World) (hs : s.size ≤ maxLen) :
  Calls prog 278 #[.string s] w fun e w' => aY5 s w e w' := by
 unfold maxLen at hs;by_cases h1 : s.size = 0
 ·have he := aK9 h1;go_enter func278, ntmps278;go_wp2_with fail
  go_ret2
  exact aY5.no (fun h => by have := h.1; omega) (Below.refl _ _)
 have he := aN5 (s := s) (by omega);have a2 : 0 < s.size := by omega
 by_cases hz : (1 : Int) < (s.size : Int) ∧ (s[0]'a2).toNat = 48
 ·obtain ⟨a9, a5⟩ := hz;have ht : (((s[0]'a2).toNat : Int) == 48) = true := by simp [a5]
  have HZ := hid a5;clear a5;go_enter func278, ntmps278;go_wp2_with fail
  go_ret2
  exact aY5.no (fun h => h.2.2.1 (by omega) a2 HZ.out) (Below.refl _ _)
 have HZ : Hid (1 < s.size → ∀ h : 0 < s.size, (s[0]'h).toNat ≠ 48) := fun hl h hc => hz ⟨by omega, hc⟩
 have a8 : Calls prog 278 #[.string s] w fun e w' => aY5 s w e w' := by
  by_cases hl : (1 : Int) < (s.size : Int)
  all_goals
   have ht : (1 : Int) < (s.size : Int) → (((s[0]'a2).toNat : Int) == 48) = false := fun hl => by
    rw [beq_eq_false_iff_ne]; intro hc; exact hz ⟨hl, by omega⟩
   clear hz
   try have b0 := ht hl
   try clear ht
   go_enter func278, ntmps278
   go_wp2_with fail
   go_loopw [4] (fun a wr => ∃ x pos : Nat, pos ≤ s.size ∧ a = .int .i64 (x : Int) ∧ x ≤ 1000000 ∧ wr.heap[w.heap.size]? = some (.stringIter s pos) ∧ Bw w wr ∧ Hid (dH3 s pos) ∧ Hid (x = aU6 s pos)) (fun _ wr => s.size - wr.iterPos w.heap.size)
   case atStart => exact ⟨0, 0, Nat.zero_le _, rfl, by omega, World.iter_heap _ _ _, (Below.refl _ _).alloc (Nat.le_refl _) _, fun _ _ h => absurd h (by omega), by show 0 = aU6 s 0; simp [aU6, valL]⟩
   case round =>
    obtain ⟨x, k, hk, rfl, hx, hh, a3, a1, a0⟩ := hrel
    by_cases hlt : k < s.size
    ·have hb := (s[k]'hlt).toNat_lt
     by_cases hd : DigB (s[k]'hlt)
     ·have a6 := fun ty => run_next_ascii_at (P := prog) wr w.heap.size s k ty hh hlt (by unfold DigB at hd; omega)
      have hcl : (cls ((s[k]'hlt).toNat : Int) != 2) = false := by
       have := aM7 ((s[k]'hlt).toNat : Int)
       unfold DigB at hd
       rw [bne_eq_false_iff_eq]; omega
      have b1 : (48 : Int) ≤ ((s[k]'hlt).toNat : Int) := by unfold DigB at hd; omega
      have b2 : ((s[k]'hlt).toNat : Int) ≤ 57 := by unfold DigB at hd; omega
      have HD := hid hd
      clear hd
      go_wp2_with (go_at_call 297; refine (aG8 _ _).mono ?_; rintro e w1 ⟨rfl, a4⟩)
      ·have b3 : 1000000 < aU6 s (k + 1) := by
        have := aV2 s k hlt
        have := a0.out
        omega
       go_ret2
       exact aY5.no (fun h => by have := h.2.2.2; have := cZ5 s (k + 1) (by omega); omega) (aI2 hh a3 a4).2
      ·have a7 : (x : Int) * 10 + (((s[k]'hlt).toNat : Int) - 48) = (aU6 s (k + 1) : Nat) ∧ aU6 s (k + 1) ≤ 1000000 := by
        have := aV2 s k hlt
        have := a0.out
        omega
       obtain ⟨p1, p2⟩ := aI2 hh a3 a4
       refine ⟨⟨aU6 s (k + 1), k + 1, by omega, by rw [a7.1], a7.2, p1, p2, bW8 a1.out hlt HD.out, rfl⟩, by rw [iterPos_of p1, iterPos_of hh]; omega⟩
     ·have a6 := fun ty => run_next_any_at (P := prog) wr w.heap.size s k ty hh hlt
      have hcl : (cls ((Utf8.decode s k).1 : Int) != 2) = true := by
       have := aM7 ((Utf8.decode s k).1 : Int)
       unfold DigB at hd
       rw [bne_iff_ne]
       by_cases ha : (s[k]'hlt).toNat < 128
       ·rw [decode_ascii s k hlt ha] at this ⊢
        dsimp only at this ⊢
        omega
       ·have := (decode_high s k hlt (by omega)).1
        omega
      have HD := hid hd
      clear hd
      go_wp2_with (go_at_call 297; refine (aG8 _ _).mono ?_; rintro e w1 ⟨rfl, a4⟩)
      go_ret2
      exact aY5.no (fun h => HD.out (h.2.1 _ (cB0 s k hlt))) (aI2 hh a3 a4).2
    ·have a6 := fun ty => run_next_end_at (P := prog) wr w.heap.size s k ty hh hlt
     have HY : Hid (aO1 s ∧ (x : Int) = (valL s.data.toList : Nat)) := by
      have hv := a0.out
      rw [bN6 s k hlt] at hv
      exact ⟨⟨by omega, cA9 (fun j h => a1.out j h (by omega)), HZ.out, by omega⟩, by omega⟩
     go_wp2_with fail
     go_ret2
     exact aY5.yes HY.out.1 HY.out.2 a3
 exact a8
def lowB (n : Int) : Int := if 65 ≤ n ∧ n ≤ 90 then n + 32 else n
def bN7 (s : Tx) : List Int := s.data.toList.map (fun b => lowB (b.toNat : Int))
def aL1 (s : Tx) : ByteArray := strOfNums (bN7 s)
theorem bE2 (s : Tx) : (bN7 s).length = s.size := by simp [bN7]
theorem bN8 (s : Tx) (j : Nat) (h : j < s.size) : (bN7 s).getD j 0 = lowB ((s[j]'h).toNat : Int) := by
 unfold bN7;rw [List.getD_eq_getElem?_getD, List.getElem?_map, aR7 s j h];rfl
theorem bN9 (s : Tx) (pos : Nat) (hp : pos < s.size) : pos + (Utf8.decode s pos).2 ≤ s.size ∧ 1 ≤ (Utf8.decode s pos).2 ∧
  ∀ j (h : j < s.size), pos < j → j < pos + (Utf8.decode s pos).2 → 128 ≤ (s[j]'h).toNat := by
 have hg : ∀ k (h : pos + k < s.size), (s.get! (pos + k)).toNat = (s[pos + k]'h).toNat := by
  intro k h
  have : s.get! (pos + k) = s[pos + k]'h := get_at s (pos + k) h
  rw [this]
 have a1 : ∀ n : Nat, (∀ k, 1 ≤ k → k < n → pos + k < s.size ∧ (s.get! (pos + k)).toNat / 64 = 2) → ∀ j (h : j < s.size), pos < j → j < pos + n → 128 ≤ (s[j]'h).toNat := by
  intro n hn j h h1 h2
  obtain ⟨k, rfl⟩ : ∃ k, j = pos + k := ⟨j - pos, by omega⟩
  have := (hn k (by omega) (by omega)).2
  rw [hg k h] at this
  omega
 have a0 : ∀ j (h : j < s.size), pos < j → j < pos + 1 → 128 ≤ (s[j]'h).toNat := fun j _ h1 h2 => absurd h1 (by omega)
 simp only [Utf8.decode]
 split
 ·exact ⟨by omega, by omega, a0⟩
 split
 ·rename_i h2
  simp only [Bool.and_eq_true, beq_iff_eq, decide_eq_true_eq] at h2
  split
  ·exact ⟨by dsimp only; omega, by dsimp only; omega, a1 2 (fun k a b => by
    obtain rfl : k = 1 := by omega
    exact h2.2)⟩
  exact ⟨by dsimp only; omega, by dsimp only; omega, a0⟩
 split
 ·rename_i h3
  simp only [Bool.and_eq_true, beq_iff_eq, decide_eq_true_eq] at h3
  split
  ·exact ⟨by dsimp only; omega, by dsimp only; omega, a1 3 (fun k a b => by
    rcases (by omega : k = 1 ∨ k = 2) with rfl | rfl
    ·exact h3.1.2
    ·exact h3.2)⟩
  exact ⟨by dsimp only; omega, by dsimp only; omega, a0⟩
 split
 ·rename_i h4
  simp only [Bool.and_eq_true, beq_iff_eq, decide_eq_true_eq] at h4
  split
  ·exact ⟨by dsimp only; omega, by dsimp only; omega, a1 4 (fun k a b => by
    rcases (by omega : k = 1 ∨ k = 2 ∨ k = 3) with rfl | rfl | rfl
    ·exact h4.1.1.2
    ·exact h4.1.2
    ·exact h4.2)⟩
  exact ⟨by dsimp only; omega, by dsimp only; omega, a0⟩
 exact ⟨by dsimp only; omega, by dsimp only; omega, a0⟩
def aY6 (s : Tx) (pos j : Nat) : Int := if j < pos then (bN7 s).getD j 0 else ((s.data.toList.getD j 0).toNat : Int)
theorem cU1 (s : Tx) (j : Nat) : aY6 s 0 j = ((s.data.toList.getD j 0).toNat : Int) := by simp [aY6]
theorem bE3 (s : Tx) (j : Nat) (h : j < s.size) : s.data.toList.getD j 0 = s[j]'h := by
 rw [List.getD_eq_getElem?_getD, aR7 s j h]; rfl
theorem cZ7 (s : Tx) (pos j : Nat) (hp : ¬ pos < s.size) (hj : j < s.size) : aY6 s pos j = (bN7 s).getD j 0 := by
 unfold aY6; rw [if_pos (by omega)]
theorem cU2 (s : Tx) (pos : Nat) (h : pos < s.size) : aY6 s pos pos = ((s[pos]'h).toNat : Int) := by
 unfold aY6; rw [if_neg (by omega), bE3 s pos h]
theorem cU3 (s : Tx) (pos q : Nat) (hpq : pos ≤ q) (hn : ∀ j (h : j < s.size), pos ≤ j → j < q → ¬ (65 ≤ (s[j]'h).toNat ∧ (s[j]'h).toNat ≤ 90)) (j : Nat) (hj : j < s.size) : aY6 s q j = aY6 s pos j := by
 unfold aY6;by_cases h1 : j < pos
 ·rw [if_pos h1, if_pos (by omega)]
 rw [if_neg h1];by_cases h2 : j < q
 rotate_left
 ·rw [if_neg h2]
 rw [if_pos h2, bN8 s j hj, bE3 s j hj];have := hn j hj (by omega) h2;unfold lowB;rw [if_neg (by omega)]
theorem cZ8 (s : Tx) (pos : Nat) (h : pos < s.size) (hu : 65 ≤ (s[pos]'h).toNat ∧ (s[pos]'h).toNat ≤ 90) : aY6 s (pos + 1) pos = ((s[pos]'h).toNat : Int) + 32 := by
 unfold aY6;rw [if_pos (by omega), bN8 s pos h];unfold lowB;rw [if_pos (by omega)]
theorem cL7 (s : Tx) (pos j : Nat) (h : j ≠ pos) : aY6 s (pos + 1) j = aY6 s pos j := by
 unfold aY6;by_cases h1 : j < pos
 ·rw [if_pos h1, if_pos (by omega)]
 rw [if_neg h1, if_neg (by omega)]
theorem bK1 {w wr w1 : World} {B k : Nat} {s : ByteArray} {pos p1 : Nat} (hB : B ≤ k) (hh : wr.heap[k]? = some (.stringIter s pos)) (hbw : Below B w wr)
  (hb1 : Below (wr.iterAt k s p1).heap.size (wr.iterAt k s p1) w1) : w1.heap[k]? = some (.stringIter s p1) ∧ Below B w w1 ∧ ∀ j, j ≠ k → j < wr.heap.size → w1.heap[j]? = wr.heap[j]? := by
 have a0 : k < wr.heap.size := (blt hh);refine ⟨?_, ?_, ?_⟩
 ·rw [hb1.block _ (by rw [iterAt_size]; exact a0)];exact iterAt_heap _ _ _ _ _ hh
 ·exact (below_iterAt hbw hB s p1).trans (hb1.mono (by rw [iterAt_size]; omega))
 intro j hj a1;rw [hb1.block _ (by rw [iterAt_size]; exact a1)];exact iterAt_other _ _ _ _ _ hj
theorem cB2 (s : Tx) (w : World) :
  Calls prog 258 #[.string s] w fun e w' => aD5 (aL1 s) w e w' := by
 obtain ⟨W0, a3, b2, hsz, a0, hfz, a4⟩ : ∃ (W0 : World) (a3 : Nat), (convert 9 22 (.string s)).run prog w = .ok (.slice (some ⟨w.heap.size, 0, none⟩) s.size a3) W0 ∧ W0.heap.size = w.heap.size + 1 ∧
   Hid (∀ j, j < s.size → W0.cell? ⟨w.heap.size, j, none⟩ = some (.int .u8 (aY6 s 0 j))) ∧ Hid (∀ j, j < s.size → W0.frozen? ⟨w.heap.size, j, none⟩ = false) ∧ Bw w W0 := by
  refine ⟨_, _, Lib.run_convert_string_bytes (P := prog) w 9 22 5 s underlying9 underlying22 underlying5, bytesWorld_size _ _ _, ?_, ?_, ?_⟩
  · intro j hj; rw [cU1]; exact bytesWorld_cell w 5 s j hj
  ·intro j hj
   have b3 : s.size ≤ (bytesCells w 5 s).size := by simp [bytesCells]
   simp [World.frozen?, bytesWorld_at_new]
   omega
  · exact ⟨rfl, rfl, rfl, by rw [bytesWorld_size]; omega, fun k hk => bytesWorld_at_old w 5 s k hk⟩
 go_enter func258, ntmps258
 go_wp2
 go_loopw [4] (fun _ wr => ∃ pos : Nat, pos ≤ s.size ∧ wr.heap[w.heap.size + 1]? = some (.stringIter s pos) ∧ Bw w wr ∧ Hid (∀ j, j < s.size → wr.cell? ⟨w.heap.size, j, none⟩ = some (.int .u8 (aY6 s pos j))) ∧ Hid (∀ j, j < s.size → wr.frozen? ⟨w.heap.size, j, none⟩ = false)) (fun _ wr => s.size - wr.iterPos (w.heap.size + 1))
 case atStart =>
  refine ⟨0, Nat.zero_le _, ?_, ?_, ?_, ?_⟩
  · rw [← hsz]; exact World.iter_heap _ _ _
  · exact a4.alloc (by omega) _
  · intro j hj; rw [← a0.out j hj]; exact World.cell?_alloc_lt _ _ _ (by simp; omega)
  · intro j hj; rw [← hfz.out j hj]; exact World.frozen?_alloc_old _ _ _ (by simp; omega)
 case round =>
  clear a0 hfz
  obtain ⟨pos, b0, hh, a5, a0, hfz⟩ := hrel
  by_cases hp : pos < s.size
  rotate_left
  ·have a6 := fun ty => run_next_end_at (P := prog) wr (w.heap.size + 1) s pos ty hh hp
   have a8 := run_convert_bytes_arg (P := prog) wr 22 5 underlying22 underlying5 w.heap.size 0 s.size a3 (bN7 s) (bE2 s) (fun i hi => by
    rw [Nat.zero_add, a0.out i hi, cZ7 s pos i hp hi]) 9 underlying9
   go_wp2
   go_ret
   exact aD5.of rfl a5
  by_cases hu : 65 ≤ (s[pos]'hp).toNat ∧ (s[pos]'hp).toNat ≤ 90
  rotate_left
  ·have a6 := fun ty => run_next_any_at (P := prog) wr (w.heap.size + 1) s pos ty hh hp
   obtain ⟨d1, d2, d3⟩ := bN9 s pos hp
   have hcl : (cls ((Utf8.decode s pos).1 : Int) == 0) = false := by
    have := aM7 ((Utf8.decode s pos).1 : Int)
    rw [beq_eq_false_iff_ne]
    by_cases ha : (s[pos]'hp).toNat < 128
    ·rw [decode_ascii s pos hp ha] at this ⊢
     dsimp only at this ⊢
     omega
    ·have := (decode_high s pos hp (by omega)).1
     omega
   have a9 : ∀ j, j < s.size → aY6 s (pos + (Utf8.decode s pos).2) j = aY6 s pos j := fun j hj => cU3 s pos _ (by omega) (fun i hi h1 h2 => by
    by_cases e : i = pos
    · subst e; exact hu
    · have := d3 i hi (by omega) h2; omega) j hj
   have HS := hid a9
   have a7 : w.heap.size < wr.heap.size := by
    have := (blt hh)
    omega
   clear hu d3 a9
   go_wp2_with (go_at_call 297; refine (aG8 _ _).mono ?_; rintro e w1 ⟨rfl, a2⟩)
   obtain ⟨p1, p2, p3⟩ := bK1 (by omega) hh a5 a2
   have hblk : w1.heap[w.heap.size]? = wr.heap[w.heap.size]? := p3 _ (by omega) a7
   refine ⟨⟨_, d1, p1, p2, ?_, ?_⟩, by rw [iterPos_of p1, iterPos_of hh]; omega⟩
   ·intro j hj
    rw [World.cell?_of_block (w := wr) hblk, HS.out j hj]; exact a0.out j hj
   ·intro j hj
    rw [World.frozen?_of_block (w := wr) hblk]; exact hfz.out j hj
  have a6 := fun ty => run_next_ascii_at (P := prog) wr (w.heap.size + 1) s pos ty hh hp (by omega)
  have hcl : (cls ((s[pos]'hp).toNat : Int) == 0) = true := by
   have := aM7 ((s[pos]'hp).toNat : Int)
   rw [beq_iff_eq]; omega
  have b4 : (65 : Int) ≤ ((s[pos]'hp).toNat : Int) := by omega
  have b5 : ((s[pos]'hp).toNat : Int) ≤ 90 := by omega
  have HU := hid hu
  clear hu
  have a7 : w.heap.size < wr.heap.size := by
   have := (blt hh)
   omega
  go_wp2_with fail
  refine (aG8 _ _).mono ?_
  rintro e w1 ⟨rfl, a2⟩
  obtain ⟨p1, p2, p3⟩ := bK1 (by omega) hh a5 a2
  have hblk : w1.heap[w.heap.size]? = wr.heap[w.heap.size]? := p3 _ (by omega) a7
  have b1 : w1.cell? ⟨w.heap.size, pos, none⟩ = some (.int .u8 ((s[pos]'hp).toNat : Int)) := by
   rw [World.cell?_of_block (w := wr) hblk, a0.out pos hp, cU2 s pos hp]
  have b6 : w1.frozen? ⟨w.heap.size, pos, none⟩ = false := by
   rw [World.frozen?_of_block (w := wr) hblk]; exact hfz.out pos hp
  have HB := hid hblk
  have H1 : Hid (w1.heap[w.heap.size + 1]? = some (.stringIter s (pos + 1))) := p1
  have HH := hid hh
  clear hblk p3 a2 a6 hh p1
  go_wp2
  have a1 : (w1.setCell ⟨w.heap.size, pos, none⟩ (.int .u8 (((s[pos]'hp).toNat : Int) + 32))).heap[w.heap.size + 1]? = some (.stringIter s (pos + 1)) := by
   rw [Below.heap_setCell _ _ _ _ (by simp)]; exact H1.out
  refine ⟨⟨pos + 1, by omega, a1, p2.setCell (Nat.le_refl _) _, ?_, ?_⟩, by rw [iterPos_of a1, iterPos_of HH.out]; omega⟩
  ·intro j hj
   by_cases e : j = pos
   ·subst e
    rw [World.cell?_setCell_same _ _ _ b1, cZ8 s j hp HU.out]
   rw [World.cell?_setCell_other (h := fun h => e (by cases h; rfl)), World.cell?_of_block (w := wr) HB.out, cL7 s pos j e]
   exact a0.out j hj
  ·intro j hj
   rw [World.frozen?_setCell, World.frozen?_of_block (w := wr) HB.out]; exact hfz.out j hj
def cB3 (s : Tx) (k : Nat) : List Value := ((bN7 s).take k).map (Value.int .u8)
theorem cU4 (s : Tx) (k : Nat) (h : k < s.size) : cB3 s (k + 1) = cB3 s k ++ [Value.int .u8 (lowB ((s[k]'h).toNat : Int))] := by
 have hl : k < (bN7 s).length := by rw [bE2]; exact h
 unfold cB3;rw [List.take_succ_eq_append_getElem hl, List.map_append];have := bN8 s k h;rw [List.getD_eq_getElem?_getD, List.getElem?_eq_getElem hl] at this;simp at this
 simp [this]
theorem cZ9 (s : Tx) (k : Nat) (h : ¬ k < s.size) : cB3 s k = (bN7 s).map (Value.int .u8) := by
 unfold cB3; rw [List.take_of_length_le (by rw [bE2]; omega)]
theorem aC8 {w : World} {base : Nat} {e : TypeId} {size : Nat} {v : Value} {n g : Nat} {xs : List Value} (h : w.ownsRow base e size v n xs) (hg : v.ownBlock = some g) : base ≤ g := by
 rcases h.2 with ⟨rfl, _⟩ | ⟨g', a0, a1, rfl, hb, _⟩
 ·simp [Value.ownBlock] at hg
 simp [Value.ownBlock] at hg; omega
theorem cB4 (V : Int) : ∀ u ∈ [Value.int .u8 V], u.oneCell' = true := by intro u hu; simp at hu; subst hu; rfl
theorem cU5 {w : World} {base n : Nat} {v : Value} {xs : List Int} (h : w.ownsRow base 5 1 v n (xs.map (Value.int .u8))) : (convert 22 9 v).run prog w = .ok (.string (strOfNums xs)) w := by
 obtain ⟨hl, hv⟩ := h;simp at hl
 rcases hv with ⟨rfl, h0⟩ | ⟨g, a0, a1, rfl, _, hg, hn, _, a3, a2⟩
 ·have : xs = [] := List.length_eq_zero_iff.1 (by omega);subst this;exact run_convert_bytes_nil (P := prog) w 22 5 underlying22 underlying5 0 0 9 underlying9
 refine run_convert_bytes_arg (P := prog) w 22 5 underlying22 underlying5 g 0 n a0 xs hl (fun i hi => ?_) 9 underlying9
 have h1 : (a1.toList.take (n * 1))[i]? = some (.int .u8 (xs.getD i 0)) := by
  rw [a2, List.getElem?_map, List.getD_eq_getElem?_getD, List.getElem?_eq_getElem (by omega)]
  simp
 rw [List.getElem?_take, if_pos (by omega)] at h1;simp only [World.cell?, hg, Nat.zero_add]
 simpa using h1
theorem cB5 (s : Tx) (w : World) (hs : s.size ≤ 1048576) :
  Calls prog 241 #[.string s] w fun e w' => aD5 (aL1 s) w e w' := by
 obtain ⟨i0, hi, a6, a7, a8⟩ := info_parts dU8;go_enter func241, ntmps241;go_wp2
 go_loopw [3, 4] (fun v i wr => ∃ k : Nat, k ≤ s.size ∧ i = .int .i64 k ∧ wr.ownsRow w.heap.size 5 1 v k (cB3 s k) ∧ Bw w wr) (fun _ i _ => s.size - (intOf i).toNat)
 case atStart => exact ⟨0, Nat.zero_le _, rfl, ⟨by simp [cB3], .inr ⟨w.heap.size, 0, #[], rfl, Nat.le_refl _, heap_alloc_new w _, Nat.le_refl _, Nat.zero_le _, rfl, rfl⟩⟩, (Below.refl _ _).alloc (Nat.le_refl _) _⟩
 case round =>
  obtain ⟨k, hk, rfl, hown, a2⟩ := hrel;by_cases hlt : k < s.size
  rotate_left
  ·have b3 := cU5 (by rw [cZ9 s k hlt] at hown; exact hown);go_wp2
   go_ret;exact aD5.of rfl a2
  have hb := (s[k]'hlt).toNat_lt;have a9 : Hid _ := cU4 s k hlt;have b0 : k + 1 ≤ maxLen := by unfold maxLen; omega
  have b1 : (k + 1) * 1 ≤ 140737488355328 := by omega
  have b2 : ∀ o, w.heap.size ≤ (wr.alloc o).heap.size := fun o => by have := a2.size; simp; omega
  by_cases hu : (65 : Int) ≤ ((s[k]'hlt).toNat : Int) ∧ ((s[k]'hlt).toNat : Int) ≤ 90
  ·have hV : Hid (((s[k]'hlt).toNat : Int) + 32 = lowB ((s[k]'hlt).toNat : Int)) := by show _ = _; unfold lowB; rw [if_pos hu]
   obtain ⟨b4, b5⟩ := hu;go_wp2_with (at_builtin; refine wpList_append_own _ rfl _ _ 22 rfl w.heap.size 5 i0 (.int .u8 0) 1 1 underlying22 hi a6 a7 a8 rfl (by decide) _ _ _ rfl (hown.alloc _) ⟨wr.heap.size, 0, none⟩ 1 1 [.int .u8 (((s[k]'hlt).toNat : Int) + 32)] rfl rfl (cell_one_new _ _ _) (cB4 _) b0 b1 (b2 _) ?_)
   intro v1 w1 a0 a1 _;have a4 : Bw w w1 := (a2.alloc a2.size _).grown a1 (by have := a2.size; simp; omega) (fun g hg => aC8 hown hg)
   rw [hV.out, ← a9.out] at a0;clear a1 hown a2;go_wp2
   go_roundw
   case rel => exact ⟨k + 1, by omega, by go_num, a0, a4⟩
   case measure => simp [intOf]; omega
  have hV : Hid (((s[k]'hlt).toNat : Int) = lowB ((s[k]'hlt).toNat : Int)) := by show _ = _; unfold lowB; rw [if_neg hu]
  have a5 : ((s[k]'hlt).toNat : Int) < 65 ∨ (65 : Int) ≤ ((s[k]'hlt).toNat : Int) ∧ (90 : Int) < ((s[k]'hlt).toNat : Int) := by omega
  clear hu;rcases a5 with hc | ⟨hc, b6⟩
  ·go_wp2_with (at_builtin; refine wpList_append_own _ rfl _ _ 22 rfl w.heap.size 5 i0 (.int .u8 0) 1 1 underlying22 hi a6 a7 a8 rfl (by decide) _ _ _ rfl (hown.alloc _) ⟨wr.heap.size, 0, none⟩ 1 1 [.int .u8 ((s[k]'hlt).toNat : Int)] rfl rfl (cell_one_new _ _ _) (cB4 _) b0 b1 (b2 _) ?_)
   intro v1 w1 a0 a1 _;have a4 : Bw w w1 := (a2.alloc a2.size _).grown a1 (by have := a2.size; simp; omega) (fun g hg => aC8 hown hg)
   have a3 : w1.ownsRow w.heap.size 5 1 v1 (k + 1) (cB3 s (k + 1)) := by rw [a9.out, ← hV.out]; exact a0
   clear a0;clear a1 hown a2;go_wp2
   go_roundw
   case rel => exact ⟨k + 1, by omega, by go_num, a3, a4⟩
   case measure => simp [intOf]; omega
  go_wp2_with (at_builtin; refine wpList_append_own _ rfl _ _ 22 rfl w.heap.size 5 i0 (.int .u8 0) 1 1 underlying22 hi a6 a7 a8 rfl (by decide) _ _ _ rfl (hown.alloc _) ⟨wr.heap.size, 0, none⟩ 1 1 [.int .u8 ((s[k]'hlt).toNat : Int)] rfl rfl (cell_one_new _ _ _) (cB4 _) b0 b1 (b2 _) ?_)
  intro v1 w1 a0 a1 _;have a4 : Bw w w1 := (a2.alloc a2.size _).grown a1 (by have := a2.size; simp; omega) (fun g hg => aC8 hown hg)
  have a3 : w1.ownsRow w.heap.size 5 1 v1 (k + 1) (cB3 s (k + 1)) := by rw [a9.out, ← hV.out]; exact a0
  clear a0;clear a1 hown a2;go_wp2
  go_roundw
  case rel => exact ⟨k + 1, by omega, by go_num, a3, a4⟩
  case measure => simp [intOf]; omega
def aO3 (l : Ts) (t : Tx) : Ts := if t.size = 0 then l else l ++ [t]
def aD4 (s : Tx) : Nat → Ts × Nat
 | 0 => ([], 0)
 | k + 1 => if (s.data.toList.getD k 0).toNat = 44 then (aO3 (aD4 s k).1 (aI0 (s.extract (aD4 s k).2 k)), k + 1) else aD4 s k
def aR6 (s : Tx) : Ts := aO3 (aD4 s s.size).1 (aI0 (s.extract (aD4 s s.size).2 s.size))
theorem cL8 (l : Ts) (t : Tx) : (aO3 l t).length ≤ l.length + 1 := by
 unfold aO3; split <;> simp
theorem bH7 (s : Tx) : ∀ k, (aD4 s k).2 ≤ k ∧ (aD4 s k).1.length ≤ k := by
 intro k;induction k with
 | zero => simp [aD4]
 | succ k ih =>
  rw [aD4]
  split
  ·have := cL8 (aD4 s k).1 (aI0 (s.extract (aD4 s k).2 k))
   dsimp only; omega
  ·omega
theorem aW5 (s : Tx) (k : Nat) (h : k < s.size) (hc : (s[k]'h).toNat = 44) : aD4 s (k + 1) = (aO3 (aD4 s k).1 (aI0 (s.extract (aD4 s k).2 k)), k + 1) := by
 rw [aD4, bE3 s k h, if_pos hc]
theorem aW6 (s : Tx) (k : Nat) (h : k < s.size) (hc : (s[k]'h).toNat ≠ 44) : aD4 s (k + 1) = aD4 s k := by
 rw [aD4, bE3 s k h, if_neg hc]
theorem cG1 (s : Tx) (k : Nat) : ∀ d, k + d ≤ s.size → (∀ j (h : j < s.size), k ≤ j → j < k + d → (s[j]'h).toNat ≠ 44) → aD4 s (k + d) = aD4 s k := by
 intro d;induction d with
 | zero => intro _ _; rfl
 | succ d ih =>
  intro hd hn
  rw [show k + (d + 1) = (k + d) + 1 by omega, aW6 s (k + d) (by omega) (hn _ _ (by omega) (by omega))]
  exact ih (by omega) (fun j h h1 h2 => hn j h h1 (by omega))
def bD2 (base : Nat) (xs : Ts) (w : World) (e : Ending) (w' : World) : Prop :=
 ∃ v, e = .returned v ∧ w'.ownsRow base 9 1 v xs.length (xs.map Value.string) ∧ Below base w w'
theorem bD2.of {base : Nat} {xs ys : Ts} {w w' : World} {v : Value} {n : Nat} (h : ys = xs) (hn : n = ys.length) (hown : w'.ownsRow base 9 1 v n (ys.map Value.string)) (hb : Below base w w') : bD2 base xs w (.returned v) w' := by
 subst h; subst hn; exact ⟨v, rfl, hown, hb⟩
theorem aA8 {w w' : World} {base B : Nat} {e : TypeId} {size : Nat} {v : Value} {n : Nat} {xs : List Value} (h : w.ownsRow base e size v n xs) (hb : Below B w w') (hB : ∀ g, v.ownBlock = some g → g < B) : w'.ownsRow base e size v n xs := by
 refine ⟨h.1, ?_⟩;rcases h.2 with h2 | ⟨g, a0, a1, rfl, h3, h4, h5⟩
 ·exact .inl h2
 exact .inr ⟨g, a0, a1, rfl, h3, by rw [hb.block g (hB g rfl)]; exact h4, h5⟩
theorem aB0 {w : World} {base : Nat} {e : TypeId} {size : Nat} {v : Value} {n g : Nat} {xs : List Value} (h : w.ownsRow base e size v n xs) (hg : v.ownBlock = some g) : g < w.heap.size := by
 rcases h.2 with ⟨rfl, _⟩ | ⟨g', a0, a1, rfl, hb, hh, _⟩
 ·simp [Value.ownBlock] at hg
 simp [Value.ownBlock] at hg
 subst hg;exact (blt hh)
theorem cG2 {w : World} {base b : Nat} {e : TypeId} {size : Nat} {v : Value} {n : Nat} {xs : List Value} (h : w.ownsRow base e size v n xs) (hb : b ≤ base) : w.ownsRow b e size v n xs := by
 refine ⟨h.1, ?_⟩;rcases h.2 with h2 | ⟨g, a0, a1, h3, h4, h5⟩
 ·exact .inl h2
 exact .inr ⟨g, a0, a1, h3, by omega, h5⟩
theorem aW7 (t : Tx) : ∀ u ∈ [Value.string t], u.oneCell' = true := by intro u hu; simp at hu; subst hu; rfl
theorem bU4 : (prog.info? 9).map (fun i => (i.zero, i.size, i.bytes)) = some (some (.string ⟨#[]⟩), 1, 16) := by kernel_rfl
theorem bH8 {l : Ts} {t : ByteArray} (h : t.toList.isEmpty = true) : aO3 l t = l := by
 unfold aO3
 have : t.size = 0 := by
  rw [ByteArray.toList_eq] at h
  have := List.isEmpty_iff.1 h
  have h2 : t.data.toList.length = t.size := by simp
  rw [this] at h2; simpa using h2.symm
 rw [if_pos this]
theorem bD3 {l : Ts} {t : ByteArray} (h : t.toList.isEmpty = false) : aO3 l t = l ++ [t] := by
 unfold aO3
 have : t.size ≠ 0 := by
  intro hc
  rw [aK9 hc] at h; cases h
 rw [if_neg this]
theorem bC0 (base : Nat) (v : Value) (n : Nat) (xs : Ts) (raw : Tx) (w : World) (hx : n = xs.length) (hown : w.ownsRow base 9 1 v n (xs.map Value.string)) (hbase : base ≤ w.heap.size) (hn : n ≤ 1048577) (hraw : raw.size ≤ 281474976710656) :
  Calls prog 299 #[v, .string raw] w fun e w' => bD2 base (aO3 xs (aI0 raw)) w e w' := by
 obtain ⟨i0, hi, a5, a6, a7⟩ := info_parts bU4;have a8 : n + 1 ≤ maxLen := by unfold maxLen; omega
 have a9 : (n + 1) * 16 ≤ 140737488355328 := by omega
 have HX := hid hx;clear hx;cases he : (aI0 raw).toList.isEmpty
 ·have HE : Hid _ := bD3 (l := xs) he;go_enter func299, ntmps299;go_wp2_with fail
  refine (bK0 _ _ hraw).mono ?_;rintro e w1 ⟨rfl, a2⟩;have a0 := aA8 hown a2 (fun g hg => aB0 hown hg)
  have a4 : ∀ o, base ≤ (w1.alloc o).heap.size := fun o => by have := a2.size; simp; omega
  go_wp2_with (at_builtin; refine wpList_append_own _ rfl _ _ 24 rfl base 9 i0 (.string ⟨#[]⟩) 1 16 underlying24 hi a5 a6 a7 rfl (by decide) _ _ _ rfl (a0.alloc _) ⟨w1.heap.size, 0, none⟩ 1 1 [.string (aI0 raw)] rfl rfl (cell_one_new _ _ _) (aW7 _) a8 a9 (a4 _) ?_)
  intro v1 w2 a3 a1 _;have b0 : Below base w w2 := (((a2.mono hbase).alloc (Nat.le_trans hbase a2.size) _).grown a1 (a4 _) (fun g hg => aC8 hown hg))
  clear hown a0 a4 a1;go_wp2
  go_ret;refine bD2.of (n := n + 1) (ys := xs ++ [aI0 raw]) HE.out.symm (by rw [HX.out]; simp) (by simpa using a3) b0
 have HE : Hid _ := bH8 (l := xs) he;go_enter func299, ntmps299;go_wp2_with (go_at_call 329; refine (bK0 _ _ hraw).mono ?_; rintro e w1 ⟨rfl, a2⟩)
 go_ret;exact bD2.of (ys := xs) HE.out.symm HX.out (aA8 hown a2 (fun g hg => aB0 hown hg)) (a2.mono hbase)
theorem cB6 (s : Tx) (w : World) (hs : s.size ≤ 1048576) :
  Calls prog 257 #[.string s] w fun e w' => bD2 w.heap.size (aR6 s) w e w' := by
 go_enter func257, ntmps257;go_wp2
 go_loopw [3, 4] (fun v i wr => ∃ pos f : Nat, pos ≤ s.size ∧ f ≤ pos ∧ i = .int .i64 (f : Int) ∧ wr.heap[w.heap.size]? = some (.stringIter s pos) ∧ Bw w wr ∧
   Hid (f = (aD4 s pos).2) ∧ wr.ownsRow (w.heap.size + 1) 9 1 v (aD4 s pos).1.length ((aD4 s pos).1.map Value.string)) (fun _ _ wr => s.size - wr.iterPos w.heap.size)
 case atStart => exact ⟨0, 0, Nat.zero_le _, Nat.le_refl _, rfl, World.iter_heap _ _ _, (Below.refl _ _).alloc (Nat.le_refl _) _, rfl, World.ownsRow_nil _ _ _ _⟩
 case round =>
  obtain ⟨pos, f, b0, b2, rfl, hh, a7, hf, hown⟩ := hrel;have b1 := bH7 s pos;have b3 : w.heap.size < wr.heap.size := (blt hh);by_cases hp : pos < s.size
  rotate_left
  ·have a6 := fun ty => run_next_end_at (P := prog) wr w.heap.size s pos ty hh hp
   have a9 : pos = s.size := by omega
   have HL : Hid (aO3 (aD4 s pos).1 (aI0 (s.extract f s.size)) = aR6 s) := by
    show _ = _
    unfold aR6; rw [hf.out, a9]
   clear a9;go_wp2_with fail
   refine (bC0 (w.heap.size + 1) _ _ _ _ _ rfl hown (by omega) (by omega) (by simp; omega)).mono ?_;rintro e w2 ⟨v2, rfl, a0, a3⟩;have a8 : Bw w w2 := a7.trans (a3.mono (by omega));clear hown a3 a6 hh;go_wp2
   go_ret;exact bD2.of HL.out rfl (cG2 a0 (by omega)) a8
  by_cases hc : (s[pos]'hp).toNat = 44
  rotate_left
  ·have a6 := fun ty => run_next_any_at (P := prog) wr w.heap.size s pos ty hh hp
   obtain ⟨d1, d2, d3⟩ := bN9 s pos hp
   have hcl : (cls ((Utf8.decode s pos).1 : Int) == 5) = false := by
    have := aM7 ((Utf8.decode s pos).1 : Int)
    rw [beq_eq_false_iff_ne]
    by_cases ha : (s[pos]'hp).toNat < 128
    ·rw [decode_ascii s pos hp ha] at this ⊢
     dsimp only at this ⊢
     omega
    ·have := (decode_high s pos hp (by omega)).1
     omega
   have HS : Hid _ := cG1 s pos (Utf8.decode s pos).2 d1 (fun j h h1 h2 => by
    by_cases e : j = pos
    ·subst e; exact hc
    ·have := d3 j h (by omega) h2; omega)
   clear hc d3;go_wp2_with (go_at_call 297; refine (aG8 _ _).mono ?_; rintro e w1 ⟨rfl, a2⟩)
   obtain ⟨p1, p2⟩ := aI2 hh a7 a2
   have a1 : w1.ownsRow (w.heap.size + 1) 9 1 u3 (aD4 s pos).1.length ((aD4 s pos).1.map Value.string) :=
    aA8 (ownsRow_iterAt hown (Nat.lt_succ_self _) s _) a2 (fun g hg => by rw [iterAt_size]; exact aB0 hown hg)
   refine ⟨⟨_, f, d1, by omega, rfl, p1, p2, by rw [HS.out]; exact hf, by rw [HS.out]; exact a1⟩, by rw [iterPos_of p1, iterPos_of hh]; omega⟩
  have a6 := fun ty => run_next_ascii_at (P := prog) wr w.heap.size s pos ty hh hp (by omega)
  have hcl : (cls ((s[pos]'hp).toNat : Int) == 5) = true := by
   have := aM7 ((s[pos]'hp).toNat : Int)
   rw [beq_iff_eq]; omega
  have HC : Hid _ := aW5 s pos hp hc;clear hc;go_wp2_with fail
  refine (aG8 _ _).mono ?_;rintro e w1 ⟨rfl, a2⟩;obtain ⟨p1, p2⟩ := aI2 hh a7 a2;have b4 : wr.heap.size ≤ w1.heap.size := by have := a2.size; rw [iterAt_size] at this; exact this
  have a1 : w1.ownsRow (w.heap.size + 1) 9 1 u3 (aD4 s pos).1.length ((aD4 s pos).1.map Value.string) :=
   aA8 (ownsRow_iterAt hown (Nat.lt_succ_self _) s (pos + 1)) a2 (fun g hg => by rw [iterAt_size]; exact aB0 hown hg)
  have HH := hid hh;clear hown a2 a6 hh;go_wp2_with fail
  refine (bC0 (w.heap.size + 1) _ _ _ _ _ rfl a1 (by omega) (by omega) (by simp; omega)).mono ?_;rintro e w2 ⟨v2, rfl, a0, a3⟩;have a4 : w2.heap[w.heap.size]? = some (.stringIter s (pos + 1)) := by rw [a3.block _ (Nat.lt_succ_self _)]; exact p1
  have a5 : w2.ownsRow (w.heap.size + 1) 9 1 v2 (aD4 s (pos + 1)).1.length ((aD4 s (pos + 1)).1.map Value.string) := by
   rw [HC.out, ← hf.out]; exact a0
  have H2 : Hid (pos + 1 = (aD4 s (pos + 1)).2) := by show _ = _; rw [HC.out]
  have a8 : Bw w w2 := p2.trans (a3.mono (by omega));clear a1 a0 a3 p1 p2 b1;go_wp2
  go_roundw
  case rel => exact ⟨pos + 1, pos + 1, by omega, by omega, by go_num, a4, a8, H2, a5⟩
  case measure => rw [iterPos_of a4, iterPos_of HH.out]; omega
def stTo (s : Tx) (k : Nat) : Ts × Nat := if k ≤ s.size then aD4 s k else (aR6 s, k)
theorem cG3 (s : Tx) (k : Nat) (h : (∃ h : k < s.size, (s[k]'h).toNat = 44) ∨ k = s.size) : stTo s (k + 1) = (aO3 (stTo s k).1 (aI0 (s.extract (stTo s k).2 k)), k + 1) := by
 rcases h with ⟨h, hc⟩ | rfl
 ·unfold stTo;rw [if_pos (by omega), if_pos (by omega), aW5 s k h hc]
 unfold stTo;rw [if_neg (by omega), if_pos (by omega)]; rfl
theorem cU6 (s : Tx) (k : Nat) (h : k < s.size) (hc : (s[k]'h).toNat ≠ 44) : stTo s (k + 1) = stTo s k := by
 unfold stTo;rw [if_pos (by omega), if_pos (by omega), aW6 s k h hc]
theorem dH4 (s : Tx) (k : Nat) (h : ¬ k ≤ s.size) : (stTo s k).1 = aR6 s := by
 unfold stTo; rw [if_neg h]
theorem dM4 (s : Tx) (k : Nat) (h : k ≤ s.size) : (stTo s k).2 ≤ k ∧ (stTo s k).1.length ≤ k := by
 unfold stTo; rw [if_pos h]; exact bH7 s k
theorem cB7 (s : Tx) (w : World) (hs : s.size ≤ 1048576) :
  Calls prog 240 #[.string s] w fun e w' => bD2 w.heap.size (aR6 s) w e w' := by
 obtain ⟨i0, hi, a9, b0, b1⟩ := info_parts bU4;go_enter func240, ntmps240;go_wp2
 go_loopw [3, 4, 5] (fun v a i wr => ∃ (k f : Nat) (l : Ts), k ≤ s.size + 1 ∧ f ≤ k ∧ i = .int .i64 (k : Int) ∧ a = .int .i64 (f : Int) ∧ Bw w wr ∧
   Hid (f = (stTo s k).2) ∧ Hid (l = (stTo s k).1) ∧ wr.ownsRow w.heap.size 9 1 v l.length (l.map Value.string)) (fun _ _ i _ => s.size + 1 - (intOf i).toNat)
 case atStart =>
  refine ⟨0, 0, [], Nat.zero_le _, Nat.le_refl _, rfl, rfl, (Below.refl _ _).alloc (Nat.le_refl _) _, ?_, ?_, ⟨rfl, .inr ⟨w.heap.size, 0, #[], rfl, Nat.le_refl _, heap_alloc_new w _, Nat.le_refl _, Nat.zero_le _, rfl, rfl⟩⟩⟩
  ·show _ = _; simp [stTo, aD4]
  show _ = _; simp [stTo, aD4]
 case round =>
  obtain ⟨k, f, l, hk, b4, rfl, rfl, a5, hf, hl, hown⟩ := hrel;by_cases hks : k ≤ s.size
  rotate_left
  ·have HE : Hid (l = aR6 s) := by show _ = _; rw [hl.out, dH4 s k hks]
   go_wp2_with fail
   go_ret;exact bD2.of HE.out rfl hown a5
  have b5 : l.length ≤ 1048577 := by have := (dM4 s k hks).2; rw [← hl.out] at this; omega
  have b2 : l.length + 1 ≤ maxLen := by unfold maxLen; omega
  have b3 : (l.length + 1) * 16 ≤ 140737488355328 := by omega
  by_cases hlt : k < s.size
  rotate_left
  ·have a6 := cG3 s k (.inr (by omega));rw [← hl.out, ← hf.out] at a6;have HC : Hid _ := a6;have H2 : Hid (k + 1 = (stTo s (k + 1)).2) := by show _ = _; rw [a6]
   clear a6;have hz : (s.extract f k).size ≤ maxLen := by unfold maxLen; simp; omega
   cases he : (aI0 (s.extract f k)).toList.isEmpty
   ·have HE : Hid _ := bD3 (l := l) he;go_wp2_with fail
    refine (aQ4 _ _ hz).mono ?_;rintro e w1 ⟨rfl, a4⟩;have a1 := aA8 hown a4 (fun g hg => aB0 hown hg)
    have a7 : ∀ o, w.heap.size ≤ (w1.alloc o).heap.size := fun o => by have := a4.size; have := a5.size; simp; omega
    go_wp2_with (at_builtin; refine wpList_append_own _ rfl _ _ 24 rfl w.heap.size 9 i0 (.string ⟨#[]⟩) 1 16 underlying24 hi a9 b0 b1 rfl (by decide) _ _ _ rfl (a1.alloc _) ⟨w1.heap.size, 0, none⟩ 1 1 [.string (aI0 (s.extract f k))] rfl rfl (cell_one_new _ _ _) (aW7 _) b2 b3 (a7 _) ?_)
    intro v1 w2 a2 a3 _;have a8 : Bw w w2 := (((a5.trans (a4.mono a5.size)).alloc (Nat.le_trans a5.size a4.size) _).grown a3 (a7 _) (fun g hg => aC8 hown hg))
    have a0 : w2.ownsRow w.heap.size 9 1 v1 (stTo s (k + 1)).1.length ((stTo s (k + 1)).1.map Value.string) := by
     rw [HC.out, HE.out]; simpa using a2
    clear hown a1 a7 a3 a2;go_wp2
    go_roundw
    case rel => exact ⟨k + 1, k + 1, _, by omega, by omega, by go_num, by go_num, a8, H2, rfl, a0⟩
    case measure => simp [intOf]; omega
   have HE : Hid _ := bH8 (l := l) he;go_wp2_with (go_at_call 242; refine (aQ4 _ _ hz).mono ?_; rintro e w1 ⟨rfl, a4⟩)
   have a0 : w1.ownsRow w.heap.size 9 1 u3 (stTo s (k + 1)).1.length ((stTo s (k + 1)).1.map Value.string) := by
    rw [HC.out, HE.out]; exact aA8 hown a4 (fun g hg => aB0 hown hg)
   have a8 : Bw w w1 := a5.trans (a4.mono a5.size);go_roundw
   case rel => exact ⟨k + 1, k + 1, _, by omega, by omega, by go_num, by go_num, a8, H2, rfl, a0⟩
   case measure => simp [intOf]; omega
  by_cases hc : (s[k]'hlt).toNat = 44
  rotate_left
  ·have ht : (((s[k]'hlt).toNat : Int) != 44) = true := by rw [bne_iff_ne]; omega
   have HO : Hid _ := cU6 s k hlt hc;clear hc;go_wp2_with fail
   go_roundw
   case rel => exact ⟨k + 1, f, l, by omega, by omega, by go_num, rfl, a5, by rw [HO.out]; exact hf, by rw [HO.out]; exact hl, hown⟩
   case measure => simp [intOf]; omega
  have ht : (((s[k]'hlt).toNat : Int) != 44) = false := by rw [bne_eq_false_iff_eq]; omega
  have a6 := cG3 s k (.inl ⟨hlt, hc⟩);rw [← hl.out, ← hf.out] at a6;have HC : Hid _ := a6;have H2 : Hid (k + 1 = (stTo s (k + 1)).2) := by show _ = _; rw [a6]
  clear hc a6;have hz : (s.extract f k).size ≤ maxLen := by unfold maxLen; simp; omega
  cases he : (aI0 (s.extract f k)).toList.isEmpty
  ·have HE : Hid _ := bD3 (l := l) he;go_wp2_with fail
   refine (aQ4 _ _ hz).mono ?_;rintro e w1 ⟨rfl, a4⟩;have a1 := aA8 hown a4 (fun g hg => aB0 hown hg)
   have a7 : ∀ o, w.heap.size ≤ (w1.alloc o).heap.size := fun o => by have := a4.size; have := a5.size; simp; omega
   go_wp2_with (at_builtin; refine wpList_append_own _ rfl _ _ 24 rfl w.heap.size 9 i0 (.string ⟨#[]⟩) 1 16 underlying24 hi a9 b0 b1 rfl (by decide) _ _ _ rfl (a1.alloc _) ⟨w1.heap.size, 0, none⟩ 1 1 [.string (aI0 (s.extract f k))] rfl rfl (cell_one_new _ _ _) (aW7 _) b2 b3 (a7 _) ?_)
   intro v1 w2 a2 a3 _;have a8 : Bw w w2 := (((a5.trans (a4.mono a5.size)).alloc (Nat.le_trans a5.size a4.size) _).grown a3 (a7 _) (fun g hg => aC8 hown hg))
   have a0 : w2.ownsRow w.heap.size 9 1 v1 (stTo s (k + 1)).1.length ((stTo s (k + 1)).1.map Value.string) := by
    rw [HC.out, HE.out]; simpa using a2
   clear hown a1 a7 a3 a2;go_wp2
   go_roundw
   case rel => exact ⟨k + 1, k + 1, _, by omega, by omega, by go_num, by go_num, a8, H2, rfl, a0⟩
   case measure => simp [intOf]; omega
  have HE : Hid _ := bH8 (l := l) he;go_wp2_with (go_at_call 242; refine (aQ4 _ _ hz).mono ?_; rintro e w1 ⟨rfl, a4⟩)
  have a0 : w1.ownsRow w.heap.size 9 1 u3 (stTo s (k + 1)).1.length ((stTo s (k + 1)).1.map Value.string) := by
   rw [HC.out, HE.out]; exact aA8 hown a4 (fun g hg => aB0 hown hg)
  have a8 : Bw w w1 := a5.trans (a4.mono a5.size);go_roundw
  case rel => exact ⟨k + 1, k + 1, _, by omega, by omega, by go_num, by go_num, a8, H2, rfl, a0⟩
  case measure => simp [intOf]; omega
def aB1 (k : Nat) : ByteArray := ⟨(109 :: dgF 8 k).toArray⟩
def aA7 (xs : Ts) (i : Nat) : ByteArray := xs.getD i ⟨#[]⟩
structure aF1 (base : Nat) (w : World) (g n cap : Nat) (xs : Ts) : Prop where
 len : xs.length = n
 base : base ≤ g
 lt : g < w.heap.size
 le : n ≤ cap
 mx : cap ≤ maxLen
 heap : ∃ cur, w.heap[g]? = some (.cells cur 9 (0, 0)) ∧ cur.size = cap ∧ ∀ i, i < n → cur[i]? = some (.string (aA7 xs i))
theorem aF1.cell {base : Nat} {w : World} {g n cap : Nat} {xs : Ts} (h : aF1 base w g n cap xs) (i : Nat) (hi : i < n) : w.cell? ⟨g, i, none⟩ = some (.string (aA7 xs i)) := by
 obtain ⟨a0, hg, _, hc⟩ := h.heap;simp only [World.cell?, hg]
 simpa using hc i hi
theorem aF1.frozen {base : Nat} {w : World} {g n cap : Nat} {xs : Ts} (h : aF1 base w g n cap xs) (i : Nat) : w.frozen? ⟨g, i, none⟩ = false := by
 obtain ⟨a0, hg, _⟩ := h.heap;simp [World.frozen?, hg]
theorem aF1.below {base B : Nat} {w w' : World} {g n cap : Nat} {xs : Ts} (h : aF1 base w g n cap xs) (hb : Below B w w') (hB : g < B) : aF1 base w' g n cap xs := by
 obtain ⟨a0, hg, hc⟩ := h.heap;have := hb.size; have := h.lt;exact ⟨h.len, h.base, by omega, h.le, h.mx, a0, by rw [hb.block g hB]; exact hg, hc⟩
theorem aF1.set {base : Nat} {w : World} {g n cap : Nat} {xs : Ts} (h : aF1 base w g n cap xs) (i : Nat) (hi : i < n) (t : Tx) : aF1 base (w.setCell ⟨g, i, none⟩ (.string t)) g n cap (xs.set i t) := by
 obtain ⟨a0, hg, hs, hc⟩ := h.heap;refine ⟨by simp [h.len], h.base, by simpa using h.lt, h.le, h.mx, a0.setIfInBounds i (.string t), ?_, by simpa using hs, ?_⟩
 ·simp [World.setCell, Array.getElem?_modify, hg]
 intro j hj;have hl := h.len;have a1 := h.le;by_cases e : i = j
 rotate_left
 ·rw [Array.getElem?_setIfInBounds_ne (by exact e), hc j hj];simp [aA7, List.getD_eq_getElem?_getD, e]
 subst e;have h1 : i < a0.size := by omega
 have h2 : i < xs.length := by omega
 simp [aA7, List.getD_eq_getElem?_getD, h1, h2]
theorem bW9 (xs : Ts) (i : Nat) (h : i < xs.length) : (xs.map Value.string)[i]? = some (.string (aA7 xs i)) := by
 simp [aA7, List.getD_eq_getElem?_getD, h]
theorem aM8 {w : World} {base n : Nat} {v : Value} {xs : Ts} (h : w.ownsRow base 9 1 v n (xs.map Value.string)) :
  (∃ oa cap, v = .slice oa 0 cap ∧ n = 0 ∧ xs = []) ∨ ∃ g cap, v = .slice (some ⟨g, 0, none⟩) n cap ∧ 0 < n ∧ aF1 base w g n cap xs := by
 obtain ⟨hl, hv⟩ := h;simp at hl
 rcases hv with ⟨rfl, h0⟩ | ⟨g, cap, a0, rfl, hb, hg, hn, hm, a1, a2⟩
 ·exact .inl ⟨none, 0, rfl, h0, List.length_eq_zero_iff.1 (by omega)⟩
 by_cases h0 : n = 0
 ·subst h0;exact .inl ⟨_, _, rfl, rfl, List.length_eq_zero_iff.1 (by omega)⟩
 refine .inr ⟨g, cap, rfl, by omega, hl, hb, (blt hg), hn, hm, a0, hg, by simpa using a1, ?_⟩;intro i hi;have h1 : (a0.toList.take (n * 1))[i]? = some (.string (aA7 xs i)) := by rw [a2]; exact bW9 xs i (by omega)
 rw [List.getElem?_take, if_pos (by omega)] at h1;simpa using h1
theorem aF1.owns {base : Nat} {w : World} {g n cap : Nat} {xs : Ts} (h : aF1 base w g n cap xs) : w.ownsRow base 9 1 (.slice (some ⟨g, 0, none⟩) n cap) n (xs.map Value.string) := by
 obtain ⟨a0, hg, hs, hc⟩ := h.heap;refine ⟨by simp [h.len], .inr ⟨g, cap, a0, rfl, h.base, hg, h.le, h.mx, by simpa using hs, ?_⟩⟩;apply List.ext_getElem?
 intro i;have hl := h.len; have a1 := h.le;rw [List.getElem?_take, Nat.mul_one];by_cases hi : i < n
 rotate_left
 ·rw [if_neg hi, List.getElem?_eq_none (by simp; omega)]
 rw [if_pos hi, bW9 xs i (by omega)];simpa using hc i hi
theorem cL9 (v1 v2 : Value) (n b1 b2 : Nat) (xs : Ts) (w : World) (h1 : w.ownsRow b1 9 1 v1 n (xs.map Value.string)) (h2 : w.ownsRow b2 9 1 v2 n (xs.map Value.string)) (hn : n ≤ 2000000) :
  Calls prog 124 #[v1, v2] w fun e w' => e = .returned (.bool true) ∧ Below w.heap.size w w' := by
 rcases aM8 h1 with ⟨oa, ca, rfl, rfl, rfl⟩ | ⟨g1, c1, rfl, hp, r1⟩
 ·rcases aM8 h2 with ⟨ob, cb, rfl, _, _⟩ | ⟨g2, c2, rfl, a1, _⟩
  ·clear h1 h2;go_enter func124, ntmps124;go_wp2
   refine wp_loop_rounds 1 ?_;rw [rounds_succ];go_wp2
   go_ret;exact ⟨rfl, Below.refl _ _⟩
  omega
 rcases aM8 h2 with ⟨ob, cb, rfl, h0, _⟩ | ⟨g2, c2, rfl, a1, r2⟩
 ·omega
 clear h1 h2;go_enter func124, ntmps124;go_wp2
 go_loopw [5] (fun i wr => ∃ k : Nat, k ≤ n ∧ i = .int .i64 (k : Int) ∧ Bw w wr) (fun i _ => n - (intOf i).toNat)
 case atStart => exact ⟨0, Nat.zero_le _, rfl, Below.refl _ _⟩
 case round =>
  obtain ⟨k, hk, rfl, a0⟩ := hrel;by_cases hlt : k < n
  rotate_left
  ·go_wp2
   go_ret;exact ⟨rfl, a0⟩
  have a2 : (k : Int) < (n : Int) := by omega
  have a3 := (r1.below a0 r1.lt).cell k hlt;have a4 := (r2.below a0 r2.lt).cell k hlt;go_wp2
  go_quiet (fail)
  go_wp2
  go_roundw
  case rel => exact ⟨k + 1, by omega, by go_num, below_drewN a0 _⟩
  case measure => simp [intOf]; omega
theorem aQ5 (n : Nat) (w : World) (h0 : 1 ≤ n) (hn : n ≤ 99999999) :
  Calls prog 224 #[.int .i64 (n : Int)] w fun e w' => aD5 (aB1 n) w e w' := by
 have a3 : ¬ (n : Int) ≤ 0 := by omega
 have a4 := cB1;go_enter func224, ntmps224;go_wp2
 go_loopw [0, 3] (fun a b wr => ∃ (f m : Nat) (out : Tx), a = .int .i64 (m : Int) ∧ b = .string out ∧ m ≤ 99999999 ∧ f ≤ 8 ∧ out.size ≤ 8 - f ∧ Bw w wr ∧ Hid (m < 10 ^ f ∧ dgF f m ++ out.data.toList = dgF 8 n)) (fun a _ _ => (intOf a).toNat)
 case atStart => exact ⟨8, n, _, rfl, rfl, by omega, Nat.le_refl _, Nat.le_refl _, Below.refl _ _, ⟨by omega, by simp⟩⟩
 case round =>
  obtain ⟨f, m, out, rfl, rfl, hm, a5, hsz, a0, hd⟩ := hrel;by_cases hp : (0 : Int) < (m : Int)
  rotate_left
  ·have hT : Hid (⟨#[109]⟩ ++ out = aB1 n) := by
    obtain ⟨_, h⟩ := hd.out
    have e : m = 0 := by omega
    rw [e, aW4, List.nil_append] at h
    show _ = _
    apply ByteArray.ext
    apply Array.toList_inj.1
    rw [ByteArray.data_append, Array.toList_append, h]
    rfl
   have a6 : ¬ 9223372036854775807 < (⟨#[109]⟩ : Tx).size + out.size := by
    have : (⟨#[109]⟩ : Tx).size = 1 := rfl
    omega
   go_wp2
   go_ret;exact aD5.of hT.out a0
  have a1 : ∀ d : Int, (strOfNums [d]).size = 1 := fun d => strOfNums_size [d]
  go_wp2
  go_roundw
  case rel =>
   obtain ⟨hf, a2⟩ := hd.out;cases f with
   | zero => simp at hf; omega
   | succ f =>
    rw [Nat.pow_succ] at hf
    refine ⟨f, m / 10, strOfNums [48 + (m : Int) % 10] ++ out, by simp, rfl, by omega, by omega, ?_, a0.alloc a0.size _, by omega, ?_⟩
    ·rw [ByteArray.size_append, a1]; omega
    ·have e : (strOfNums [48 + (m : Int) % 10]).data.toList = [UInt8.ofNat (48 + m % 10)] := by
      rw [strOfNums_data]
      have : (48 + (m : Int) % 10).toNat = 48 + m % 10 := by omega
      simp only [List.map_cons, List.map_nil, this]
     rw [bH6 f m (by omega), List.append_assoc] at a2
     rw [← a2, ByteArray.data_append, Array.toList_append, e]
  case measure => simp [intOf]; omega
theorem aF4 (x : Int) (n : Nat) (w : World) (hx : x = (n : Int)) (h0 : 1 ≤ n) (hn : n ≤ 99999999) :
  Calls prog 224 #[.int .i64 x] w fun e w' => aD5 (aB1 n) w e w' := by
 subst hx; exact aQ5 n w h0 hn
end Go.Proofs.YtiobfnpmidjijaaGreatDoor
