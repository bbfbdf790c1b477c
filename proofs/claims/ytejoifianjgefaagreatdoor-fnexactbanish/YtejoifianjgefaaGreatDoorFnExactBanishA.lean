/- What the proof of FnExactBanish leans on: contracts of the program's and the specification's functions, and plain facts (part 1 of 11). -/
import Derived.Test.YtejoifianjgefaaGreatDoorCards
import Derived.Test.YtejoifianjgefaaGreatDoorProg
import Derived.Test.YtejoifianjgefaaGreatDoorRows
import Derived.Test.YtejoifianjgefaaGreatDoorTie
import Derived.ArgAppend
import Derived.Below
import Derived.BigQuiet
import Derived.ChangeAt
import Derived.ChangeKeysEq
import Derived.ChangeOld
import Derived.Deep.AppendLies
import Derived.Deep.CutRange
import Derived.Deep.DeepCutAuto
import Derived.Deep.DeepHandedRow
import Derived.Deep.DrawnRows
import Derived.Deep.MidRow
import Derived.Deep.QuietTactic
import Derived.Deep.RegionHeld3
import Derived.Deep.RegionLaw
import Derived.Deep.RegionWith
import Derived.Deep.SlicePairs
import Derived.Deep.Slices
import Derived.Defers
import Derived.Ground.NamesProg
import Derived.Ground.SlgcProg
import Derived.Ground.SlsfProg
import Derived.Laws.AppendOwnNone
import Derived.Laws.BitsAllLaws
import Derived.Laws.BytesArg
import Derived.Laws.EntriesVeiled
import Derived.Laws.MakeOwn
import Derived.Laws.RangeAny
import Derived.Laws.Rows
import Derived.Laws.StructEq
import Derived.Laws.Tables
import Derived.Lib.AppendIntMem
import Derived.Lib.BufferOwn
import Derived.Lib.ConvBytes
import Derived.Lib.CutLaws
import Derived.Lib.ItoaNum
import Derived.Lib.LaidTab
import Derived.Lib.SliceRun
import Derived.Lib.Strings
import Derived.Lib.Walk
import Derived.LoopIn
import Derived.LoopNIn
import Derived.Maps.Ext
import Derived.Maps.OwnOps
import Derived.Maps.OwnSet
import Derived.Maps.Range
import Derived.Maps.RangeWalk
import Derived.OpenShut
import Derived.OwnWalkIn
import Derived.ProofKit
import Derived.RangeFuncBound
import Derived.RangeFuncBox
import Derived.RangeFuncCalls
import Derived.RangeFuncLeaves
import Derived.RangeFuncNested
import Derived.Shelf.Abstract
import Derived.Shelf.LaysM
import Derived.Shelf.RegionOpen
import Derived.Shelf.SlSortCmp.WholeK
import Derived.Shelf.Slices.Empties2
import Derived.Shelf.Slices.Equal
import Derived.Shelf.SlicesG.Cmp
import Derived.Shelf.Small.Bits
import Derived.Shelf.Small.Wraps
import Derived.Shelf.Strconv.Clone
import Derived.Shelf.Strconv.Itoa0
import Derived.Shelf.Strconv.Itoa1
import Derived.Shelf.Strconv.Itoa2
import Derived.Shelf.Strconv.Itoa3
import Derived.Shelf.Strings.Builder1
import Derived.Shelf.Strings.BuilderF
import Derived.Shelf.Strings.BuilderK
import Derived.Shelf.Strings.Cut
import Derived.Shelf.Strings.Prefix
import Derived.Shelf.Strings.Search1
import Derived.Shelf.Strings.Search2
import Derived.Shelf.Strings.Shaped
import Derived.ShutString
import Derived.SliceStrings
import Derived.TacticsInMore
import Derived.WalkKit
import Derived.WalkLawsBesides
import Derived.WalkSpells
set_option maxHeartbeats 16000000
set_option maxRecDepth 100000
namespace Go.Proofs.YtejoifianjgefaaGreatDoor
open Go.Proofs.Tryz
open Go.RowKit
open Go.Lib hiding intOf
/-- What lies in a block stays while new blocks are made. -/
theorem hblk {W W' : World} {q : Nat} {o : Obj} (h : Hid (W.heap[q]? = some o)) (b : Below W.heap.size W W') : Hid (W'.heap[q]? = some o) := (b.block q (Array.getElem?_eq_some_iff.1 h.out).1).trans h.out
theorem hown {W W' : World} {base : Nat} {T : TypeId} {z n : Nat} {v : Value} {c : List Value} (h : Hid (W.ownsRow base T z v n c)) (b : Below W.heap.size W W') : Hid (W'.ownsRow base T z v n c) := by
  obtain ⟨hl, hv⟩ := h.out
  refine ⟨hl, ?_⟩
  rcases hv with hv | ⟨g, cap, cur, e, hb, hg, hr⟩
  · exact .inl hv
  · exact .inr ⟨g, cap, cur, e, hb, (b.block g (Array.getElem?_eq_some_iff.1 hg).1).trans hg, hr⟩
theorem hbt {B : Nat} {w W W' : World} (h : Below B w W) (b : Below W.heap.size W W') (hB : B ≤ w.heap.size := by exact Nat.le_refl _) : Below B w W' := h.trans (b.mono (Nat.le_trans hB h.size))
theorem hsz {B : Nat} {W W' : World} (b : Below B W W') : Hid (W.heap.size ≤ W'.heap.size) := b.size
theorem bK8 (w : World) (a : Addr) (k : Nat) (v : Value) (h : k ≠ a.block) : (w.setCell a v).heap[k]? = w.heap[k]? := Below.heap_setCell w a v k h
theorem hset {W W' : World} {q q' off : Nat} {u : Value} {o : Obj} (hW : W' = W.setCell ⟨q', off, none⟩ u) (hn : q ≠ q') (h : Hid (W.heap[q]? = some o)) : Hid (W'.heap[q]? = some o) := by
  show _ = _
  rw [hW, bK8 _ _ _ _ hn]
  exact h.out
theorem aB5 {W W' : World} {q' off : Nat} {u : Value} {base : Nat} {T : TypeId} {z n : Nat} {v : Value} {c : List Value} (hW : W' = W.setCell ⟨q', off, none⟩ u) (hn : ∀ g, (Value.ownBlock v) = some g → g ≠ q') (h : Hid (W.ownsRow base T z v n c)) : Hid (W'.ownsRow base T z v n c) := by
  obtain ⟨hl, hv⟩ := h.out
  refine ⟨hl, ?_⟩
  rcases hv with hv | ⟨g, cap, cur, e, hb, hg, hr⟩
  · exact .inl hv
  · refine .inr ⟨g, cap, cur, e, hb, ?_, hr⟩
    rw [hW, bK8 _ _ _ _ (hn g (by rw [e]; rfl))]
    exact hg
theorem tkP {P : Program} {ops : Array Oper} {Q : Exit → Act → World → Prop} {md : Region.Mode} {S : World → Prop} {oi : Oper} {fuel : Nat} {listed : Array Bool} {a : Act} {w : World} (i : Nat) (v : Value) (d : Tmp) (hi : ops[i]? = some oi) (hd : oi.dst = some d) (hS : S w)
    (h : wpAnyH P md ops Q S fuel (listed.setIfInBounds i true) (a.put (some d) v) w)
    (hs : Region.noSelect ops = true := by kernel_rfl) (hf : Region.free md ops listed i = true := by kernel_rfl) (hr : (Region.ready md ops listed).contains i = true := by kernel_rfl) (hQ : ∀ c a w, Q (.panic c) (a.put oi.dst v) w → Q (.panic c) a w := by exact fun _ _ _ h => h)
    (hy : YieldsIf P ops S oi v a := by exact Or.inl ⟨by rfl, by intro W _; go_simp⟩) : wpAnyH P md ops Q S (fuel + 1) listed a w :=
  wpAnyH_take hi hs hf hr hQ hy hS (hd ▸ h)
theorem tkN {P : Program} {ops : Array Oper} {Q : Exit → Act → World → Prop} {md : Region.Mode} {S : World → Prop} {oi : Oper} {fuel : Nat} {listed : Array Bool} {a : Act} {w : World} (i : Nat) (d : Tmp) (hi : ops[i]? = some oi) (hd : oi.dst = some d) (hS : S w)
    (h : wpAnyH P md ops Q S fuel (listed.setIfInBounds i true) (a.put (some d) undef) w)
    (hs : Region.noSelect ops = true := by kernel_rfl) (hf : Region.free md ops listed i = true := by kernel_rfl) (hr : (Region.ready md ops listed).contains i = true := by kernel_rfl) (hQ : ∀ c a w, Q (.panic c) (a.put oi.dst undef) w → Q (.panic c) a w := by exact fun _ _ _ h => h)
    (hy : YieldsIf P ops S oi undef a := by exact Or.inr ⟨by rfl, rfl⟩) : wpAnyH P md ops Q S (fuel + 1) listed a w :=
  wpAnyH_take hi hs hf hr hQ hy hS (hd ▸ h)
theorem tkL {P : Program} {ops : Array Oper} {Q : Exit → Act → World → Prop} {md : Region.Mode} {S : World → Prop} {oi : Oper} {fuel : Nat} {listed : Array Bool} {a : Act} {w : World} (i : Nat) (v : Value) (d : Tmp) (hi : ops[i]? = some oi) (hd : oi.dst = some d) (hy : YieldsIf P ops S oi v a) (hS : S w)
    (h : wpAnyH P md ops Q S fuel (listed.setIfInBounds i true) (a.put (some d) v) w)
    (hs : Region.noSelect ops = true := by kernel_rfl) (hf : Region.free md ops listed i = true := by kernel_rfl) (hr : (Region.ready md ops listed).contains i = true := by kernel_rfl) (hQ : ∀ c a w, Q (.panic c) (a.put oi.dst v) w → Q (.panic c) a w := by exact fun _ _ _ h => h) : wpAnyH P md ops Q S (fuel + 1) listed a w :=
  wpAnyH_take hi hs hf hr hQ hy hS (hd ▸ h)
abbrev Fs := List (ByteArray × ByteArray)
abbrev Bs := List (Int × ByteArray × ByteArray × Int)
abbrev Ts := List ByteArray
abbrev Tx := ByteArray
abbrev Oa := Option Addr
theorem ltd {a b c : Nat} (h : a ≤ b) (hc : b ≤ c := by decide) : a ≤ c := Nat.le_trans h hc
abbrev Bw (w W : World) : Prop := Below w.heap.size w W
theorem exq {α : Type} (a : α) : ∃ q, q = a := ⟨a, rfl⟩
theorem hsy {α : Type} {a b : α} (h : a = b) : Hid (b = a) := h.symm
theorem hid {p : Prop} (h : p) : Hid p := h
theorem hfz {W : World} {q T : Nat} {cs : Array Value} (h : Hid (W.heap[q]? = some (.cells cs T))) (i : Nat) : W.frozen? ⟨q, i, none⟩ = false := by simp [World.frozen?, h.out]
theorem cS2 {w : World} {base : Nat} {e : TypeId} {size : Nat} {v : Value} {n g : Nat} {xs : List Value} (h : w.ownsRow base e size v n xs) (hg : v.ownBlock = some g) : base ≤ g ∧ g < w.heap.size := by
  rcases h.2 with ⟨rfl, _⟩ | ⟨g', cap, cur, rfl, hb, hh, _⟩
  · simp [Value.ownBlock] at hg
  · simp [Value.ownBlock] at hg
    subst hg
    exact ⟨hb, (Array.getElem?_eq_some_iff.1 hh).1⟩
theorem hlo {w : World} {base : Nat} {e : TypeId} {size : Nat} {v : Value} {n : Nat} {xs : List Value} (h : w.ownsRow base e size v n xs) : Hid (∀ g, (Value.ownBlock v) = some g → base ≤ g) := fun _ hg => (cS2 h hg).1
theorem hhi {w : World} {base : Nat} {e : TypeId} {size : Nat} {v : Value} {n : Nat} {xs : List Value} (h : w.ownsRow base e size v n xs) : Hid (∀ g, (Value.ownBlock v) = some g → g < w.heap.size) := fun _ hg => (cS2 h hg).2
theorem hwd {w : World} {B base : Nat} {e : TypeId} {size : Nat} {v : Value} {n : Nat} {xs : List Value} (h : w.ownsRow base e size v n xs) (hB : B ≤ base) : Hid (w.ownsRow B e size v n xs) := by
  refine ⟨h.1, ?_⟩
  rcases h.2 with h0 | ⟨g, cap, cur, h1, h2, h3⟩
  · exact .inl h0
  · exact .inr ⟨g, cap, cur, h1, Nat.le_trans hB h2, h3⟩
theorem bal {W W' : World} {o : Obj} (h : W' = W.alloc o) : Below W.heap.size W W' := by rw [h]; exact (Below.refl _ _).alloc (Nat.le_refl _) _
theorem bdr {W W' : World} (h : W' = W.drew) : Below W.heap.size W W' := by rw [h]; exact (Below.refl _ _).drew
theorem hsa {W W' : World} {o : Obj} {q : Nat} (h : W' = W.alloc o) (hz : W.heap.size = q) : W'.heap.size = q + 1 := by rw [h, ← hz]; simp
theorem cH2 (w : World) (o : Obj) : (w.alloc o).heap[w.heap.size]? = some o := by
  show (w.heap.push o)[w.heap.size]? = some o
  simp
theorem hnew {W W' : World} {o : Obj} {q : Nat} (h : W' = W.alloc o) (hz : W.heap.size = q) : Hid (W'.heap[q]? = some o) := by show _ = _; rw [h, ← hz]; exact cH2 _ _
theorem hnq {W : World} {p q : Nat} {o : Obj} (h : Hid (W.heap[p]? = some o)) (hz : W.heap.size = q) : Hid (p ≠ q) := fun e => by have h1 := (Array.getElem?_eq_some_iff.1 h.out).1; omega
theorem hbS {w W W' : World} {B q i : Nat} {v : Value} (hW : W' = W.setCell ⟨q, i, none⟩ v) (h : Below B w W) (hq : Hid (B ≤ q)) : Below B w W' := by rw [hW]; exact h.setCell (p := ⟨q, i, none⟩) hq.out _
theorem hcl {W : World} {q : Nat} {T : TypeId} {l : List Value} {v : Value} (h : Hid (W.heap[q]? = some (.cells l.toArray T))) (i : Nat) (hv : l[i]? = some v) : W.cell? ⟨q, i, none⟩ = some v := by simp [World.cell?, h.out, hv]
theorem hca {W : World} {q : Nat} {T : TypeId} {l : List Value} {v : Value} (h : Hid (W.heap[q]? = some (.cells l.toArray T))) (i : Nat) (hv : l[i]? = some v) : ∀ o, (W.alloc o).cell? ⟨q, i, none⟩ = some v := fun o => by
  have b := ((Below.refl W.heap.size W).alloc (Nat.le_refl _) o).block q (Array.getElem?_eq_some_iff.1 h.out).1
  simp [World.cell?, b, h.out, hv]
theorem hfa {W : World} {q : Nat} {T : TypeId} {cs : Array Value} (h : Hid (W.heap[q]? = some (.cells cs T))) (i : Nat) : ∀ o, (W.alloc o).frozen? ⟨q, i, none⟩ = false := fun o => by
  have b := ((Below.refl W.heap.size W).alloc (Nat.le_refl _) o).block q (Array.getElem?_eq_some_iff.1 h.out).1
  simp [World.frozen?, b, h.out]
theorem hxt {A W W' : World} (h : Hid (Below A.heap.size A W)) (b : Below W.heap.size W W') : Hid (Below A.heap.size A W') := h.out.trans (b.mono h.out.size)
theorem blt {W : World} {q : Nat} {o : Obj} (h : W.heap[q]? = some o) : q < W.heap.size := (Array.getElem?_eq_some_iff.1 h).1
theorem wdn {P : Program} {ops : Array Oper} {Q : Exit → Act → World → Prop} {md : Region.Mode} {S : World → Prop} {fuel : Nat} {listed : Array Bool} {a : Act} {w : World} (h : Q .normal a w) (hr : Region.ready md ops listed = [] := by kernel_rfl) : wpAnyH P md ops Q S fuel listed a w := wpAnyH_done hr h _
theorem rd1 {P : Program} {ops : Array Oper} {Q : Exit → Act → World → Prop} {md : Region.Mode} {S : World → Prop} {fuel : Nat} {listed : Array Bool} {a : Act} {w : World} {o : Oper} (i : Nat) (ho : ops[i]? = some o)
    (h : ∀ K' : Act → World → Prop, Shut (∀ a w, S w → (S w → wpAnyH P md ops Q S fuel (listed.setIfInBounds i true) a w) → K' a w) → if Region.wanted o (yielded ops a.tmps) = true then Oper.wp P o a w K' Q else K' (a.put o.dst undef) w)
    (hr : Region.ready md ops listed = [i] := by kernel_rfl) : wpAnyH P md ops Q S (fuel + 1) listed a w := wpAnyH_ready hr (by simp) (AllReadyH.cons ho h AllReadyH.nil)
theorem k1c {W : World} {q T : Nat} {a : Value} (kk : Hid (W.heap[q]? = some (.cells #[a] T))) : W.cell? ⟨q, 0, none⟩ = some a := by simp [World.cell?, kk.out]
theorem k2c {W : World} {q T : Nat} {a b : Value} (kk : Hid (W.heap[q]? = some (.cells #[a, b] T))) : W.cell? ⟨q, 0, none⟩ = some a ∧ W.cell? ⟨q, 1, none⟩ = some b := ⟨by simp [World.cell?, kk.out], by simp [World.cell?, kk.out]⟩
theorem k4c {W : World} {q T : Nat} {a b c d : Value} (kk : Hid (W.heap[q]? = some (.cells #[a, b, c, d] T))) : W.cell? ⟨q, 0, none⟩ = some a ∧ W.cell? ⟨q, 1, none⟩ = some b ∧ W.cell? ⟨q, 2, none⟩ = some c ∧ W.cell? ⟨q, 3, none⟩ = some d := ⟨by simp [World.cell?, kk.out], by simp [World.cell?, kk.out], by simp [World.cell?, kk.out], by simp [World.cell?, kk.out]⟩
theorem k6c {W : World} {q T : Nat} {a b c d e f : Value} (kk : Hid (W.heap[q]? = some (.cells #[a, b, c, d, e, f] T))) : W.cell? ⟨q, 0, none⟩ = some a ∧ W.cell? ⟨q, 1, none⟩ = some b ∧ W.cell? ⟨q, 2, none⟩ = some c ∧ W.cell? ⟨q, 3, none⟩ = some d ∧ W.cell? ⟨q, 4, none⟩ = some e ∧ W.cell? ⟨q, 5, none⟩ = some f := ⟨by simp [World.cell?, kk.out], by simp [World.cell?, kk.out], by simp [World.cell?, kk.out], by simp [World.cell?, kk.out], by simp [World.cell?, kk.out], by simp [World.cell?, kk.out]⟩
theorem k7c {W : World} {q T : Nat} {a b c d e f g : Value} (kk : Hid (W.heap[q]? = some (.cells #[a, b, c, d, e, f, g] T))) : W.cell? ⟨q, 0, none⟩ = some a ∧ W.cell? ⟨q, 1, none⟩ = some b ∧ W.cell? ⟨q, 2, none⟩ = some c ∧ W.cell? ⟨q, 3, none⟩ = some d ∧ W.cell? ⟨q, 4, none⟩ = some e ∧ W.cell? ⟨q, 5, none⟩ = some f ∧ W.cell? ⟨q, 6, none⟩ = some g := ⟨by simp [World.cell?, kk.out], by simp [World.cell?, kk.out], by simp [World.cell?, kk.out], by simp [World.cell?, kk.out], by simp [World.cell?, kk.out], by simp [World.cell?, kk.out], by simp [World.cell?, kk.out]⟩
theorem k9c {W : World} {q T : Nat} {a b c d e f g h i : Value} (kk : Hid (W.heap[q]? = some (.cells #[a, b, c, d, e, f, g, h, i] T))) : W.cell? ⟨q, 0, none⟩ = some a ∧ W.cell? ⟨q, 1, none⟩ = some b ∧ W.cell? ⟨q, 2, none⟩ = some c ∧ W.cell? ⟨q, 3, none⟩ = some d ∧ W.cell? ⟨q, 4, none⟩ = some e ∧ W.cell? ⟨q, 5, none⟩ = some f ∧ W.cell? ⟨q, 6, none⟩ = some g ∧ W.cell? ⟨q, 7, none⟩ = some h ∧ W.cell? ⟨q, 8, none⟩ = some i := ⟨by simp [World.cell?, kk.out], by simp [World.cell?, kk.out], by simp [World.cell?, kk.out], by simp [World.cell?, kk.out], by simp [World.cell?, kk.out], by simp [World.cell?, kk.out], by simp [World.cell?, kk.out], by simp [World.cell?, kk.out], by simp [World.cell?, kk.out]⟩
structure It where
  fp : Nat → Prop
  ok : World → Prop
  st : ∀ {W W' : World}, ok W → (∀ g, fp g → W'.heap[g]? = W.heap[g]?) → ok W'
  lt : ∀ {W : World}, ok W → ∀ g, fp g → g < W.heap.size
theorem jos {w w' : World} {base : Nat} {e : TypeId} {size : Nat} {v : Value} {n : Nat} {xs : List Value} (h : w.ownsRow base e size v n xs) (hs : ∀ j, v.ownBlock = some j → w'.heap[j]? = w.heap[j]?) : w'.ownsRow base e size v n xs := by
  obtain ⟨hl, hv⟩ := h
  refine ⟨hl, ?_⟩
  rcases hv with hv | ⟨g, cap, cur, e1, hb, hg, hr⟩
  · exact .inl hv
  · exact .inr ⟨g, cap, cur, e1, hb, (hs g (by rw [e1]; rfl)).trans hg, hr⟩
theorem jol {w : World} {base : Nat} {e : TypeId} {size : Nat} {v : Value} {n : Nat} {xs : List Value} (h : w.ownsRow base e size v n xs) : ∀ g, v.ownBlock = some g → base ≤ g ∧ g < w.heap.size ∧ ∃ cur, w.heap[g]? = some (.cells cur e (0, 0)) := fun g hg => by
  rcases h.2 with ⟨rfl, _⟩ | ⟨g', cap, cur, rfl, hb, hh, _⟩
  · simp [Value.ownBlock] at hg
  · simp [Value.ownBlock] at hg
    subst hg
    exact ⟨hb, (Array.getElem?_eq_some_iff.1 hh).1, cur, hh⟩
theorem job {w : World} {base B : Nat} {e : TypeId} {size : Nat} {v : Value} {n : Nat} {xs : List Value} (h : w.ownsRow base e size v n xs) (hB : ∀ g, v.ownBlock = some g → B ≤ g) : w.ownsRow B e size v n xs := by
  refine ⟨h.1, ?_⟩
  rcases h.2 with h0 | ⟨g, cap, cur, h1, h2, h3⟩
  · exact .inl h0
  · exact .inr ⟨g, cap, cur, h1, hB g (by rw [h1]; rfl), h3⟩
/-- A block of cells. -/
def bk (q : Nat) (cs : List Value) (T : TypeId) : It := ⟨fun g => g = q, fun W => W.heap[q]? = some (.cells cs.toArray T), fun h hs => (hs q rfl).trans h, fun h g e => by subst e; exact (Array.getElem?_eq_some_iff.1 h).1⟩
/-- A row of one's own. -/
def ro (T : TypeId) (z : Nat) (v : Value) (n : Nat) (c : List Value) : It := ⟨fun g => v.ownBlock = some g, fun W => W.ownsRow 0 T z v n c, fun h hs => jos h hs, fun h g hg => (jol h g hg).2.1⟩
/-- What was made since w, all of it apart. -/
structure Pk (w W : World) (l : List It) : Prop where
  hb : Below w.heap.size w W
  ok : ∀ x ∈ l, x.ok W
  ge : ∀ x ∈ l, ∀ g, x.fp g → w.heap.size ≤ g
  ne : l.Pairwise (fun x y => ∀ g, x.fp g → ¬ y.fp g)
theorem jnil (w : World) : Pk w w [] := ⟨Below.refl _ _, by simp, by simp, List.Pairwise.nil⟩
theorem jw {w W W' : World} {l : List It} (K : Pk w W l) (b : Below W.heap.size W W') : Pk w W' l :=
  ⟨K.hb.trans (b.mono K.hb.size), fun x hx => x.st (K.ok x hx) (fun g hg => b.block g (x.lt (K.ok x hx) g hg)), K.ge, K.ne⟩
/-- What was made since, beside what was there. -/
theorem jj0 {w W W' : World} {l m : List It} (K : Pk w W l) (N : Pk W W' m) : Pk w W' (m ++ l) := by
  have K' := jw K N.hb
  refine ⟨K'.hb, fun x hx => (List.mem_append.1 hx).elim (N.ok x) (K'.ok x), fun x hx g hg => (List.mem_append.1 hx).elim (fun h => Nat.le_trans K.hb.size (N.ge x h g hg)) (fun h => K.ge x h g hg), List.pairwise_append.2 ⟨N.ne, K.ne, fun a ha b hb g h1 h2 => ?_⟩⟩
  have e1 := N.ge a ha g h1
  have e2 := b.lt (K.ok b hb) g h2
  omega
theorem jj {w W W' : World} {l m l' : List It} (K : Pk w W l) (N : Pk W W' m) (hl : m ++ l = l' := by simp only [List.cons_append, List.nil_append]; rfl) : Pk w W' l' := hl ▸ jj0 K N
theorem jN {w W : World} (b : Below w.heap.size w W) : Pk w W [] := ⟨b, by simp, by simp, List.Pairwise.nil⟩
theorem jcB {w W : World} {l : List It} {q : Nat} {cs : List Value} {T : TypeId} (K : Pk w W l) (h : W.heap[q]? = some (.cells cs.toArray T)) (hq : w.heap.size ≤ q) (hn : ∀ y ∈ l, ¬ y.fp q) : Pk w W (bk q cs T :: l) :=
  ⟨K.hb, fun x hx => (List.mem_cons.1 hx).elim (fun e => e ▸ h) (K.ok x), fun x hx g hg => (List.mem_cons.1 hx).elim (fun e => by subst e; rw [show g = q from hg]; exact hq) (fun hm => K.ge x hm g hg), List.pairwise_cons.2 ⟨fun y hy g hg => by rw [show g = q from hg]; exact hn y hy, K.ne⟩⟩
/-- A row beside what else is new: none of it lies in its block. -/
theorem jcR {w W : World} {l : List It} {T z n : Nat} {v : Value} {c : List Value} (K : Pk w W l) (h : W.ownsRow w.heap.size T z v n c) (hn : ∀ y ∈ l, ∀ g, v.ownBlock = some g → ¬ y.fp g) : Pk w W (ro T z v n c :: l) :=
  ⟨K.hb, fun x hx => (List.mem_cons.1 hx).elim (fun e => e ▸ job h (fun _ _ => Nat.zero_le _)) (K.ok x), fun x hx g hg => (List.mem_cons.1 hx).elim (fun e => by subst e; exact (jol h g hg).1) (fun hm => K.ge x hm g hg), List.pairwise_cons.2 ⟨fun y hy g hg => hn y hy g hg, K.ne⟩⟩
theorem ja {w W W' : World} {l : List It} {cs : List Value} {T : TypeId} {q : Nat} (K : Pk w W l) (hW : W' = W.alloc (.cells cs.toArray T)) (hz : W.heap.size = q) : Pk w W' (bk q cs T :: l) := by
  have b : Below W.heap.size W W' := by rw [hW]; exact (Below.refl _ _).alloc (Nat.le_refl _) _
  refine jj0 K (jcB (jN b) ?_ (Nat.le_of_eq hz) (by simp))
  rw [hW, ← hz]
  show (W.heap.push _)[W.heap.size]? = _
  simp
theorem jne {w W : World} {l : List It} (K : Pk w W l) {i k : Nat} {x y : It} (hx : l[i]? = some x) (hy : l[k]? = some y) (hik : i ≠ k) : ∀ g, x.fp g → ¬ y.fp g := by
  obtain ⟨h1, e1⟩ := List.getElem?_eq_some_iff.1 hx
  obtain ⟨h2, e2⟩ := List.getElem?_eq_some_iff.1 hy
  have P := List.pairwise_iff_getElem.1 K.ne
  subst e1 e2
  intro g hg hg2
  rcases Nat.lt_or_gt_of_ne hik with h | h
  · exact P i k h1 h2 h g hg hg2
  · exact P k i h2 h1 h g hg2 hg
theorem jmem {l : List It} {i : Nat} {x : It} (h : l[i]? = some x) : x ∈ l := List.mem_of_getElem? h
theorem jb {w W : World} {l : List It} (K : Pk w W l) (i : Nat) {q : Nat} {cs : List Value} {T : TypeId} (h : l[i]? = some (bk q cs T)) : W.heap[q]? = some (.cells cs.toArray T) := K.ok _ (jmem h)
theorem jo {w W : World} {l : List It} (K : Pk w W l) (i : Nat) {T z n : Nat} {v : Value} {c : List Value} (h : l[i]? = some (ro T z v n c)) : W.ownsRow w.heap.size T z v n c := job (K.ok _ (jmem h)) (fun g hg => K.ge _ (jmem h) g hg)
theorem jge {w W : World} {l : List It} (K : Pk w W l) (i : Nat) {q : Nat} {cs : List Value} {T : TypeId} (h : l[i]? = some (bk q cs T)) : w.heap.size ≤ q := K.ge _ (jmem h) q rfl
/-- Cells set in a block of one's own. -/
def jW (w : World) (g : Nat) : List (Nat × Value) → World
  | [] => w
  | x :: r => jW (w.setCell ⟨g, x.1, none⟩ x.2) g r
def jA (cs : List Value) : List (Nat × Value) → List Value
  | [] => cs
  | x :: r => jA (cs.set x.1 x.2) r
theorem jwh (q : Nat) (T : TypeId) : ∀ (l : List (Nat × Value)) (w : World) (cs : List Value), w.heap[q]? = some (.cells cs.toArray T) → (jW w q l).heap[q]? = some (.cells (jA cs l).toArray T)
  | [], _, _, h => h
  | x :: r, w, cs, h => jwh q T r _ _ (by simp [World.setCell, Array.getElem?_modify, h])
theorem jwo (q g : Nat) (hg : g ≠ q) : ∀ (l : List (Nat × Value)) (w : World), (jW w q l).heap[g]? = w.heap[g]?
  | [], _ => rfl
  | x :: r, w => (jwo q g hg r _).trans (Below.heap_setCell w ⟨q, x.1, none⟩ x.2 g hg)
theorem jwb {B q : Nat} (hq : B ≤ q) {w : World} : ∀ (l : List (Nat × Value)) (W : World), Below B w W → Below B w (jW W q l)
  | [], _, h => h
  | x :: r, _, h => jwb hq r _ (h.setCell (p := ⟨q, x.1, none⟩) hq x.2)
theorem jss0 {w W W' : World} {l : List It} (K : Pk w W l) (i : Nat) (vs : List (Nat × Value)) {q : Nat} {cs : List Value} {T : TypeId} (hW : W' = jW W q vs) (h : l[i]? = some (bk q cs T)) : Pk w W' (l.set i (bk q (jA cs vs) T)) := by
  subst hW
  have hi := (List.getElem?_eq_some_iff.1 h).1
  have oth : ∀ k y, l[k]? = some y → k ≠ i → y.ok (jW W q vs) := fun k y hy hk => y.st (K.ok y (jmem hy)) (fun g hg => jwo q g (fun e => jne K hy h hk g hg e) vs W)
  have gs : ∀ k x, (l.set i (bk q (jA cs vs) T))[k]? = some x → k = i ∧ x = bk q (jA cs vs) T ∨ k ≠ i ∧ l[k]? = some x := fun k x hk => by
    by_cases e : k = i
    · subst e
      rw [List.getElem?_set_self hi] at hk
      exact .inl ⟨rfl, (Option.some.inj hk).symm⟩
    · rw [List.getElem?_set_ne (fun e2 => e e2.symm)] at hk
      exact .inr ⟨e, hk⟩
  refine ⟨jwb (jge K i h) vs W K.hb, fun x hx => ?_, fun x hx => ?_, ?_⟩
  · obtain ⟨k, hk⟩ := List.mem_iff_getElem?.1 hx
    rcases gs k x hk with ⟨_, rfl⟩ | ⟨hn, hk2⟩
    · exact jwh q T vs W cs (jb K i h)
    · exact oth k x hk2 hn
  · obtain ⟨k, hk⟩ := List.mem_iff_getElem?.1 hx
    rcases gs k x hk with ⟨_, rfl⟩ | ⟨_, hk2⟩
    · intro g hg
      rw [show g = q from hg]
      exact jge K i h
    · exact K.ge x (jmem hk2)
  · refine List.pairwise_iff_getElem.2 fun a b ha hb hab g h1 h2 => ?_
    have P := List.pairwise_iff_getElem.1 K.ne
    rw [List.length_set] at ha hb
    have e0 : l[i]'hi = bk q cs T := (List.getElem?_eq_some_iff.1 h).2
    rw [List.getElem_set] at h1 h2
    have f1 : (l[a]'ha).fp g := by
      split at h1
      · rename_i e; subst e; rw [e0]; exact h1
      · exact h1
    have f2 : (l[b]'hb).fp g := by
      split at h2
      · rename_i e; subst e; rw [e0]; exact h2
      · exact h2
    exact P a b ha hb hab g f1 f2
theorem js {w W W' : World} {l l' : List It} {q off : Nat} {v : Value} {cs : List Value} {T : TypeId} (K : Pk w W l) (i : Nat) (hW : W' = W.setCell ⟨q, off, none⟩ v) (h : l[i]? = some (bk q cs T) := by rfl) (hl : l.set i (bk q (cs.set off v) T) = l' := by simp only [List.set_cons_zero, List.set_cons_succ]; rfl) : Pk w W' l' := hl ▸ jss0 K i [(off, v)] hW h
theorem jss {w W W' : World} {l l' : List It} (K : Pk w W l) (i : Nat) (vs : List (Nat × Value)) {q : Nat} {cs : List Value} {T : TypeId} (hW : W' = jW W q vs) (h : l[i]? = some (bk q cs T) := by rfl) (hl : l.set i (bk q (jA cs vs) T) = l' := by simp only [jA, List.set_cons_zero, List.set_cons_succ]; rfl) : Pk w W' l' := hl ▸ jss0 K i vs hW h
/-- The same things (some of them), as they are in another world. -/
def Zj (W' : World) (l l' : List It) : Prop := (∀ y ∈ l', y.ok W') ∧ ∃ m : List It, m.Sublist l ∧ m.map It.fp = l'.map It.fp
theorem jzn (W' : World) : Zj W' [] [] := ⟨by simp, [], List.Sublist.slnil, rfl⟩
theorem jzx {W' : World} {x : It} {l l' : List It} (h : Zj W' l l') : Zj W' (x :: l) l' := ⟨h.1, h.2.elim fun m hm => ⟨m, hm.1.cons _, hm.2⟩⟩
theorem jzb {W' : World} {l l' : List It} {q : Nat} {cs cs' : List Value} {T T' : TypeId} (f : W'.heap[q]? = some (.cells cs'.toArray T')) (h : Zj W' l l') : Zj W' (bk q cs T :: l) (bk q cs' T' :: l') :=
  ⟨fun y hy => (List.mem_cons.1 hy).elim (fun e => e ▸ f) (h.1 y), h.2.elim fun m hm => ⟨bk q cs T :: m, hm.1.cons_cons _, by rw [List.map_cons, List.map_cons, hm.2]; rfl⟩⟩
theorem jzr {W' : World} {l l' : List It} {B T z n T' z' n' : Nat} {v : Value} {c c' : List Value} (f : W'.ownsRow B T' z' v n' c') (h : Zj W' l l') : Zj W' (ro T z v n c :: l) (ro T' z' v n' c' :: l') :=
  ⟨fun y hy => (List.mem_cons.1 hy).elim (fun e => e ▸ job f (fun _ _ => Nat.zero_le _)) (h.1 y), h.2.elim fun m hm => ⟨ro T z v n c :: m, hm.1.cons_cons _, by rw [List.map_cons, List.map_cons, hm.2]; rfl⟩⟩
theorem jz {w W W' : World} {l l' : List It} (K : Pk w W l) (hb : Below w.heap.size w W') (h : Zj W' l l') : Pk w W' l' := by
  obtain ⟨ho, m, hm, he⟩ := h
  have hp : (m.map It.fp).Pairwise (fun a b => ∀ g, a g → ¬ b g) := List.pairwise_map.2 (K.ne.sublist hm)
  refine ⟨hb, ho, fun x hx g hg => ?_, List.pairwise_map.1 (he ▸ hp)⟩
  have h1 : x.fp ∈ m.map It.fp := he ▸ List.mem_map_of_mem hx
  obtain ⟨y, hy, e⟩ := List.mem_map.1 h1
  exact K.ge y (hm.subset hy) g (e ▸ hg)
theorem jhn {v : Value} : ∀ y ∈ ([] : List It), ∀ g, v.ownBlock = some g → ¬ y.fp g := by simp
theorem jhc {v v2 : Value} {l : List It} {T z n : Nat} {c : List Value} (h : ∀ g, v.ownBlock = some g → v2.ownBlock ≠ some g) (t : ∀ y ∈ l, ∀ g, v.ownBlock = some g → ¬ y.fp g) : ∀ y ∈ ro T z v2 n c :: l, ∀ g, v.ownBlock = some g → ¬ y.fp g := fun y hy => (List.mem_cons.1 hy).elim (fun e => by subst e; exact h) (t y)
theorem jap {v v2 : Value} (h : ∀ g, v.ownBlock = some g → v2.ownBlock ≠ some g) : ∀ g, v2.ownBlock = some g → v.ownBlock ≠ some g := fun g h1 h2 => h g h2 h1
theorem jty {W : World} {b1 b2 z1 z2 n1 n2 : Nat} {t1 t2 : TypeId} {v1 v2 : Value} {xs ys : List Value} (h1 : W.ownsRow b1 t1 z1 v1 n1 xs) (h2 : W.ownsRow b2 t2 z2 v2 n2 ys) (ht : t1 ≠ t2 := by decide) : ∀ g, v1.ownBlock = some g → v2.ownBlock ≠ some g := fun g e1 e2 => by
  obtain ⟨_, _, c1, f1⟩ := jol h1 g e1
  obtain ⟨_, _, c2, f2⟩ := jol h2 g e2
  rw [f1] at f2
  injection f2 with f3
  injection f3 with _ f4
  exact ht f4
theorem jgB {W W' : World} {B q T T2 z n : Nat} {v : Value} {c : List Value} {cs : Array Value} (hg : W.grownBy W' v.ownBlock) (hr : W.ownsRow B T2 z v n c) (h : W.heap[q]? = some (.cells cs T)) (ht : T ≠ T2 := by decide) : W'.heap[q]? = some (.cells cs T) :=
  (hg.block q (Array.getElem?_eq_some_iff.1 h).1 (fun e => by
    obtain ⟨_, _, cur, hh⟩ := jol hr q e.symm
    rw [h] at hh
    injection hh with h3
    injection h3 with _ h4
    exact ht h4)).trans h
theorem jgA {W0 W W' : World} {B q T T2 z n : Nat} {v : Value} {c : List Value} {cs : Array Value} (bA : Below W0.heap.size W0 W) (hg : W.grownBy W' v.ownBlock) (hr : W0.ownsRow B T2 z v n c) (h : W0.heap[q]? = some (.cells cs T)) (ht : T ≠ T2 := by decide) : W'.heap[q]? = some (.cells cs T) :=
  jgB hg (jos hr (fun g e => bA.block g (jol hr g e).2.1)) ((bA.block q (Array.getElem?_eq_some_iff.1 h).1).trans h) ht
theorem jrr {W W' : World} {B q T t z n : Nat} {v : Value} {c : List Value} {cs : Array Value} (vs : List (Nat × Value)) (h : W.ownsRow B t z v n c) (hW : W' = jW W q vs) (hb : W.heap[q]? = some (.cells cs T)) (ht : T ≠ t := by decide) : W'.ownsRow B t z v n c :=
  jos h (fun g hg => by
    rw [hW]
    refine jwo q g (fun e => ?_) vs W
    obtain ⟨_, _, cur, hh⟩ := jol h g hg
    rw [e, hb] at hh
    injection hh with h3
    injection h3 with _ h4
    exact ht h4)
theorem jbo {W W' : World} {p q : Nat} {x : Option Obj} (vs : List (Nat × Value)) (h : W.heap[p]? = x) (hW : W' = jW W q vs) (ne : p ≠ q) : W'.heap[p]? = x := by rw [hW, jwo q p ne vs W]; exact h
theorem jbs {W W' : World} {q : Nat} {cs cs' : List Value} {T : TypeId} (vs : List (Nat × Value)) (h : W.heap[q]? = some (.cells cs.toArray T)) (hW : W' = jW W q vs) (hl : jA cs vs = cs' := by simp only [jA, List.set_cons_zero, List.set_cons_succ]; rfl) : W'.heap[q]? = some (.cells cs'.toArray T) := by rw [hW, ← hl]; exact jwh q T vs W cs h
theorem jfr {W : World} {q T : Nat} {cs : Array Value} (h : W.heap[q]? = some (.cells cs T)) : ∀ i, W.frozen? ⟨q, i, none⟩ = false := fun i => by simp [World.frozen?, h]
theorem c1c {W : World} {q T : Nat} {a : Value} (kk : W.heap[q]? = some (.cells #[a] T)) : W.cell? ⟨q, 0, none⟩ = some a := by simp [World.cell?, kk]
theorem c1f {W : World} {q T : Nat} {a : Value} (kk : W.heap[q]? = some (.cells #[a] T)) : (W.cell? ⟨q, 0, none⟩ = some a) ∧ ∀ i, W.frozen? ⟨q, i, none⟩ = false := ⟨c1c kk, jfr kk⟩
theorem c2c {W : World} {q T : Nat} {a b : Value} (kk : W.heap[q]? = some (.cells #[a, b] T)) : W.cell? ⟨q, 0, none⟩ = some a ∧ W.cell? ⟨q, 1, none⟩ = some b := ⟨by simp [World.cell?, kk], by simp [World.cell?, kk]⟩
theorem c2f {W : World} {q T : Nat} {a b : Value} (kk : W.heap[q]? = some (.cells #[a, b] T)) : (W.cell? ⟨q, 0, none⟩ = some a ∧ W.cell? ⟨q, 1, none⟩ = some b) ∧ ∀ i, W.frozen? ⟨q, i, none⟩ = false := ⟨c2c kk, jfr kk⟩
theorem c3c {W : World} {q T : Nat} {a b c : Value} (kk : W.heap[q]? = some (.cells #[a, b, c] T)) : W.cell? ⟨q, 0, none⟩ = some a ∧ W.cell? ⟨q, 1, none⟩ = some b ∧ W.cell? ⟨q, 2, none⟩ = some c := ⟨by simp [World.cell?, kk], by simp [World.cell?, kk], by simp [World.cell?, kk]⟩
theorem c3f {W : World} {q T : Nat} {a b c : Value} (kk : W.heap[q]? = some (.cells #[a, b, c] T)) : (W.cell? ⟨q, 0, none⟩ = some a ∧ W.cell? ⟨q, 1, none⟩ = some b ∧ W.cell? ⟨q, 2, none⟩ = some c) ∧ ∀ i, W.frozen? ⟨q, i, none⟩ = false := ⟨c3c kk, jfr kk⟩
theorem c4c {W : World} {q T : Nat} {a b c d : Value} (kk : W.heap[q]? = some (.cells #[a, b, c, d] T)) : W.cell? ⟨q, 0, none⟩ = some a ∧ W.cell? ⟨q, 1, none⟩ = some b ∧ W.cell? ⟨q, 2, none⟩ = some c ∧ W.cell? ⟨q, 3, none⟩ = some d := ⟨by simp [World.cell?, kk], by simp [World.cell?, kk], by simp [World.cell?, kk], by simp [World.cell?, kk]⟩
theorem c4f {W : World} {q T : Nat} {a b c d : Value} (kk : W.heap[q]? = some (.cells #[a, b, c, d] T)) : (W.cell? ⟨q, 0, none⟩ = some a ∧ W.cell? ⟨q, 1, none⟩ = some b ∧ W.cell? ⟨q, 2, none⟩ = some c ∧ W.cell? ⟨q, 3, none⟩ = some d) ∧ ∀ i, W.frozen? ⟨q, i, none⟩ = false := ⟨c4c kk, jfr kk⟩
theorem c6c {W : World} {q T : Nat} {a b c d e f : Value} (kk : W.heap[q]? = some (.cells #[a, b, c, d, e, f] T)) : W.cell? ⟨q, 0, none⟩ = some a ∧ W.cell? ⟨q, 1, none⟩ = some b ∧ W.cell? ⟨q, 2, none⟩ = some c ∧ W.cell? ⟨q, 3, none⟩ = some d ∧ W.cell? ⟨q, 4, none⟩ = some e ∧ W.cell? ⟨q, 5, none⟩ = some f := ⟨by simp [World.cell?, kk], by simp [World.cell?, kk], by simp [World.cell?, kk], by simp [World.cell?, kk], by simp [World.cell?, kk], by simp [World.cell?, kk]⟩
theorem c6f {W : World} {q T : Nat} {a b c d e f : Value} (kk : W.heap[q]? = some (.cells #[a, b, c, d, e, f] T)) : (W.cell? ⟨q, 0, none⟩ = some a ∧ W.cell? ⟨q, 1, none⟩ = some b ∧ W.cell? ⟨q, 2, none⟩ = some c ∧ W.cell? ⟨q, 3, none⟩ = some d ∧ W.cell? ⟨q, 4, none⟩ = some e ∧ W.cell? ⟨q, 5, none⟩ = some f) ∧ ∀ i, W.frozen? ⟨q, i, none⟩ = false := ⟨c6c kk, jfr kk⟩
theorem c7c {W : World} {q T : Nat} {a b c d e f g : Value} (kk : W.heap[q]? = some (.cells #[a, b, c, d, e, f, g] T)) : W.cell? ⟨q, 0, none⟩ = some a ∧ W.cell? ⟨q, 1, none⟩ = some b ∧ W.cell? ⟨q, 2, none⟩ = some c ∧ W.cell? ⟨q, 3, none⟩ = some d ∧ W.cell? ⟨q, 4, none⟩ = some e ∧ W.cell? ⟨q, 5, none⟩ = some f ∧ W.cell? ⟨q, 6, none⟩ = some g := ⟨by simp [World.cell?, kk], by simp [World.cell?, kk], by simp [World.cell?, kk], by simp [World.cell?, kk], by simp [World.cell?, kk], by simp [World.cell?, kk], by simp [World.cell?, kk]⟩
theorem c7f {W : World} {q T : Nat} {a b c d e f g : Value} (kk : W.heap[q]? = some (.cells #[a, b, c, d, e, f, g] T)) : (W.cell? ⟨q, 0, none⟩ = some a ∧ W.cell? ⟨q, 1, none⟩ = some b ∧ W.cell? ⟨q, 2, none⟩ = some c ∧ W.cell? ⟨q, 3, none⟩ = some d ∧ W.cell? ⟨q, 4, none⟩ = some e ∧ W.cell? ⟨q, 5, none⟩ = some f ∧ W.cell? ⟨q, 6, none⟩ = some g) ∧ ∀ i, W.frozen? ⟨q, i, none⟩ = false := ⟨c7c kk, jfr kk⟩
theorem c9c {W : World} {q T : Nat} {a b c d e f g h i : Value} (kk : W.heap[q]? = some (.cells #[a, b, c, d, e, f, g, h, i] T)) : W.cell? ⟨q, 0, none⟩ = some a ∧ W.cell? ⟨q, 1, none⟩ = some b ∧ W.cell? ⟨q, 2, none⟩ = some c ∧ W.cell? ⟨q, 3, none⟩ = some d ∧ W.cell? ⟨q, 4, none⟩ = some e ∧ W.cell? ⟨q, 5, none⟩ = some f ∧ W.cell? ⟨q, 6, none⟩ = some g ∧ W.cell? ⟨q, 7, none⟩ = some h ∧ W.cell? ⟨q, 8, none⟩ = some i := ⟨by simp [World.cell?, kk], by simp [World.cell?, kk], by simp [World.cell?, kk], by simp [World.cell?, kk], by simp [World.cell?, kk], by simp [World.cell?, kk], by simp [World.cell?, kk], by simp [World.cell?, kk], by simp [World.cell?, kk]⟩
theorem c9f {W : World} {q T : Nat} {a b c d e f g h i : Value} (kk : W.heap[q]? = some (.cells #[a, b, c, d, e, f, g, h, i] T)) : (W.cell? ⟨q, 0, none⟩ = some a ∧ W.cell? ⟨q, 1, none⟩ = some b ∧ W.cell? ⟨q, 2, none⟩ = some c ∧ W.cell? ⟨q, 3, none⟩ = some d ∧ W.cell? ⟨q, 4, none⟩ = some e ∧ W.cell? ⟨q, 5, none⟩ = some f ∧ W.cell? ⟨q, 6, none⟩ = some g ∧ W.cell? ⟨q, 7, none⟩ = some h ∧ W.cell? ⟨q, 8, none⟩ = some i) ∧ ∀ i, W.frozen? ⟨q, i, none⟩ = false := ⟨c9c kk, jfr kk⟩
theorem hgg {w W : World} {q : Nat} (hz : W.heap.size = q) (h : w.heap.size ≤ W.heap.size) : Hid (w.heap.size ≤ q) := hz ▸ h
end Go.Proofs.YtejoifianjgefaaGreatDoor
namespace Go.Proofs.YtejoifianjgefaaGreatDoor
open Go.Proofs.Tryz
open Go.RowKit
def cls (r : Int) : Int :=
 if 65 ≤ r ∧ r ≤ 90 then 0 else if 97 ≤ r ∧ r ≤ 122 then 1 else if 48 ≤ r ∧ r ≤ 57 then 2 else if r = 45 then 3 else if r = 32 then 4 else if r = 44 then 5 else if 32 ≤ r ∧ r ≤ 126 then 6 else 7
def aW8 : Value := .agg #[.func (.func 280) #[] #[], .func (.func 281) #[] #[], .func (.func 282) #[] #[], .func (.func 283) #[] #[], .func (.func 284) #[] #[], .func (.func 285) #[] #[], .func (.func 286) #[] #[]]
theorem aL9 (r : Int) : (cls r = 0 ∧ 65 ≤ r ∧ r ≤ 90) ∨ (cls r = 1 ∧ 97 ≤ r ∧ r ≤ 122) ∨ (cls r = 2 ∧ 48 ≤ r ∧ r ≤ 57) ∨ (cls r = 3 ∧ r = 45) ∨ (cls r = 4 ∧ r = 32) ∨ (cls r = 5 ∧ r = 44) ∨ (cls r = 6 ∧ 32 ≤ r ∧ r ≤ 126 ∧ (r < 65 ∨ 90 < r) ∧ (r < 97 ∨ 122 < r) ∧ (r < 48 ∨ 57 < r) ∧ r ≠ 45 ∧ r ≠ 32 ∧ r ≠ 44) ∨ (cls r = 7 ∧ (r < 32 ∨ 126 < r)) := by
 unfold cls;repeat' split
 all_goals omega
theorem aQ4 {k : IntKind} {a b : Int} (h : a = b) : Ending.returned (.int k a) = .returned (.int k b) := by rw [h]
theorem bM2 (w : World) :
  Calls prog 264 #[] w fun e w' => e = .returned aW8 ∧ Below w.heap.size w w' := by
 go_enter func264, ntmps264;go_wp2
 exact bodyPost_ret (v := aW8) (by simp [results, results264, go_sem, aW8]) rfl ⟨rfl, (Below.refl _ _).alloc (Nat.le_refl _) _⟩
theorem aG8 (r : Int) (w : World) :
  Calls prog 235 #[.int .i32 r] w fun e w' => e = .returned (.int .i64 (cls r)) ∧ Below w.heap.size w w' := by
 have i0 : ∀ w : World, (Instr.index 302 aW8 (.int .i64 0)).run prog w = .ok (.func (.func 280) #[] #[]) w := fun _ => by kernel_rfl
 have i1 : ∀ w : World, (Instr.index 302 aW8 (.int .i64 1)).run prog w = .ok (.func (.func 281) #[] #[]) w := fun _ => by kernel_rfl
 have i2 : ∀ w : World, (Instr.index 302 aW8 (.int .i64 2)).run prog w = .ok (.func (.func 282) #[] #[]) w := fun _ => by kernel_rfl
 have i3 : ∀ w : World, (Instr.index 302 aW8 (.int .i64 3)).run prog w = .ok (.func (.func 283) #[] #[]) w := fun _ => by kernel_rfl
 have i4 : ∀ w : World, (Instr.index 302 aW8 (.int .i64 4)).run prog w = .ok (.func (.func 284) #[] #[]) w := fun _ => by kernel_rfl
 have i5 : ∀ w : World, (Instr.index 302 aW8 (.int .i64 5)).run prog w = .ok (.func (.func 285) #[] #[]) w := fun _ => by kernel_rfl
 have i6 : ∀ w : World, (Instr.index 302 aW8 (.int .i64 6)).run prog w = .ok (.func (.func 286) #[] #[]) w := fun _ => by kernel_rfl
 go_enter func235, ntmps235;go_wp2_with (go_at_call 264; refine (bM2 _).mono ?_; rintro e w1 ⟨rfl, hb⟩)
 go_loop [6] (fun i => ∃ k : Nat, k ≤ 7 ∧ (k : Int) ≤ cls r ∧ i = .int .i64 k) (fun i => 7 - (intOf i).toNat)
 case atStart => exact ⟨0, by omega, by have := aL9 r; omega, rfl⟩
 case round =>
  obtain ⟨k, hk, hc, rfl⟩ := hrel;have a0 : k = 0 ∨ k = 1 ∨ k = 2 ∨ k = 3 ∨ k = 4 ∨ k = 5 ∨ k = 6 ∨ k = 7 := by omega
  rcases a0 with rfl | rfl | rfl | rfl | rfl | rfl | rfl | rfl
  all_goals have HS : Hid _ := aL9 r
  ·go_wp2
   ·go_ret;exact ⟨aQ4 (by have := HS.out; omega), hb⟩
   ·go_round
    case rel => exact ⟨1, by omega, by have := HS.out; omega, rfl⟩
    case measure => simp [intOf]
   go_round
   case rel => exact ⟨1, by omega, by have := HS.out; omega, rfl⟩
   case measure => simp [intOf]
  ·go_wp2
   ·go_ret;exact ⟨aQ4 (by have := HS.out; omega), hb⟩
   ·go_round
    case rel => exact ⟨2, by omega, by have := HS.out; omega, rfl⟩
    case measure => simp [intOf]
   go_round
   case rel => exact ⟨2, by omega, by have := HS.out; omega, rfl⟩
   case measure => simp [intOf]
  ·go_wp2
   ·go_ret;exact ⟨aQ4 (by have := HS.out; omega), hb⟩
   ·go_round
    case rel => exact ⟨3, by omega, by have := HS.out; omega, rfl⟩
    case measure => simp [intOf]
   go_round
   case rel => exact ⟨3, by omega, by have := HS.out; omega, rfl⟩
   case measure => simp [intOf]
  ·by_cases hv : r = 45
   rotate_left
   ·have ht : (r == 45) = false := beq_eq_false_iff_ne.2 hv;go_wp2
    go_round
    case rel => exact ⟨4, by omega, by have := HS.out; omega, rfl⟩
    case measure => simp [intOf]
   have ht : (r == 45) = true := beq_iff_eq.2 hv;have HV : Hid (r = 45) := hv;clear hv;go_wp2
   go_ret;exact ⟨aQ4 (by have := HS.out; have := HV.out; omega), hb⟩
  ·by_cases hv : r = 32
   rotate_left
   ·have ht : (r == 32) = false := beq_eq_false_iff_ne.2 hv;go_wp2
    go_round
    case rel => exact ⟨5, by omega, by have := HS.out; omega, rfl⟩
    case measure => simp [intOf]
   have ht : (r == 32) = true := beq_iff_eq.2 hv;have HV : Hid (r = 32) := hv;clear hv;go_wp2
   go_ret;exact ⟨aQ4 (by have := HS.out; have := HV.out; omega), hb⟩
  ·by_cases hv : r = 44
   rotate_left
   ·have ht : (r == 44) = false := beq_eq_false_iff_ne.2 hv;go_wp2
    go_round
    case rel => exact ⟨6, by omega, by have := HS.out; omega, rfl⟩
    case measure => simp [intOf]
   have ht : (r == 44) = true := beq_iff_eq.2 hv;have HV : Hid (r = 44) := hv;clear hv;go_wp2
   go_ret;exact ⟨aQ4 (by have := HS.out; have := HV.out; omega), hb⟩
  ·go_wp2
   ·go_ret;exact ⟨aQ4 (by have := HS.out; omega), hb⟩
   ·go_round
    case rel => exact ⟨7, by omega, by have := HS.out; omega, rfl⟩
    case measure => simp [intOf]
   go_round
   case rel => exact ⟨7, by omega, by have := HS.out; omega, rfl⟩
   case measure => simp [intOf]
  go_wp2
  go_ret;exact ⟨aQ4 (by have := HS.out; omega), hb⟩
end Go.Proofs.YtejoifianjgefaaGreatDoor
namespace Go.Proofs.YtejoifianjgefaaGreatDoor
open Go.Proofs.Tryz
open Go.RowKit
open Go.Lib hiding intOf
def TokB (n : Int) : Prop := (97 ≤ n ∧ n ≤ 122) ∨ (48 ≤ n ∧ n ≤ 57) ∨ n = 45
def ValB (n : Int) : Prop := 32 ≤ n ∧ n ≤ 126
theorem cP3 (n : Int) : TokB n ↔ cls n = 1 ∨ cls n = 2 ∨ cls n = 3 := by
 have := aL9 n; unfold TokB; omega
theorem cP4 (n : Int) : ValB n ↔ cls n ≠ 7 := by
 have := aL9 n; unfold ValB; omega
theorem bQ1 {n : Int} (h : TokB n) : n < 128 := by unfold TokB at h; omega
theorem bQ2 {n : Int} (h : ValB n) : n < 128 := by unfold ValB at h; omega
def aA4 (p : Prop) (w : World) (e : Ending) (w' : World) : Prop := ∃ b : Bool, e = .returned (.bool b) ∧ (b = true ↔ p) ∧ Below w.heap.size w w'
theorem aA4.yes {p : Prop} {w w' : World} (hp : p) (hb : Below w.heap.size w w') : aA4 p w (.returned (.bool true)) w' := ⟨true, rfl, by simpa using hp, hb⟩
theorem aA4.no {p : Prop} {w w' : World} (hp : ¬ p) (hb : Below w.heap.size w w') : aA4 p w (.returned (.bool false)) w' := ⟨false, rfl, by simpa using hp, hb⟩
def AllB (p : Int → Prop) (s : Tx) : Prop := ∀ j (h : j < s.size), p ((s[j]'h).toNat : Int)
def bJ0 (p : Int → Prop) (s : Tx) (pos : Nat) : Prop := ∀ j (h : j < s.size), j < pos → p ((s[j]'h).toNat : Int)
theorem aN7 (p : Int → Prop) (s : Tx) : bJ0 p s 0 := fun _ _ h => absurd h (by omega)
theorem aR0 {p : Int → Prop} {s : ByteArray} {pos : Nat} (h : bJ0 p s pos) (hp : ¬ pos < s.size) : AllB p s := fun j hj => h j hj (by omega)
theorem aN8 {p : Int → Prop} {s : ByteArray} {pos : Nat} (h : bJ0 p s pos) (hp : pos < s.size) (hv : p ((s[pos]'hp).toNat : Int)) : bJ0 p s (pos + 1) := by
 intro j hj a0;by_cases e : j = pos
 ·subst e; exact hv
 exact h j hj (by omega)
theorem bV4 {p : Int → Prop} (hs : ∀ n, p n → n < 128) (s : Tx) (pos : Nat) (hp : pos < s.size) (h : p ((Utf8.decode s pos).1 : Int)) :
  p ((s[pos]'hp).toNat : Int) ∧ (Utf8.decode s pos).2 = 1 := by
 by_cases ha : (s[pos]'hp).toNat < 128
 ·rw [decode_ascii s pos hp ha] at h ⊢;exact ⟨h, rfl⟩
 have := (decode_high s pos hp (by omega)).1;have := hs _ h;omega
theorem bV5 {p : Int → Prop} (hs : ∀ n, p n → n < 128) (s : Tx) (pos : Nat) (hp : pos < s.size) (h : ¬ p ((Utf8.decode s pos).1 : Int)) : ¬ AllB p s := by
 intro ha;have h1 := ha pos hp;have h2 := hs _ h1;rw [decode_ascii s pos hp (by omega)] at h;exact h h1
theorem aI7 {w wr w1 : World} {s : ByteArray} {pos p1 : Nat} (hh : wr.heap[w.heap.size]? = some (.stringIter s pos)) (hbw : Below w.heap.size w wr)
  (hb1 : Below (wr.iterAt w.heap.size s p1).heap.size (wr.iterAt w.heap.size s p1) w1) : w1.heap[w.heap.size]? = some (.stringIter s p1) ∧ Below w.heap.size w w1 := by
 have a0 : w.heap.size < wr.heap.size := (blt hh);refine ⟨?_, ?_⟩
 ·rw [hb1.block _ (by rw [iterAt_size]; exact a0)];exact iterAt_heap _ _ _ _ _ hh
 exact (below_iterAt hbw (Nat.le_refl _) s p1).trans (hb1.mono (by rw [iterAt_size]; omega))
theorem bE4 (r : Int) (w : World) :
  Calls prog 238 #[.int .i32 r] w fun e w' => aA4 (TokB r) w e w' := by
 rw [cP3];go_enter func238, ntmps238;go_wp2_with (go_at_call 235; refine (aG8 _ _).mono ?_; rintro e w1 ⟨rfl, hb⟩)
 all_goals
  go_ret
  exact ⟨_, rfl, by simp_all, hb⟩
theorem bE5 (r : Int) (w : World) :
  Calls prog 239 #[.int .i32 r] w fun e w' => aA4 (ValB r) w e w' := by
 rw [cP4];go_enter func239, ntmps239;go_wp2_with (go_at_call 235; refine (aG8 _ _).mono ?_; rintro e w1 ⟨rfl, hb⟩)
 go_ret;exact ⟨_, rfl, by simp, hb⟩
theorem bQ3 (s : Tx) (w : World) :
  Calls prog 200 #[.string s, .func (.func 238) #[] #[]] w fun e w' => aA4 (AllB TokB s) w e w' := by
 go_enter func200, ntmps200;go_wp2
 go_loopw [6] (fun _ wr => ∃ pos : Nat, wr.heap[w.heap.size]? = some (.stringIter s pos) ∧ Bw w wr ∧ Hid (bJ0 TokB s pos)) (fun _ wr => s.size - wr.iterPos w.heap.size)
 case atStart => exact ⟨0, World.iter_heap _ _ _, (Below.refl _ _).alloc (Nat.le_refl _) _, aN7 _ _⟩
 case round =>
  obtain ⟨pos, hh, a2, a0⟩ := hrel;by_cases hp : pos < s.size
  rotate_left
  ·have a5 := fun ty => run_next_end_at (P := prog) wr w.heap.size s pos ty hh hp
   go_wp2
   go_ret;exact aA4.yes (aR0 a0.out hp) a2
  have a5 := fun ty => run_next_any_at (P := prog) wr w.heap.size s pos ty hh hp
  go_wp2_with (go_at_call 238; refine (bE4 _ _).mono ?_; rintro e w1 ⟨b, rfl, hbt, a3⟩)
  ·have a1 : b = false := by simpa using ‹(!b) = true›
   have a6 : ¬ TokB ((Utf8.decode s pos).1 : Int) := fun h => by rw [hbt.2 h] at a1; cases a1
   go_ret;exact aA4.no (bV5 (fun _ => bQ1) s pos hp a6) (aI7 hh a2 a3).2
  have a1 : b = true := by simpa using ‹(!b) = false›
  obtain ⟨hv, a4⟩ := bV4 (fun _ => bQ1) s pos hp (hbt.1 a1)
  rw [a4] at a3;obtain ⟨h1, h2⟩ := aI7 hh a2 a3;exact ⟨⟨pos + 1, h1, h2, aN8 a0.out hp hv⟩, by rw [iterPos_of h1, iterPos_of hh]; omega⟩
theorem bQ4 (s : Tx) (w : World) :
  Calls prog 200 #[.string s, .func (.func 239) #[] #[]] w fun e w' => aA4 (AllB ValB s) w e w' := by
 go_enter func200, ntmps200;go_wp2
 go_loopw [6] (fun _ wr => ∃ pos : Nat, wr.heap[w.heap.size]? = some (.stringIter s pos) ∧ Bw w wr ∧ Hid (bJ0 ValB s pos)) (fun _ wr => s.size - wr.iterPos w.heap.size)
 case atStart => exact ⟨0, World.iter_heap _ _ _, (Below.refl _ _).alloc (Nat.le_refl _) _, aN7 _ _⟩
 case round =>
  obtain ⟨pos, hh, a2, a0⟩ := hrel;by_cases hp : pos < s.size
  rotate_left
  ·have a5 := fun ty => run_next_end_at (P := prog) wr w.heap.size s pos ty hh hp
   go_wp2
   go_ret;exact aA4.yes (aR0 a0.out hp) a2
  have a5 := fun ty => run_next_any_at (P := prog) wr w.heap.size s pos ty hh hp
  go_wp2_with (go_at_call 239; refine (bE5 _ _).mono ?_; rintro e w1 ⟨b, rfl, hbt, a3⟩)
  ·have a1 : b = false := by simpa using ‹(!b) = true›
   have a6 : ¬ ValB ((Utf8.decode s pos).1 : Int) := fun h => by rw [hbt.2 h] at a1; cases a1
   go_ret;exact aA4.no (bV5 (fun _ => bQ2) s pos hp a6) (aI7 hh a2 a3).2
  have a1 : b = true := by simpa using ‹(!b) = false›
  obtain ⟨hv, a4⟩ := bV4 (fun _ => bQ2) s pos hp (hbt.1 a1)
  rw [a4] at a3;obtain ⟨h1, h2⟩ := aI7 hh a2 a3;exact ⟨⟨pos + 1, h1, h2, aN8 a0.out hp hv⟩, by rw [iterPos_of h1, iterPos_of hh]; omega⟩
def aL0 (s : Tx) : Prop := 1 ≤ s.size ∧ s.size ≤ 20 ∧ AllB TokB s
theorem aO1 (s : Tx) (w : World) (hs : s.size ≤ maxLen) :
  Calls prog 205 #[.string s] w fun e w' => aA4 (aL0 s) w e w' := by
 unfold maxLen at hs;by_cases h1 : (1 : Int) ≤ (s.size : Int)
 rotate_left
 ·go_enter func205, ntmps205;go_wp2_with fail
  go_ret;exact aA4.no (by unfold aL0; omega) (Below.refl _ _)
 by_cases h2 : (s.size : Int) ≤ 20
 rotate_left
 ·go_enter func205, ntmps205;go_wp2_with fail
  go_ret;exact aA4.no (by unfold aL0; omega) (Below.refl _ _)
 go_enter func205, ntmps205;go_wp2_with (go_at_call 200; refine (bQ3 _ _).mono ?_; rintro e w1 ⟨b, rfl, hbt, a0⟩)
 go_ret;exact ⟨b, rfl, by unfold aL0; rw [hbt]; exact ⟨fun h => ⟨by omega, by omega, h⟩, fun h => h.2.2⟩, a0⟩
theorem aO2 (s : Tx) (w : World) (hs : s.size ≤ maxLen) :
    Calls prog 122 #[.string s] w fun e w' => aA4 (aL0 s) w e w' := by
  unfold maxLen at hs;go_enter func122, ntmps122;go_wp2
  go_loop [3] (fun i => ∃ k : Nat, k ≤ s.size ∧ i = .int .i64 k ∧ Hid (bJ0 TokB s k)) (fun i => s.size - (intOf i).toNat)
  case atStart => exact ⟨0, Nat.zero_le _, rfl, aN7 _ _⟩
  case round =>
    obtain ⟨k, hk, rfl, a0⟩ := hrel;by_cases hlt : k < s.size
    rotate_left
    ·have a1 : Hid (AllB TokB s) := aR0 a0.out hlt;by_cases h1 : (1 : Int) ≤ (s.size : Int)
     rotate_left
     ·go_wp2
      go_ret;exact aA4.no (by unfold aL0; omega) (Below.refl _ _)
     by_cases h2 : (s.size : Int) ≤ 20
     rotate_left
     ·go_wp2
      go_ret;exact aA4.no (by unfold aL0; omega) (Below.refl _ _)
     go_wp2
     go_ret;exact aA4.yes ⟨by omega, by omega, a1.out⟩ (Below.refl _ _)
    go_wp2
    all_goals first
      | (go_ret
         have a2 : ¬ TokB ((s[k]'hlt).toNat : Int) := by
           unfold TokB
           try simp only [bne_iff_ne, ne_eq] at *
           omega
         exact aA4.no (fun h => a2 (h.2.2 k hlt)) (Below.refl _ _))
      | (go_round
         case rel =>
           have hy : TokB ((s[k]'hlt).toNat : Int) := by
             unfold TokB
             try simp only [bne_eq_false_iff_eq] at *
             omega
           exact ⟨k + 1, by omega, by go_num, aN8 a0.out hlt hy⟩
         case measure => simp [intOf]; omega)
end Go.Proofs.YtejoifianjgefaaGreatDoor
namespace Go.Proofs
open Go.Shelf
def Tryz.laysM171_ren : Go.Shelf.Ren := ⟨fun | 171 => 210 | 243 => 243 | 246 => 266 | 283 => 287 | 284 => 288 | 285 => 289 | 286 => 290 | 129 => 261 | 317 => 295 | 318 => 296 | 319 => 297 | 320 => 298 | 337 => 305 | 338 => 306 | n => n, fun | 3 => 3 | 9 => 9 | 2 => 2 | 4 => 4 | 171 => 314 | 0 => 0 | 53 => 300 | 37 => 177 | 5 => 5 | 173 => 316 | 212 => 324 | 51 => 298 | 20 => 20 | 213 => 325 | 46 => 267 | 232 => 330 | 233 => 331 | n => n, fun | 17 => 1 | 18 => 3 | 19 => 4 | n => n⟩
theorem Tryz.laysM171 : Go.Proofs.LaysM.n171 prog Tryz.laysM171_ren := {
  mixed := by kernel_rfl
  f129 := func261.trans (congrArg some (by kernel_rfl))
  f171 := func210.trans (congrArg some (by kernel_rfl))
  f243 := func243.trans (congrArg some (by kernel_rfl))
  f246 := func266.trans (congrArg some (by kernel_rfl))
  f283 := func287.trans (congrArg some (by kernel_rfl))
  f284 := func288.trans (congrArg some (by kernel_rfl))
  f285 := func289.trans (congrArg some (by kernel_rfl))
  f286 := func290.trans (congrArg some (by kernel_rfl))
  f317 := func295.trans (congrArg some (by kernel_rfl))
  f318 := func296.trans (congrArg some (by kernel_rfl))
  f319 := func297.trans (congrArg some (by kernel_rfl))
  f320 := func298.trans (congrArg some (by kernel_rfl))
  f337 := func305.trans (congrArg some (by kernel_rfl))
  f338 := func306.trans (congrArg some (by kernel_rfl))
  t0 := underlying0
  a0 := isAgg0
  z0 := sizeOf0
  v0 := zeroValue0
  t2 := underlying2
  a2 := isAgg2
  z2 := sizeOf2
  v2 := zeroValue2
  t3 := underlying3
  a3 := isAgg3
  z3 := sizeOf3
  v3 := zeroValue3
  t4 := underlying4
  a4 := isAgg4
  z4 := sizeOf4
  v4 := zeroValue4
  t5 := underlying5
  a5 := isAgg5
  z5 := sizeOf5
  v5 := zeroValue5
  t9 := underlying9
  a9 := isAgg9
  z9 := sizeOf9
  v9 := zeroValue9
  t20 := underlying20
  a20 := isAgg20
  z20 := sizeOf20
  v20 := zeroValue20
  t37 := underlying177
  a37 := isAgg177
  z37 := sizeOf177
  v37 := zeroValue177
  t46 := underlying267
  a46 := isAgg267
  z46 := sizeOf267
  v46 := zeroValue267
  t51 := underlying298
  a51 := isAgg298
  z51 := sizeOf298
  v51 := zeroValue298
  t53 := underlying300
  a53 := isAgg300
  z53 := sizeOf300
  v53 := zeroValue300
  t171 := underlying314
  a171 := isAgg314
  z171 := sizeOf314
  v171 := zeroValue314
  t173 := underlying316
  a173 := isAgg316
  z173 := sizeOf316
  v173 := zeroValue316
  t212 := underlying324
  a212 := isAgg324
  z212 := sizeOf324
  v212 := zeroValue324
  t213 := underlying325
  a213 := isAgg325
  z213 := sizeOf325
  t232 := underlying330
  a232 := isAgg330
  z232 := sizeOf330
  v232 := zeroValue330
  t233 := underlying331
  a233 := isAgg331
  z233 := sizeOf331
  v233 := zeroValue331
  g17 := by kernel_rfl
  g18 := by kernel_rfl
  g19 := by kernel_rfl
  i0 := by kernel_rfl
  i2 := by kernel_rfl
  i3 := by kernel_rfl
  i4 := by kernel_rfl
  i5 := by kernel_rfl
  i9 := by kernel_rfl
  i20 := by kernel_rfl
  i37 := by kernel_rfl
  i46 := by kernel_rfl
  i51 := by kernel_rfl
  i53 := by kernel_rfl
  i171 := by kernel_rfl
  i173 := by kernel_rfl
  i212 := by kernel_rfl
  i232 := by kernel_rfl
  i233 := by kernel_rfl
  m17 := by kernel_rfl
  m18 := by kernel_rfl
  m19 := by kernel_rfl }
open Go.RowKit Go.Sort Go.Lib in
theorem Tryz.strconv_Itoa (n : Int) (h0 : -9223372036854775808 ≤ n) (h1 : n ≤ 9223372036854775807) (w : World) (htab : Lib.TabIs prog w "internal/strconv.uint64pow10" .u64 Lib.pow10Tab) :
    Calls prog 210 #[.int .i64 n] w fun e w' => e = .returned (.string ⟨(Lib.itoa n).toArray⟩) ∧ ∃ k os, w' = grow (w.drewN k) os := Any.strconv_Itoa Tryz.laysM171 n h0 h1 w htab
def Tryz.laysM316_ren : Go.Shelf.Ren := ⟨fun | 316 => 220 | n => n, fun | 9 => 9 | 3 => 3 | 4 => 4 | 37 => 177 | 0 => 0 | 127 => 242 | 5 => 5 | n => n, fun | n => n⟩
theorem Tryz.laysM316 : Go.Proofs.LaysM.n316 prog Tryz.laysM316_ren := {
  mixed := by kernel_rfl
  f316 := func220.trans (congrArg some (by kernel_rfl))
  t0 := underlying0
  a0 := isAgg0
  z0 := sizeOf0
  v0 := zeroValue0
  t3 := underlying3
  a3 := isAgg3
  z3 := sizeOf3
  v3 := zeroValue3
  t4 := underlying4
  a4 := isAgg4
  z4 := sizeOf4
  v4 := zeroValue4
  t9 := underlying9
  a9 := isAgg9
  z9 := sizeOf9
  v9 := zeroValue9
  t37 := underlying177
  a37 := isAgg177
  z37 := sizeOf177
  v37 := zeroValue177
  t127 := underlying242
  a127 := isAgg242
  z127 := sizeOf242
  v127 := zeroValue242
  t5 := underlying5
  a5 := isAgg5
  z5 := sizeOf5
  v5 := zeroValue5
  i0 := by kernel_rfl
  i3 := by kernel_rfl
  i4 := by kernel_rfl
  i5 := by kernel_rfl
  i9 := by kernel_rfl
  i37 := by kernel_rfl
  i127 := by kernel_rfl }
open Go.RowKit in
theorem Tryz.stringslite_Clone (s : ByteArray) (w : World) (hlim : s.size ≤ 281474976710656) :
    Calls prog 220 #[.string s] w fun e w' => e = .returned (.string s) ∧ Below w.heap.size w w' := Any.stringslite_Clone Tryz.laysM316 s w hlim
def Tryz.lays99_ren : Go.Shelf.Ren := ⟨fun | 99 => 309 | 206 => 292 | n => n, fun | 9 => 9 | 4 => 4 | 3 => 3 | n => n, fun | n => n⟩
theorem Tryz.lays99 : Go.Proofs.Lays.n99 prog Tryz.lays99_ren := {
  mixed := by kernel_rfl
  f99 := func309.trans (congrArg some (by kernel_rfl))
  f206 := func292.trans (congrArg some (by kernel_rfl))
  t3 := underlying3
  a3 := isAgg3
  z3 := sizeOf3
  v3 := zeroValue3
  t4 := underlying4
  a4 := isAgg4
  z4 := sizeOf4
  v4 := zeroValue4
  t9 := underlying9
  a9 := isAgg9
  z9 := sizeOf9
  v9 := zeroValue9 }
open Go.RowKit Go.Lib in
theorem Tryz.strings_HasPrefix (s p : ByteArray) (w : World) :
    Calls prog 309 #[.string s, .string p] w fun e w' => e = .returned (.bool (Lib.hasPrefix s.data.toList p.data.toList)) ∧ w' = w := Any.strings_HasPrefix Tryz.lays99 s p w
def Tryz.lays193_ren : Go.Shelf.Ren := ⟨fun | 193 => 169 | n => n, fun | 31 => 22 | 9 => 9 | 4 => 4 | 3 => 3 | 0 => 0 | n => n, fun | n => n⟩
theorem Tryz.lays193 : Go.Proofs.Lays.n193 prog Tryz.lays193_ren := {
  mixed := by kernel_rfl
  f193 := func169.trans (congrArg some (by kernel_rfl))
  t0 := underlying0
  a0 := isAgg0
  z0 := sizeOf0
  v0 := zeroValue0
  t3 := underlying3
  a3 := isAgg3
  z3 := sizeOf3
  v3 := zeroValue3
  t4 := underlying4
  a4 := isAgg4
  z4 := sizeOf4
  v4 := zeroValue4
  t9 := underlying9
  a9 := isAgg9
  z9 := sizeOf9
  v9 := zeroValue9
  t31 := underlying22
  a31 := isAgg22
  z31 := sizeOf22
  v31 := zeroValue22 }
open Go.RowKit Go.Lib in
theorem Tryz.slices_Equal_string (b1 o1 n c b2 o2 m d : Nat) (xs ys : List ByteArray) (w : World) (hx : n ≤ xs.length) (hy : m ≤ ys.length) (hbig : n ≤ 9223372036854775807) (hbig2 : m ≤ 9223372036854775807) (hc1 : ∀ j, j < xs.length → w.cell? ⟨b1, o1 + j, none⟩ = some (.string (xs.getD j ByteArray.empty))) (hc2 : ∀ j, j < ys.length → w.cell? ⟨b2, o2 + j, none⟩ = some (.string (ys.getD j ByteArray.empty))) :
    Calls prog 169 #[.slice (some ⟨b1, o1, none⟩) n c, .slice (some ⟨b2, o2, none⟩) m d] w fun e w' => e = .returned (.bool (decide (xs.take n = ys.take m))) ∧ ∃ q, w' = w.drewN q := Any.slices_Equal_string Tryz.lays193 b1 o1 n c b2 o2 m d xs ys w hx hy hbig hbig2 hc1 hc2
open Go.RowKit Go.Lib in
theorem Tryz.slices_Equal_string_empty (a1 a2 : Option Addr) (c m d : Nat) (w : World) (hbig2 : m ≤ 9223372036854775807) :
    Calls prog 169 #[.slice a1 0 c, .slice a2 m d] w fun e w' => e = .returned (.bool (decide (m = 0))) ∧ w' = w := Any.slices_Equal_string_empty Tryz.lays193 a1 a2 c m d w hbig2
open Go.RowKit Go.Lib in
theorem Tryz.slices_Equal_string_lens (a1 a2 : Option Addr) (n c m d : Nat) (w : World) (hnm : n ≠ m) :
    Calls prog 169 #[.slice a1 n c, .slice a2 m d] w fun e w' => e = .returned (.bool false) ∧ w' = w := Any.slices_Equal_string_lens Tryz.lays193 a1 a2 n c m d w hnm
end Go.Proofs
namespace Go.Proofs.YtejoifianjgefaaGreatDoor
open Go.Proofs.Tryz
open Go.RowKit
theorem cU9 : (prog.info? 5).map (fun i => (i.zero, i.size, i.bytes)) = some (some (.int .u8 0), 1, 1) := by kernel_rfl
theorem aH9 (s : Tx) (w : World) (hlim : s.size ≤ 281474976710656) :
  Calls prog 190 #[.string s] w fun e w' => e = .returned (.string s) ∧ Below w.heap.size w w' := by
 go_enter func190, ntmps190;go_wp2_with (go_at_call 220; refine (Tryz.stringslite_Clone _ _ hlim).mono ?_; rintro e w1 ⟨rfl, a0⟩)
 go_ret;exact ⟨rfl, a0⟩
end Go.Proofs.YtejoifianjgefaaGreatDoor
namespace Go.Proofs.YtejoifianjgefaaGreatDoor
open Go.Proofs.Tryz
def aM1 : List UInt8 → List UInt8
 | [] => []
 | b :: r => if b.toNat = 32 then aM1 r else b :: r
def bC8 (l : List UInt8) : List UInt8 := (aM1 (aM1 l).reverse).reverse
def aG3 (s : Tx) : ByteArray := ⟨(bC8 s.data.toList).toArray⟩
theorem aP7 : ∀ (x y : List UInt8), (∀ b ∈ x, b.toNat = 32) → aM1 (x ++ y) = aM1 y
 | [], _, _ => rfl
 | b :: r, y, h => by
  rw [List.cons_append, aM1, if_pos (h b (by simp))]
  exact aP7 r y (fun c hc => h c (by simp [hc]))
theorem aX4 (b : UInt8) (r : List UInt8) (h : b.toNat ≠ 32) : aM1 (b :: r) = b :: r := by rw [aM1, if_neg h]
structure cS3 (s : Tx) (a b : Nat) : Prop where
 le : a ≤ b
 size : b ≤ s.size
 lead : ∀ j (h : j < s.size), j < a → (s[j]'h).toNat = 32
 tail : ∀ j (h : j < s.size), b ≤ j → (s[j]'h).toNat = 32
 first : ∀ h : a < s.size, a < b → (s[a]'h).toNat ≠ 32
 last : ∀ h : b - 1 < s.size, a < b → (s[b - 1]'h).toNat ≠ 32
theorem cM3 (l : List UInt8) (a b : Nat) (h : a ≤ b) : l = l.take a ++ ((l.take b).drop a ++ l.drop b) := by
 have h1 : (l.take b).take a = l.take a := by rw [List.take_take, Nat.min_eq_left h]
 have h2 : l.take b = l.take a ++ (l.take b).drop a := by
  have := (List.take_append_drop a (l.take b)).symm
  rw [h1] at this
  exact this
 have h3 := (List.take_append_drop b l).symm;rw [h2, List.append_assoc] at h3;exact h3
theorem cH3 (x y z : List UInt8) (hx : ∀ b ∈ x, b.toNat = 32) (hz : ∀ b ∈ z, b.toNat = 32) (h0 : ∀ b, y.head? = some b → b.toNat ≠ 32) (h1 : ∀ b, y.getLast? = some b → b.toNat ≠ 32) : bC8 (x ++ (y ++ z)) = y := by
 unfold bC8;rw [aP7 x _ hx];cases y with
 | nil =>
  have : aM1 ([] ++ z) = [] := by
   have := aP7 z [] hz
   simpa [aM1] using this
  rw [this]; rfl
 | cons b r =>
  rw [List.cons_append, aX4 b _ (h0 b rfl), ← List.cons_append, List.reverse_append, aP7 _ _ (fun c hc => hz c (by simpa using hc))]
  cases hl : (b :: r).reverse with
  | nil => simp at hl
  | cons c q =>
   have hc : (b :: r).getLast? = some c := by rw [List.getLast?_eq_head?_reverse, hl]; rfl
   rw [aX4 c q (h1 c hc), ← hl, List.reverse_reverse]
theorem aS2 (s : Tx) (j : Nat) (h : j < s.size) : s.data.toList[j]? = some (s[j]'h) := by
 rw [List.getElem?_eq_getElem (by simpa using h)];rfl
theorem bE6 {s : ByteArray} {a b : Nat} (h : cS3 s a b) : s.extract a b = aG3 s := by
 have a0 : s.data.toList.length = s.size := by simp
 have a2 : (s.extract a b).data.toList = (s.data.toList.take b).drop a := by
  rw [ByteArray.data_extract, Array.toList_extract]
  simp [List.extract, List.drop_take]
 have hcut := cM3 s.data.toList a b h.le
 have hm := cH3 (s.data.toList.take a) ((s.data.toList.take b).drop a) (s.data.toList.drop b)
  (fun x hx => by
   obtain ⟨j, hj, rfl⟩ := List.getElem_of_mem hx
   have a1 : j < a ∧ j < s.size := by rw [List.length_take, a0] at hj; omega
   have := h.lead j a1.2 a1.1
   rw [List.getElem_take]; exact this)
  (fun x hx => by
   obtain ⟨j, hj, rfl⟩ := List.getElem_of_mem hx
   have a1 : b + j < s.size := by rw [List.length_drop, a0] at hj; omega
   have := h.tail (b + j) a1 (by omega)
   rw [List.getElem_drop]; exact this)
  (fun x hx => by
   rw [List.head?_eq_getElem?, List.getElem?_drop, List.getElem?_take] at hx
   split at hx
   ·rename_i hlt
    have ha : a < s.size := by have := h.size; omega
    rw [Nat.add_zero, aS2 s a ha] at hx
    cases hx
    exact h.first ha (by omega)
   ·cases hx)
  (fun x hx => by
   rw [List.getLast?_eq_getElem?, List.getElem?_drop, List.getElem?_take, List.length_drop, List.length_take, a0] at hx
   have hsz := h.size; have a3 := h.le
   rw [Nat.min_eq_left hsz] at hx
   split at hx
   ·rename_i hlt
    have e : a + (b - a - 1) = b - 1 := by omega
    have hb : b - 1 < s.size := by omega
    rw [e, aS2 s (b - 1) hb] at hx
    cases hx
    exact h.last hb (by omega)
   ·cases hx)
 rw [← hcut] at hm;apply ByteArray.ext
 unfold aG3;rw [hm, ← a2]
theorem bV6 {s : ByteArray} (h0 : ∀ h : 0 < s.size, (s[0]'h).toNat ≠ 32) (h1 : ∀ h : s.size - 1 < s.size, (s[s.size - 1]'h).toNat ≠ 32) : aG3 s = s := by
 rw [← bE6 (s := s) (a := 0) (b := s.size) ⟨Nat.zero_le _, Nat.le_refl _, fun _ _ h => absurd h (by omega), fun _ h h' => absurd h (by omega), fun h _ => h0 h, fun h _ => h1 h⟩]
 apply ByteArray.ext
 simp
end Go.Proofs.YtejoifianjgefaaGreatDoor
namespace Go.Proofs.YtejoifianjgefaaGreatDoor
open Go.Proofs.Tryz
open Go.RowKit
open Go.Lib hiding intOf
def aD6 (t : Tx) (w : World) (e : Ending) (w' : World) : Prop := e = .returned (.string t) ∧ Below w.heap.size w w'
theorem aD6.of {t u : ByteArray} {w w' : World} (h : u = t) (hb : Below w.heap.size w w') : aD6 t w (.returned (.string u)) w' := ⟨by rw [h], hb⟩
theorem aM2 (s : Tx) (w : World) (hs : s.size ≤ maxLen) :
  Calls prog 158 #[.string s] w fun e w' => aD6 (aG3 s) w e w' := by
 unfold maxLen at hs;go_enter func158, ntmps158;go_wp2
 go_loop [3] (fun i => ∃ k : Nat, k ≤ s.size ∧ i = .int .i64 k ∧ Hid (∀ j (h : j < s.size), j < k → (s[j]'h).toNat = 32)) (fun i => s.size - (intOf i).toNat)
 case atStart => exact ⟨0, Nat.zero_le _, rfl, fun _ _ h => absurd h (by omega)⟩
 case round =>
  obtain ⟨k, hk, rfl, a0⟩ := hrel;by_cases hlt : k < s.size
  rotate_left
  ·have hT : Hid (ByteArray.empty = aG3 s) := (show ByteArray.empty = s.extract s.size s.size by simp).trans (bE6 ⟨Nat.le_refl _, Nat.le_refl _, fun j h _ => a0.out j h (by omega), fun j h hj => absurd h (by omega), fun h => absurd h (by omega), fun _ h => absurd h (by omega)⟩)
   obtain rfl : k = s.size := by omega
   go_wp2
   go_loop [4] (fun t => t = .int .i64 (s.size : Int)) (fun t => (intOf t).toNat)
   case atStart => exact rfl
   case round =>
    subst hrel;go_wp2
    go_ret;exact aD6.of hT.out (Below.refl _ _)
  by_cases hb : (s[k]'hlt).toNat = 32
  ·have a2 : (((s[k]'hlt).toNat : Int) == 32) = true := by simp [hb]
   have HB := hid hb;clear hb;go_wp2
   go_round
   case rel =>
    refine ⟨k + 1, by omega, by go_num, ?_⟩;intro j h hj;by_cases e : j = k
    ·subst e; exact HB.out
    exact a0.out j h (by omega)
   case measure => simp [intOf]; omega
  have a2 : (((s[k]'hlt).toNat : Int) == 32) = false := by
   rw [beq_eq_false_iff_ne]; omega
  have a1 : Hid ((s[k]'hlt).toNat ≠ 32) := hb;clear hb;go_wp2
  go_loop [4] (fun t => ∃ m : Nat, k ≤ m ∧ m < s.size ∧ t = .int .i64 ((m : Int) + 1) ∧ Hid (∀ j (h : j < s.size), m + 1 ≤ j → (s[j]'h).toNat = 32)) (fun t => (intOf t).toNat)
  case atStart => exact ⟨s.size - 1, by omega, by omega, by go_num, fun j h hj => absurd h (by omega)⟩
  case round =>
   obtain ⟨m, a6, a3, rfl, a4⟩ := hrel;have a7 : (k : Int) < (m : Int) + 1 := by omega
   by_cases hb : (s[m]'a3).toNat = 32
   rotate_left
   ·have a2 : (((s[m]'a3).toNat : Int) == 32) = false := by
     rw [beq_eq_false_iff_ne]; omega
    have hT : Hid (s.extract k (m + 1) = aG3 s) := bE6 ⟨by omega, by omega, fun j h hj => a0.out j h hj, fun j h hj => a4.out j h (by omega), fun _ _ => a1.out, fun _ _ => hb⟩
    clear hb;go_wp2
    go_ret;exact aD6.of hT.out (Below.refl _ _)
   have a2 : (((s[m]'a3).toNat : Int) == 32) = true := by simp [hb]
   have a5 : k < m := by
    rcases Nat.lt_or_ge k m with h | h
    ·exact h
    ·exfalso
     have e : m = k := by omega
     subst e
     exact a1.out hb
   have HB := hid hb;clear hb;go_wp2
   go_round
   case rel =>
    refine ⟨m - 1, by omega, by omega, by go_num, ?_⟩;intro j h hj;by_cases e : j = m
    ·subst e; exact HB.out
    exact a4.out j h (by omega)
   case measure => simp [intOf]
theorem bB9 (s : Tx) (w : World) (hs : s.size ≤ 281474976710656) :
  Calls prog 265 #[.string s] w fun e w' => aD6 (aG3 s) w e w' := by
 go_enter func265, ntmps265;go_wp2
 go_loopw [3] (fun t wr => ∃ pos : Nat, pos ≤ s.size ∧ t = .int .i64 (s.size : Int) ∧ wr.heap[w.heap.size]? = some (.stringIter s pos) ∧ Bw w wr ∧ Hid (∀ j (h : j < s.size), j < pos → (s[j]'h).toNat = 32)) (fun _ wr => s.size - wr.iterPos w.heap.size)
 case atStart => exact ⟨0, Nat.zero_le _, rfl, World.iter_heap _ _ _, (Below.refl _ _).alloc (Nat.le_refl _) _, fun _ _ h => absurd h (by omega)⟩
 case round =>
  obtain ⟨k, hk, rfl, hh, a1, a0⟩ := hrel;by_cases hlt : k < s.size
  rotate_left
  ·have hT : Hid (ByteArray.empty = aG3 s) := (show ByteArray.empty = s.extract s.size s.size by simp).trans (bE6 ⟨Nat.le_refl _, Nat.le_refl _, fun j h _ => a0.out j h (by omega), fun j h hj => absurd h (by omega), fun h => absurd h (by omega), fun _ h => absurd h (by omega)⟩)
   have a3 := fun ty => run_next_end_at (P := prog) wr w.heap.size s k ty hh hlt
   go_wp2
   clear a3 hh;go_loop [4] (fun t => t = .int .i64 (s.size : Int)) (fun t => (intOf t).toNat)
   case atStart => exact rfl
   case round =>
    subst hrel;go_wp2_with (go_at_call 190; refine (aH9 _ _ (by simp)).mono ?_; rintro e w2 ⟨rfl, a5⟩)
    go_ret;exact aD6.of hT.out (a1.trans (a5.mono a1.size))
  by_cases hb : (s[k]'hlt).toNat = 32
  ·have hcl : (cls ((s[k]'hlt).toNat : Int) != 4) = false := by rw [hb]; rfl
   have a3 := fun ty => run_next_ascii_at (P := prog) wr w.heap.size s k ty hh hlt (by omega)
   have HB := hid hb;clear hb;go_wp2_with (go_at_call 235; refine (aG8 _ _).mono ?_; rintro e w1 ⟨rfl, a4⟩)
   obtain ⟨h1, h2⟩ := aI7 hh a1 a4;refine ⟨⟨k + 1, by omega, rfl, h1, h2, ?_⟩, by rw [iterPos_of h1, iterPos_of hh]; omega⟩;intro j h hj;by_cases e : j = k
   ·subst e; exact HB.out
   exact a0.out j h (by omega)
  have a2 : Hid ((s[k]'hlt).toNat ≠ 32) := hb
  have a6 : ((Utf8.decode s k).1 : Int) ≠ 32 := by
   by_cases ha : (s[k]'hlt).toNat < 128
   ·rw [decode_ascii s k hlt ha]; show ((s[k]'hlt).toNat : Int) ≠ 32; omega
   ·have := (decode_high s k hlt (by omega)).1; omega
  have hcl : (cls ((Utf8.decode s k).1 : Int) != 4) = true := by
   have := aL9 ((Utf8.decode s k).1 : Int)
   rw [bne_iff_ne]; omega
  have a3 := fun ty => run_next_any_at (P := prog) wr w.heap.size s k ty hh hlt
  clear hb a6;go_wp2_with (go_at_call 235; refine (aG8 _ _).mono ?_; rintro e w1 ⟨rfl, a4⟩)
  obtain ⟨_, h2⟩ := aI7 hh a1 a4;clear a3 hcl a4 hh a1;go_loop [4] (fun t => ∃ m : Nat, k ≤ m ∧ m < s.size ∧ t = .int .i64 ((m : Int) + 1) ∧ Hid (∀ j (h : j < s.size), m + 1 ≤ j → (s[j]'h).toNat = 32)) (fun t => (intOf t).toNat)
  case atStart => exact ⟨s.size - 1, by omega, by omega, by go_num, fun j h hj => absurd h (by omega)⟩
  case round =>
   obtain ⟨m, b1, a7, rfl, a8⟩ := hrel;have b2 : (k : Int) < (m : Int) + 1 := by omega
   by_cases hb : (s[m]'a7).toNat = 32
   rotate_left
   ·have a9 : (((s[m]'a7).toNat : Int) == 32) = false := by
     rw [beq_eq_false_iff_ne]; omega
    have hT : Hid (s.extract k (m + 1) = aG3 s) := bE6 ⟨by omega, by omega, fun j h hj => a0.out j h hj, fun j h hj => a8.out j h (by omega), fun _ _ => a2.out, fun _ _ => hb⟩
    clear hb;have hz : (s.extract k (m + 1)).size ≤ 281474976710656 := by simp; omega
    go_wp2_with (go_at_call 190; refine (aH9 _ _ hz).mono ?_; rintro e w2 ⟨rfl, a5⟩)
    go_ret;exact aD6.of hT.out (h2.trans (a5.mono h2.size))
   have a9 : (((s[m]'a7).toNat : Int) == 32) = true := by simp [hb]
   have b0 : k < m := by
    rcases Nat.lt_or_ge k m with h | h
    ·exact h
    ·exfalso
     have e : m = k := by omega
     subst e
     exact a2.out hb
   have HB := hid hb;clear hb;go_wp2
   go_round
   case rel =>
    refine ⟨m - 1, by omega, by omega, by go_num, ?_⟩;intro j h hj;by_cases e : j = m
    ·subst e; exact HB.out
    exact a8.out j h (by omega)
   case measure => simp [intOf]
def aL1 (s : Tx) : Prop := 1 ≤ s.size ∧ s.size ≤ 60 ∧ AllB ValB s ∧ aG3 s = s
theorem bM3 (s : Tx) (h1 : 1 ≤ s.size) : aG3 s = s ↔ ((s[0]'(by omega)).toNat ≠ 32 ∧ (s[s.size - 1]'(by omega)).toNat ≠ 32) := by
 constructor
 ·intro h
  have hl : bC8 s.data.toList = s.data.toList := by
   have := congrArg (fun x : ByteArray => x.data.toList) h
   simpa [aG3] using this
  have a0 : s.data.toList.length = s.size := by simp
  have a1 : ∀ l : List UInt8, (aM1 l).length ≤ l.length ∧ ((aM1 l).length = l.length → ∀ b, l.head? = some b → b.toNat ≠ 32) := by
   intro l
   induction l with
   | nil => simp [aM1]
   | cons b r ih =>
    rw [aM1]
    split
    ·refine ⟨by simp; omega, fun h => ?_⟩
     simp at h; omega
    ·rename_i hb
     refine ⟨by simp, fun _ c hc => ?_⟩
     simp at hc; subst hc; exact hb
  have k1 := a1 s.data.toList;have k2 := a1 (aM1 s.data.toList).reverse
  have hL : (aM1 (aM1 s.data.toList).reverse).length = s.data.toList.length := by
   have := congrArg List.length hl
   simpa [bC8] using this
  rw [List.length_reverse] at k2;have e1 : (aM1 s.data.toList).length = s.data.toList.length := by omega
  have e2 : (aM1 (aM1 s.data.toList).reverse).length = (aM1 s.data.toList).length := by omega
  have hd : aM1 s.data.toList = s.data.toList := by
   cases hc : s.data.toList with
   | nil => rfl
   | cons b r =>
    have := k1.2 e1 b (by rw [hc]; rfl)
    exact aX4 b r this
  refine ⟨?_, ?_⟩
  ·apply k1.2 e1
   rw [List.head?_eq_getElem?, aS2 s 0 (by omega)]
  apply k2.2 e2
  rw [hd, ← List.getLast?_eq_head?_reverse, List.getLast?_eq_getElem?, a0, aS2 s (s.size - 1) (by omega)]
 rintro ⟨h0, h2⟩;exact bV6 (fun _ => h0) (fun _ => h2)
theorem aI2 (a b : Tx) : (a.toList == b.toList) = true ↔ a = b := by
 rw [beq_iff_eq, ByteArray.toList_eq, ByteArray.toList_eq];exact ⟨fun h => ByteArray.ext (Array.toList_inj.1 h), fun h => by rw [h]⟩
theorem aO3 (s : Tx) (w : World) (hs : s.size ≤ maxLen) :
  Calls prog 206 #[.string s] w fun e w' => aA4 (aL1 s) w e w' := by
 unfold maxLen at hs;by_cases h1 : (s.size : Int) < 1
 ·go_enter func206, ntmps206;go_wp2_with fail
  go_ret;exact aA4.no (by unfold aL1; omega) (Below.refl _ _)
 by_cases h2 : (60 : Int) < (s.size : Int)
 ·go_enter func206, ntmps206;go_wp2_with fail
  go_ret;exact aA4.no (by unfold aL1; omega) (Below.refl _ _)
 have a1 : Hid _ := bM3 s (by omega);have a0 : 0 < s.size := by omega
 by_cases hb : (s[0]'a0).toNat = 32
 ·have ht : (((s[0]'a0).toNat : Int) == 32) = true := by simp [hb]
  have HB := hid hb;clear hb;go_enter func206, ntmps206;go_wp2_with fail
  go_ret;exact aA4.no (fun h => (a1.out.1 h.2.2.2).1 HB.out) (Below.refl _ _)
 have ht : (((s[0]'a0).toNat : Int) == 32) = false := by
  rw [beq_eq_false_iff_ne]; omega
 obtain ⟨m, hm⟩ : ∃ m, s.size = m + 1 := ⟨s.size - 1, by omega⟩;have a2 : m < s.size := by omega
 have a3 : Hid (s.size - 1 = m) := by show s.size - 1 = m; omega
 have a4 : Hid (¬ (s[0]'a0).toNat = 32) := hb;clear hb;have a7 : (s.size : Int) - 1 = (m : Int) := by omega
 by_cases hl : (s[m]'a2).toNat = 32
 ·have hN : Hid (¬ aL1 s) := by
   intro h
   have h3 := (a1.out.1 h.2.2.2).2
   simp only [a3.out] at h3
   exact h3 hl
  have a5 : (((s[m]'a2).toNat : Int) == 32) = true := by simp [hl]
  clear hl hm;go_enter func206, ntmps206;go_wp2_with fail
  go_ret;exact aA4.no hN.out (Below.refl _ _)
 have hY : Hid (AllB ValB s → aL1 s) := by
  intro h
  refine ⟨by omega, by omega, h, a1.out.2 ⟨a4.out, ?_⟩⟩
  simp only [a3.out]
  exact hl
 have a5 : (((s[m]'a2).toNat : Int) == 32) = false := by
  rw [beq_eq_false_iff_ne]; omega
 clear hl hm;go_enter func206, ntmps206;go_wp2_with (go_at_call 200; refine (bQ4 _ _).mono ?_; rintro e w1 ⟨b, rfl, hbt, a6⟩)
 go_ret;exact ⟨b, rfl, hbt.trans ⟨hY.out, fun h => h.2.2.1⟩, a6⟩
theorem aO4 (s : Tx) (w : World) (hs : s.size ≤ maxLen) :
    Calls prog 97 #[.string s] w fun e w' => aA4 (aL1 s) w e w' := by
  have a2 := hs;unfold maxLen at hs;go_enter func97, ntmps97;go_wp2
  go_loop [3] (fun i => ∃ k : Nat, k ≤ s.size ∧ i = .int .i64 k ∧ Hid (bJ0 ValB s k)) (fun i => s.size - (intOf i).toNat)
  case atStart => exact ⟨0, Nat.zero_le _, rfl, aN7 _ _⟩
  case round =>
    obtain ⟨k, hk, rfl, a0⟩ := hrel;by_cases hlt : k < s.size
    ·go_wp2
     all_goals first
       | (go_ret
          have a3 : ¬ ValB ((s[k]'hlt).toNat : Int) := by
            unfold ValB
            omega
          exact aA4.no (fun h => a3 (h.2.2.1 k hlt)) (Below.refl _ _))
       | (go_round
          case rel =>
            have hy : ValB ((s[k]'hlt).toNat : Int) := by
              unfold ValB
              omega
            exact ⟨k + 1, by omega, by go_num, aN8 a0.out hlt hy⟩
          case measure => simp [intOf]; omega)
    have a1 : Hid (AllB ValB s) := aR0 a0.out hlt;by_cases h1 : (1 : Int) ≤ (s.size : Int)
    rotate_left
    ·go_wp2_with go_in
     go_ret;exact aA4.no (by unfold aL1; omega) (Below.refl _ _)
    by_cases h2 : (s.size : Int) ≤ 60
    rotate_left
    ·go_wp2_with go_in
     go_ret;exact aA4.no (by unfold aL1; omega) (Below.refl _ _)
    go_wp2_with (first | (go_at_call 158; refine (aM2 _ _ a2).mono ?_; rintro e w2 ⟨rfl, a4⟩) | go_in)
    go_ret;refine ⟨_, rfl, ?_, a4⟩;rw [aI2];exact ⟨fun h => ⟨by omega, by omega, a1.out, h⟩, fun h => h.2.2.2⟩
end Go.Proofs.YtejoifianjgefaaGreatDoor
namespace Go.Proofs.YtejoifianjgefaaGreatDoor
open Go.Proofs.Tryz
def dgF : Nat → Nat → List UInt8
 | 0, _ => []
 | f + 1, n => if n = 0 then [] else dgF f (n / 10) ++ [UInt8.ofNat (48 + n % 10)]
theorem bD5 (f : Nat) : dgF f 0 = [] := by cases f <;> simp [dgF]
theorem bM4 (f n : Nat) (h : n ≠ 0) : dgF (f + 1) n = dgF f (n / 10) ++ [UInt8.ofNat (48 + n % 10)] := by simp [dgF, h]
def numL (n : Nat) : List UInt8 := if 1000000 < n then [] else if n = 0 then [48] else dgF 8 n
def aI6 (n : Nat) : ByteArray := ⟨(numL n).toArray⟩
end Go.Proofs.YtejoifianjgefaaGreatDoor
namespace Go.Proofs.YtejoifianjgefaaGreatDoor
open Go.Proofs.Tryz
open Go.RowKit
open Go.Lib hiding intOf
theorem bM5 (W : World) (d : Int) : (convert 177 9 (.slice (some ⟨W.heap.size, 0, none⟩) 1 1)).run prog (W.alloc (.cells #[.int .u8 d] 5)) = .ok (.string (strOfNums [d])) (W.alloc (.cells #[.int .u8 d] 5)) :=
 run_convert_bytes_arg (P := prog) (W.alloc (.cells #[.int .u8 d] 5)) 177 5 underlying177 underlying5 W.heap.size 0 1 1 [d] rfl (fun i hi => by
  have : i = 0 := by omega
  subst this
  simp) 9 underlying9
theorem bE7 (n : Nat) (w : World) (hn : n ≤ 9999999) :
  Calls prog 90 #[.int .i64 (n : Int)] w fun e w' => aD6 (aI6 n) w e w' := by
 by_cases h1 : (n : Int) ≤ 1000000
 rotate_left
 ·go_enter func90, ntmps90;go_wp2
  go_ret;exact aD6.of (by unfold aI6 numL; rw [if_pos (by omega)]) (Below.refl _ _)
 by_cases h0 : n = 0
 ·subst h0;go_enter func90, ntmps90;go_wp2
  go_ret;exact aD6.of rfl (Below.refl _ _)
 have a3 : ((n : Int) == 0) = false := by rw [beq_eq_false_iff_ne]; omega
 have a4 := bM5;go_enter func90, ntmps90;go_wp2
 go_loopw [0, 3] (fun a b wr => ∃ (f m : Nat) (out : Tx), a = .int .i64 (m : Int) ∧ b = .string out ∧ m ≤ 1000000 ∧ f ≤ 8 ∧ out.size ≤ 8 - f ∧ Bw w wr ∧ Hid (m < 10 ^ f ∧ dgF f m ++ out.data.toList = dgF 8 n)) (fun a _ _ => (intOf a).toNat)
 case atStart => exact ⟨8, n, _, rfl, rfl, by omega, Nat.le_refl _, Nat.le_refl _, Below.refl _ _, ⟨by omega, by simp⟩⟩
 case round =>
  obtain ⟨f, m, out, rfl, rfl, hm, a5, hsz, a0, hd⟩ := hrel;by_cases hp : (0 : Int) < (m : Int)
  rotate_left
  ·have hT : Hid (out = aI6 n) := by
    obtain ⟨_, h⟩ := hd.out
    have e : m = 0 := by omega
    rw [e, bD5, List.nil_append] at h
    show out = aI6 n
    apply ByteArray.ext
    apply Array.toList_inj.1
    rw [h]
    unfold aI6 numL
    rw [if_neg (by omega), if_neg h0]
   go_wp2
   go_ret;exact aD6.of hT.out a0
  have a1 : ∀ d : Int, (strOfNums [d]).size = 1 := fun d => strOfNums_size [d]
  go_wp2
  go_roundw
  case rel =>
   obtain ⟨hf, a2⟩ := hd.out;cases f with
   | zero => simp at hf; omega
   | succ f =>
    rw [Nat.pow_succ] at hf
    refine ⟨f, m / 10, strOfNums [48 + (m : Int) % 10] ++ out, by simp, rfl, by omega, by omega, ?_, a0.alloc a0.size _, by omega, ?_⟩
    ·rw [ByteArray.size_append, a1]; omega
    ·have e : (strOfNums [48 + (m : Int) % 10]).data.toList = [UInt8.ofNat (48 + m % 10)] := by
      rw [strOfNums_data]
      have : (48 + (m : Int) % 10).toNat = 48 + m % 10 := by omega
      simp only [List.map_cons, List.map_nil, this]
     rw [bM4 f m (by omega), List.append_assoc] at a2
     rw [← a2, ByteArray.data_append, Array.toList_append, e]
  case measure => simp [intOf]; omega
theorem bA0 {s : ByteArray} (h : 1 ≤ s.size) : s.toList.isEmpty = false := by
 have : s.toList.length = s.size := by rw [ByteArray.toList_eq]; simp
 cases hc : s.toList with
 | nil => rw [hc] at this; simp at this; omega
 | cons _ _ => rfl
theorem aS3 {s : ByteArray} (h : s.size = 0) : s.toList.isEmpty = true := by
 have : s.toList.length = s.size := by rw [ByteArray.toList_eq]; simp
 rw [h] at this;rw [List.length_eq_zero_iff.1 this]; rfl
def lowB (n : Int) : Int := if 65 ≤ n ∧ n ≤ 90 then n + 32 else n
def bE8 (s : Tx) : List Int := s.data.toList.map (fun b => lowB (b.toNat : Int))
def aJ5 (s : Tx) : ByteArray := strOfNums (bE8 s)
theorem bE9 (s : Tx) : (bE8 s).length = s.size := by simp [bE8]
theorem bF0 (s : Tx) (j : Nat) (h : j < s.size) : (bE8 s).getD j 0 = lowB ((s[j]'h).toNat : Int) := by
 unfold bE8;rw [List.getD_eq_getElem?_getD, List.getElem?_map, aS2 s j h];rfl
theorem bF1 (s : Tx) (pos : Nat) (hp : pos < s.size) : pos + (Utf8.decode s pos).2 ≤ s.size ∧ 1 ≤ (Utf8.decode s pos).2 ∧
  ∀ j (h : j < s.size), pos < j → j < pos + (Utf8.decode s pos).2 → 128 ≤ (s[j]'h).toNat := by
 have hg : ∀ k (h : pos + k < s.size), (s.get! (pos + k)).toNat = (s[pos + k]'h).toNat := by
  intro k h
  have : s.get! (pos + k) = s[pos + k]'h := get_at s (pos + k) h
  rw [this]
 have a1 : ∀ n : Nat, (∀ k, 1 ≤ k → k < n → pos + k < s.size ∧ (s.get! (pos + k)).toNat / 64 = 2) → ∀ j (h : j < s.size), pos < j → j < pos + n → 128 ≤ (s[j]'h).toNat := by
  intro n hn j h h1 h2
  obtain ⟨k, rfl⟩ : ∃ k, j = pos + k := ⟨j - pos, by omega⟩
  have := (hn k (by omega) (by omega)).2
  rw [hg k h] at this
  omega
 have a0 : ∀ j (h : j < s.size), pos < j → j < pos + 1 → 128 ≤ (s[j]'h).toNat := fun j _ h1 h2 => absurd h1 (by omega)
 simp only [Utf8.decode]
 split
 ·exact ⟨by omega, by omega, a0⟩
 split
 ·rename_i h2
  simp only [Bool.and_eq_true, beq_iff_eq, decide_eq_true_eq] at h2
  split
  ·exact ⟨by dsimp only; omega, by dsimp only; omega, a1 2 (fun k a b => by
    obtain rfl : k = 1 := by omega
    exact h2.2)⟩
  exact ⟨by dsimp only; omega, by dsimp only; omega, a0⟩
 split
 ·rename_i h3
  simp only [Bool.and_eq_true, beq_iff_eq, decide_eq_true_eq] at h3
  split
  ·exact ⟨by dsimp only; omega, by dsimp only; omega, a1 3 (fun k a b => by
    rcases (by omega : k = 1 ∨ k = 2) with rfl | rfl
    ·exact h3.1.2
    ·exact h3.2)⟩
  exact ⟨by dsimp only; omega, by dsimp only; omega, a0⟩
 split
 ·rename_i h4
  simp only [Bool.and_eq_true, beq_iff_eq, decide_eq_true_eq] at h4
  split
  ·exact ⟨by dsimp only; omega, by dsimp only; omega, a1 4 (fun k a b => by
    rcases (by omega : k = 1 ∨ k = 2 ∨ k = 3) with rfl | rfl | rfl
    ·exact h4.1.1.2
    ·exact h4.1.2
    ·exact h4.2)⟩
  exact ⟨by dsimp only; omega, by dsimp only; omega, a0⟩
 exact ⟨by dsimp only; omega, by dsimp only; omega, a0⟩
def aU7 (s : Tx) (pos j : Nat) : Int := if j < pos then (bE8 s).getD j 0 else ((s.data.toList.getD j 0).toNat : Int)
theorem cC3 (s : Tx) (j : Nat) : aU7 s 0 j = ((s.data.toList.getD j 0).toNat : Int) := by simp [aU7]
theorem aX9 (s : Tx) (j : Nat) (h : j < s.size) : s.data.toList.getD j 0 = s[j]'h := by
 rw [List.getD_eq_getElem?_getD, aS2 s j h]; rfl
theorem cH4 (s : Tx) (pos j : Nat) (hp : ¬ pos < s.size) (hj : j < s.size) : aU7 s pos j = (bE8 s).getD j 0 := by
 unfold aU7; rw [if_pos (by omega)]
theorem cC4 (s : Tx) (pos : Nat) (h : pos < s.size) : aU7 s pos pos = ((s[pos]'h).toNat : Int) := by
 unfold aU7; rw [if_neg (by omega), aX9 s pos h]
theorem cC5 (s : Tx) (pos q : Nat) (hpq : pos ≤ q) (hn : ∀ j (h : j < s.size), pos ≤ j → j < q → ¬ (65 ≤ (s[j]'h).toNat ∧ (s[j]'h).toNat ≤ 90)) (j : Nat) (hj : j < s.size) : aU7 s q j = aU7 s pos j := by
 unfold aU7;by_cases h1 : j < pos
 ·rw [if_pos h1, if_pos (by omega)]
 rw [if_neg h1];by_cases h2 : j < q
 rotate_left
 ·rw [if_neg h2]
 rw [if_pos h2, bF0 s j hj, aX9 s j hj];have := hn j hj (by omega) h2;unfold lowB;rw [if_neg (by omega)]
theorem cH5 (s : Tx) (pos : Nat) (h : pos < s.size) (hu : 65 ≤ (s[pos]'h).toNat ∧ (s[pos]'h).toNat ≤ 90) : aU7 s (pos + 1) pos = ((s[pos]'h).toNat : Int) + 32 := by
 unfold aU7;rw [if_pos (by omega), bF0 s pos h];unfold lowB;rw [if_pos (by omega)]
theorem bV7 (s : Tx) (pos j : Nat) (h : j ≠ pos) : aU7 s (pos + 1) j = aU7 s pos j := by
 unfold aU7;by_cases h1 : j < pos
 ·rw [if_pos h1, if_pos (by omega)]
 rw [if_neg h1, if_neg (by omega)]
theorem bC0 {w wr w1 : World} {B k : Nat} {s : ByteArray} {pos p1 : Nat} (hB : B ≤ k) (hh : wr.heap[k]? = some (.stringIter s pos)) (hbw : Below B w wr)
  (hb1 : Below (wr.iterAt k s p1).heap.size (wr.iterAt k s p1) w1) : w1.heap[k]? = some (.stringIter s p1) ∧ Below B w w1 ∧ ∀ j, j ≠ k → j < wr.heap.size → w1.heap[j]? = wr.heap[j]? := by
 have a0 : k < wr.heap.size := (blt hh);refine ⟨?_, ?_, ?_⟩
 ·rw [hb1.block _ (by rw [iterAt_size]; exact a0)];exact iterAt_heap _ _ _ _ _ hh
 ·exact (below_iterAt hbw hB s p1).trans (hb1.mono (by rw [iterAt_size]; omega))
 intro j hj a1;rw [hb1.block _ (by rw [iterAt_size]; exact a1)];exact iterAt_other _ _ _ _ _ hj
theorem bM6 (s : Tx) (w : World) :
  Calls prog 204 #[.string s] w fun e w' => aD6 (aJ5 s) w e w' := by
 obtain ⟨W0, a3, b2, hsz, a0, hfz, a4⟩ : ∃ (W0 : World) (a3 : Nat), (convert 9 177 (.string s)).run prog w = .ok (.slice (some ⟨w.heap.size, 0, none⟩) s.size a3) W0 ∧ W0.heap.size = w.heap.size + 1 ∧
   Hid (∀ j, j < s.size → W0.cell? ⟨w.heap.size, j, none⟩ = some (.int .u8 (aU7 s 0 j))) ∧ Hid (∀ j, j < s.size → W0.frozen? ⟨w.heap.size, j, none⟩ = false) ∧ Bw w W0 := by
  refine ⟨_, _, Lib.run_convert_string_bytes (P := prog) w 9 177 5 s underlying9 underlying177 underlying5, bytesWorld_size _ _ _, ?_, ?_, ?_⟩
  · intro j hj; rw [cC3]; exact bytesWorld_cell w 5 s j hj
  ·intro j hj
   have b3 : s.size ≤ (bytesCells w 5 s).size := by simp [bytesCells]
   simp [World.frozen?, bytesWorld_at_new]
   omega
  · exact ⟨rfl, rfl, rfl, by rw [bytesWorld_size]; omega, fun k hk => bytesWorld_at_old w 5 s k hk⟩
 go_enter func204, ntmps204
 go_wp2
 go_loopw [4] (fun _ wr => ∃ pos : Nat, pos ≤ s.size ∧ wr.heap[w.heap.size + 1]? = some (.stringIter s pos) ∧ Bw w wr ∧ Hid (∀ j, j < s.size → wr.cell? ⟨w.heap.size, j, none⟩ = some (.int .u8 (aU7 s pos j))) ∧ Hid (∀ j, j < s.size → wr.frozen? ⟨w.heap.size, j, none⟩ = false)) (fun _ wr => s.size - wr.iterPos (w.heap.size + 1))
 case atStart =>
  refine ⟨0, Nat.zero_le _, ?_, ?_, ?_, ?_⟩
  · rw [← hsz]; exact World.iter_heap _ _ _
  · exact a4.alloc (by omega) _
  · intro j hj; rw [← a0.out j hj]; exact World.cell?_alloc_lt _ _ _ (by simp; omega)
  · intro j hj; rw [← hfz.out j hj]; exact World.frozen?_alloc_old _ _ _ (by simp; omega)
 case round =>
  clear a0 hfz
  obtain ⟨pos, b0, hh, a5, a0, hfz⟩ := hrel
  by_cases hp : pos < s.size
  rotate_left
  ·have a6 := fun ty => run_next_end_at (P := prog) wr (w.heap.size + 1) s pos ty hh hp
   have a8 := run_convert_bytes_arg (P := prog) wr 177 5 underlying177 underlying5 w.heap.size 0 s.size a3 (bE8 s) (bE9 s) (fun i hi => by
    rw [Nat.zero_add, a0.out i hi, cH4 s pos i hp hi]) 9 underlying9
   go_wp2
   go_ret
   exact aD6.of rfl a5
  by_cases hu : 65 ≤ (s[pos]'hp).toNat ∧ (s[pos]'hp).toNat ≤ 90
  rotate_left
  ·have a6 := fun ty => run_next_any_at (P := prog) wr (w.heap.size + 1) s pos ty hh hp
   obtain ⟨d1, d2, d3⟩ := bF1 s pos hp
   have hcl : (cls ((Utf8.decode s pos).1 : Int) == 0) = false := by
    have := aL9 ((Utf8.decode s pos).1 : Int)
    rw [beq_eq_false_iff_ne]
    by_cases ha : (s[pos]'hp).toNat < 128
    ·rw [decode_ascii s pos hp ha] at this ⊢
     dsimp only at this ⊢
     omega
    ·have := (decode_high s pos hp (by omega)).1
     omega
   have a9 : ∀ j, j < s.size → aU7 s (pos + (Utf8.decode s pos).2) j = aU7 s pos j := fun j hj => cC5 s pos _ (by omega) (fun i hi h1 h2 => by
    by_cases e : i = pos
    · subst e; exact hu
    · have := d3 i hi (by omega) h2; omega) j hj
   have HS := hid a9
   have a7 : w.heap.size < wr.heap.size := by
    have := (blt hh)
    omega
   clear hu d3 a9
   go_wp2_with (go_at_call 235; refine (aG8 _ _).mono ?_; rintro e w1 ⟨rfl, a2⟩)
   obtain ⟨p1, p2, p3⟩ := bC0 (by omega) hh a5 a2
   have hblk : w1.heap[w.heap.size]? = wr.heap[w.heap.size]? := p3 _ (by omega) a7
   refine ⟨⟨_, d1, p1, p2, ?_, ?_⟩, by rw [iterPos_of p1, iterPos_of hh]; omega⟩
   ·intro j hj
    rw [World.cell?_of_block (w := wr) hblk, HS.out j hj]; exact a0.out j hj
   ·intro j hj
    rw [World.frozen?_of_block (w := wr) hblk]; exact hfz.out j hj
  have a6 := fun ty => run_next_ascii_at (P := prog) wr (w.heap.size + 1) s pos ty hh hp (by omega)
  have hcl : (cls ((s[pos]'hp).toNat : Int) == 0) = true := by
   have := aL9 ((s[pos]'hp).toNat : Int)
   rw [beq_iff_eq]; omega
  have b4 : (65 : Int) ≤ ((s[pos]'hp).toNat : Int) := by omega
  have b5 : ((s[pos]'hp).toNat : Int) ≤ 90 := by omega
  have HU := hid hu
  clear hu
  have a7 : w.heap.size < wr.heap.size := by
   have := (blt hh)
   omega
  go_wp2_with fail
  refine (aG8 _ _).mono ?_
  rintro e w1 ⟨rfl, a2⟩
  obtain ⟨p1, p2, p3⟩ := bC0 (by omega) hh a5 a2
  have hblk : w1.heap[w.heap.size]? = wr.heap[w.heap.size]? := p3 _ (by omega) a7
  have b1 : w1.cell? ⟨w.heap.size, pos, none⟩ = some (.int .u8 ((s[pos]'hp).toNat : Int)) := by
   rw [World.cell?_of_block (w := wr) hblk, a0.out pos hp, cC4 s pos hp]
  have b6 : w1.frozen? ⟨w.heap.size, pos, none⟩ = false := by
   rw [World.frozen?_of_block (w := wr) hblk]; exact hfz.out pos hp
  have HB := hid hblk
  have H1 : Hid (w1.heap[w.heap.size + 1]? = some (.stringIter s (pos + 1))) := p1
  have HH := hid hh
  clear hblk p3 a2 a6 hh p1
  go_wp2
  have a1 : (w1.setCell ⟨w.heap.size, pos, none⟩ (.int .u8 (((s[pos]'hp).toNat : Int) + 32))).heap[w.heap.size + 1]? = some (.stringIter s (pos + 1)) := by
   rw [Below.heap_setCell _ _ _ _ (by simp)]; exact H1.out
  refine ⟨⟨pos + 1, by omega, a1, p2.setCell (Nat.le_refl _) _, ?_, ?_⟩, by rw [iterPos_of a1, iterPos_of HH.out]; omega⟩
  ·intro j hj
   by_cases e : j = pos
   ·subst e
    rw [World.cell?_setCell_same _ _ _ b1, cH5 s j hp HU.out]
   rw [World.cell?_setCell_other (h := fun h => e (by cases h; rfl)), World.cell?_of_block (w := wr) HB.out, bV7 s pos j e]
   exact a0.out j hj
  ·intro j hj
   rw [World.frozen?_setCell, World.frozen?_of_block (w := wr) HB.out]; exact hfz.out j hj
def bM7 (s : Tx) (k : Nat) : List Value := ((bE8 s).take k).map (Value.int .u8)
theorem cC6 (s : Tx) (k : Nat) (h : k < s.size) : bM7 s (k + 1) = bM7 s k ++ [Value.int .u8 (lowB ((s[k]'h).toNat : Int))] := by
 have hl : k < (bE8 s).length := by rw [bE9]; exact h
 unfold bM7;rw [List.take_succ_eq_append_getElem hl, List.map_append];have := bF0 s k h;rw [List.getD_eq_getElem?_getD, List.getElem?_eq_getElem hl] at this;simp at this
 simp [this]
theorem cH6 (s : Tx) (k : Nat) (h : ¬ k < s.size) : bM7 s k = (bE8 s).map (Value.int .u8) := by
 unfold bM7; rw [List.take_of_length_le (by rw [bE9]; omega)]
theorem aB7 {w : World} {base : Nat} {e : TypeId} {size : Nat} {v : Value} {n g : Nat} {xs : List Value} (h : w.ownsRow base e size v n xs) (hg : v.ownBlock = some g) : base ≤ g := by
 rcases h.2 with ⟨rfl, _⟩ | ⟨g', a0, a1, rfl, hb, _⟩
 ·simp [Value.ownBlock] at hg
 simp [Value.ownBlock] at hg; omega
theorem bM8 (V : Int) : ∀ u ∈ [Value.int .u8 V], u.oneCell' = true := by intro u hu; simp at hu; subst hu; rfl
theorem cC7 {w : World} {base n : Nat} {v : Value} {xs : List Int} (h : w.ownsRow base 5 1 v n (xs.map (Value.int .u8))) : (convert 177 9 v).run prog w = .ok (.string (strOfNums xs)) w := by
 obtain ⟨hl, hv⟩ := h;simp at hl
 rcases hv with ⟨rfl, h0⟩ | ⟨g, a0, a1, rfl, _, hg, hn, _, a3, a2⟩
 ·have : xs = [] := List.length_eq_zero_iff.1 (by omega);subst this;exact run_convert_bytes_nil (P := prog) w 177 5 underlying177 underlying5 0 0 9 underlying9
 refine run_convert_bytes_arg (P := prog) w 177 5 underlying177 underlying5 g 0 n a0 xs hl (fun i hi => ?_) 9 underlying9
 have h1 : (a1.toList.take (n * 1))[i]? = some (.int .u8 (xs.getD i 0)) := by
  rw [a2, List.getElem?_map, List.getD_eq_getElem?_getD, List.getElem?_eq_getElem (by omega)]
  simp
 rw [List.getElem?_take, if_pos (by omega)] at h1;simp only [World.cell?, hg, Nat.zero_add]
 simpa using h1
theorem bM9 (s : Tx) (w : World) (hs : s.size ≤ 1048576) :
  Calls prog 157 #[.string s] w fun e w' => aD6 (aJ5 s) w e w' := by
 obtain ⟨i0, hi, a6, a7, a8⟩ := info_parts cU9;go_enter func157, ntmps157;go_wp2
 go_loopw [3, 4] (fun v i wr => ∃ k : Nat, k ≤ s.size ∧ i = .int .i64 k ∧ wr.ownsRow w.heap.size 5 1 v k (bM7 s k) ∧ Bw w wr) (fun _ i _ => s.size - (intOf i).toNat)
 case atStart => exact ⟨0, Nat.zero_le _, rfl, ⟨by simp [bM7], .inr ⟨w.heap.size, 0, #[], rfl, Nat.le_refl _, heap_alloc_new w _, Nat.le_refl _, Nat.zero_le _, rfl, rfl⟩⟩, (Below.refl _ _).alloc (Nat.le_refl _) _⟩
 case round =>
  obtain ⟨k, hk, rfl, hown, a2⟩ := hrel;by_cases hlt : k < s.size
  rotate_left
  ·have b3 := cC7 (by rw [cH6 s k hlt] at hown; exact hown);go_wp2
   go_ret;exact aD6.of rfl a2
  have hb := (s[k]'hlt).toNat_lt;have a9 : Hid _ := cC6 s k hlt;have b0 : k + 1 ≤ maxLen := by unfold maxLen; omega
  have b1 : (k + 1) * 1 ≤ 140737488355328 := by omega
  have b2 : ∀ o, w.heap.size ≤ (wr.alloc o).heap.size := fun o => by have := a2.size; simp; omega
  by_cases hu : (65 : Int) ≤ ((s[k]'hlt).toNat : Int) ∧ ((s[k]'hlt).toNat : Int) ≤ 90
  ·have hV : Hid (((s[k]'hlt).toNat : Int) + 32 = lowB ((s[k]'hlt).toNat : Int)) := by show _ = _; unfold lowB; rw [if_pos hu]
   obtain ⟨b4, b5⟩ := hu;go_wp2_with (at_builtin; refine wpList_append_own _ rfl _ _ 177 rfl w.heap.size 5 i0 (.int .u8 0) 1 1 underlying177 hi a6 a7 a8 rfl (by decide) _ _ _ rfl (hown.alloc _) ⟨wr.heap.size, 0, none⟩ 1 1 [.int .u8 (((s[k]'hlt).toNat : Int) + 32)] rfl rfl (cell_one_new _ _ _) (bM8 _) b0 b1 (b2 _) ?_)
   intro v1 w1 a0 a1 _;have a4 : Bw w w1 := (a2.alloc a2.size _).grown a1 (by have := a2.size; simp; omega) (fun g hg => aB7 hown hg)
   rw [hV.out, ← a9.out] at a0;clear a1 hown a2;go_wp2
   go_roundw
   case rel => exact ⟨k + 1, by omega, by go_num, a0, a4⟩
   case measure => simp [intOf]; omega
  have hV : Hid (((s[k]'hlt).toNat : Int) = lowB ((s[k]'hlt).toNat : Int)) := by show _ = _; unfold lowB; rw [if_neg hu]
  have a5 : ((s[k]'hlt).toNat : Int) < 65 ∨ (65 : Int) ≤ ((s[k]'hlt).toNat : Int) ∧ (90 : Int) < ((s[k]'hlt).toNat : Int) := by omega
  clear hu;rcases a5 with hc | ⟨hc, b6⟩
  ·go_wp2_with (at_builtin; refine wpList_append_own _ rfl _ _ 177 rfl w.heap.size 5 i0 (.int .u8 0) 1 1 underlying177 hi a6 a7 a8 rfl (by decide) _ _ _ rfl (hown.alloc _) ⟨wr.heap.size, 0, none⟩ 1 1 [.int .u8 ((s[k]'hlt).toNat : Int)] rfl rfl (cell_one_new _ _ _) (bM8 _) b0 b1 (b2 _) ?_)
   intro v1 w1 a0 a1 _;have a4 : Bw w w1 := (a2.alloc a2.size _).grown a1 (by have := a2.size; simp; omega) (fun g hg => aB7 hown hg)
   have a3 : w1.ownsRow w.heap.size 5 1 v1 (k + 1) (bM7 s (k + 1)) := by rw [a9.out, ← hV.out]; exact a0
   clear a0;clear a1 hown a2;go_wp2
   go_roundw
   case rel => exact ⟨k + 1, by omega, by go_num, a3, a4⟩
   case measure => simp [intOf]; omega
  go_wp2_with (at_builtin; refine wpList_append_own _ rfl _ _ 177 rfl w.heap.size 5 i0 (.int .u8 0) 1 1 underlying177 hi a6 a7 a8 rfl (by decide) _ _ _ rfl (hown.alloc _) ⟨wr.heap.size, 0, none⟩ 1 1 [.int .u8 ((s[k]'hlt).toNat : Int)] rfl rfl (cell_one_new _ _ _) (bM8 _) b0 b1 (b2 _) ?_)
  intro v1 w1 a0 a1 _;have a4 : Bw w w1 := (a2.alloc a2.size _).grown a1 (by have := a2.size; simp; omega) (fun g hg => aB7 hown hg)
  have a3 : w1.ownsRow w.heap.size 5 1 v1 (k + 1) (bM7 s (k + 1)) := by rw [a9.out, ← hV.out]; exact a0
  clear a0;clear a1 hown a2;go_wp2
  go_roundw
  case rel => exact ⟨k + 1, by omega, by go_num, a3, a4⟩
  case measure => simp [intOf]; omega
def aJ6 (l : Ts) (t : Tx) : Ts := if t.size = 0 then l else l ++ [t]
def aC6 (s : Tx) : Nat → Ts × Nat
 | 0 => ([], 0)
 | k + 1 => if (s.data.toList.getD k 0).toNat = 44 then (aJ6 (aC6 s k).1 (aG3 (s.extract (aC6 s k).2 k)), k + 1) else aC6 s k
def aN3 (s : Tx) : Ts := aJ6 (aC6 s s.size).1 (aG3 (s.extract (aC6 s s.size).2 s.size))
theorem bV8 (l : Ts) (t : Tx) : (aJ6 l t).length ≤ l.length + 1 := by
 unfold aJ6; split <;> simp
theorem bA1 (s : Tx) : ∀ k, (aC6 s k).2 ≤ k ∧ (aC6 s k).1.length ≤ k := by
 intro k;induction k with
 | zero => simp [aC6]
 | succ k ih =>
  rw [aC6]
  split
  ·have := bV8 (aC6 s k).1 (aG3 (s.extract (aC6 s k).2 k))
   dsimp only; omega
  ·omega
theorem aS4 (s : Tx) (k : Nat) (h : k < s.size) (hc : (s[k]'h).toNat = 44) : aC6 s (k + 1) = (aJ6 (aC6 s k).1 (aG3 (s.extract (aC6 s k).2 k)), k + 1) := by
 rw [aC6, aX9 s k h, if_pos hc]
theorem aS5 (s : Tx) (k : Nat) (h : k < s.size) (hc : (s[k]'h).toNat ≠ 44) : aC6 s (k + 1) = aC6 s k := by
 rw [aC6, aX9 s k h, if_neg hc]
theorem bQ5 (s : Tx) (k : Nat) : ∀ d, k + d ≤ s.size → (∀ j (h : j < s.size), k ≤ j → j < k + d → (s[j]'h).toNat ≠ 44) → aC6 s (k + d) = aC6 s k := by
 intro d;induction d with
 | zero => intro _ _; rfl
 | succ d ih =>
  intro hd hn
  rw [show k + (d + 1) = (k + d) + 1 by omega, aS5 s (k + d) (by omega) (hn _ _ (by omega) (by omega))]
  exact ih (by omega) (fun j h h1 h2 => hn j h h1 (by omega))
def aX5 (base : Nat) (xs : Ts) (w : World) (e : Ending) (w' : World) : Prop :=
 ∃ v, e = .returned v ∧ w'.ownsRow base 9 1 v xs.length (xs.map Value.string) ∧ Below base w w'
theorem aX5.of {base : Nat} {xs ys : Ts} {w w' : World} {v : Value} {n : Nat} (h : ys = xs) (hn : n = ys.length) (hown : w'.ownsRow base 9 1 v n (ys.map Value.string)) (hb : Below base w w') : aX5 base xs w (.returned v) w' := by
 subst h; subst hn; exact ⟨v, rfl, hown, hb⟩
theorem aC0 {w w' : World} {base B : Nat} {e : TypeId} {size : Nat} {v : Value} {n : Nat} {xs : List Value} (h : w.ownsRow base e size v n xs) (hb : Below B w w') (hB : ∀ g, v.ownBlock = some g → g < B) : w'.ownsRow base e size v n xs := by
 refine ⟨h.1, ?_⟩;rcases h.2 with h2 | ⟨g, a0, a1, rfl, h3, h4, h5⟩
 ·exact .inl h2
 exact .inr ⟨g, a0, a1, rfl, h3, by rw [hb.block g (hB g rfl)]; exact h4, h5⟩
theorem aA6 {w : World} {base : Nat} {e : TypeId} {size : Nat} {v : Value} {n g : Nat} {xs : List Value} (h : w.ownsRow base e size v n xs) (hg : v.ownBlock = some g) : g < w.heap.size := by
 rcases h.2 with ⟨rfl, _⟩ | ⟨g', a0, a1, rfl, hb, hh, _⟩
 ·simp [Value.ownBlock] at hg
 simp [Value.ownBlock] at hg
 subst hg;exact (blt hh)
theorem bQ6 {w : World} {base b : Nat} {e : TypeId} {size : Nat} {v : Value} {n : Nat} {xs : List Value} (h : w.ownsRow base e size v n xs) (hb : b ≤ base) : w.ownsRow b e size v n xs := by
 refine ⟨h.1, ?_⟩;rcases h.2 with h2 | ⟨g, a0, a1, h3, h4, h5⟩
 ·exact .inl h2
 exact .inr ⟨g, a0, a1, h3, by omega, h5⟩
theorem bN0 (t : Tx) : ∀ u ∈ [Value.string t], u.oneCell' = true := by intro u hu; simp at hu; subst hu; rfl
theorem bQ7 : (prog.info? 9).map (fun i => (i.zero, i.size, i.bytes)) = some (some (.string ⟨#[]⟩), 1, 16) := by kernel_rfl
theorem bA2 {l : Ts} {t : ByteArray} (h : t.toList.isEmpty = true) : aJ6 l t = l := by
 unfold aJ6
 have : t.size = 0 := by
  rw [ByteArray.toList_eq] at h
  have := List.isEmpty_iff.1 h
  have h2 : t.data.toList.length = t.size := by simp
  rw [this] at h2; simpa using h2.symm
 rw [if_pos this]
theorem aX6 {l : Ts} {t : ByteArray} (h : t.toList.isEmpty = false) : aJ6 l t = l ++ [t] := by
 unfold aJ6
 have : t.size ≠ 0 := by
  intro hc
  rw [aS3 hc] at h; cases h
 rw [if_neg this]
theorem aW9 (base : Nat) (v : Value) (n : Nat) (xs : Ts) (raw : Tx) (w : World) (hx : n = xs.length) (hown : w.ownsRow base 9 1 v n (xs.map Value.string)) (hbase : base ≤ w.heap.size) (hn : n ≤ 1048577) (hraw : raw.size ≤ 281474976710656) :
  Calls prog 237 #[v, .string raw] w fun e w' => aX5 base (aJ6 xs (aG3 raw)) w e w' := by
 obtain ⟨i0, hi, a5, a6, a7⟩ := info_parts bQ7;have a8 : n + 1 ≤ maxLen := by unfold maxLen; omega
 have a9 : (n + 1) * 16 ≤ 140737488355328 := by omega
 have HX := hid hx;clear hx;cases he : (aG3 raw).toList.isEmpty
 ·have HE : Hid _ := aX6 (l := xs) he;go_enter func237, ntmps237;go_wp2_with fail
  refine (bB9 _ _ hraw).mono ?_;rintro e w1 ⟨rfl, a2⟩;have a0 := aC0 hown a2 (fun g hg => aA6 hown hg)
  have a4 : ∀ o, base ≤ (w1.alloc o).heap.size := fun o => by have := a2.size; simp; omega
  go_wp2_with (at_builtin; refine wpList_append_own _ rfl _ _ 22 rfl base 9 i0 (.string ⟨#[]⟩) 1 16 underlying22 hi a5 a6 a7 rfl (by decide) _ _ _ rfl (a0.alloc _) ⟨w1.heap.size, 0, none⟩ 1 1 [.string (aG3 raw)] rfl rfl (cell_one_new _ _ _) (bN0 _) a8 a9 (a4 _) ?_)
  intro v1 w2 a3 a1 _;have b0 : Below base w w2 := (((a2.mono hbase).alloc (Nat.le_trans hbase a2.size) _).grown a1 (a4 _) (fun g hg => aB7 hown hg))
  clear hown a0 a4 a1;go_wp2
  go_ret;refine aX5.of (n := n + 1) (ys := xs ++ [aG3 raw]) HE.out.symm (by rw [HX.out]; simp) (by simpa using a3) b0
 have HE : Hid _ := bA2 (l := xs) he;go_enter func237, ntmps237;go_wp2_with (go_at_call 265; refine (bB9 _ _ hraw).mono ?_; rintro e w1 ⟨rfl, a2⟩)
 go_ret;exact aX5.of (ys := xs) HE.out.symm HX.out (aC0 hown a2 (fun g hg => aA6 hown hg)) (a2.mono hbase)
theorem bN1 (s : Tx) (w : World) (hs : s.size ≤ 1048576) :
  Calls prog 203 #[.string s] w fun e w' => aX5 w.heap.size (aN3 s) w e w' := by
 go_enter func203, ntmps203;go_wp2
 go_loopw [3, 4] (fun v i wr => ∃ pos f : Nat, pos ≤ s.size ∧ f ≤ pos ∧ i = .int .i64 (f : Int) ∧ wr.heap[w.heap.size]? = some (.stringIter s pos) ∧ Bw w wr ∧
   Hid (f = (aC6 s pos).2) ∧ wr.ownsRow (w.heap.size + 1) 9 1 v (aC6 s pos).1.length ((aC6 s pos).1.map Value.string)) (fun _ _ wr => s.size - wr.iterPos w.heap.size)
 case atStart => exact ⟨0, 0, Nat.zero_le _, Nat.le_refl _, rfl, World.iter_heap _ _ _, (Below.refl _ _).alloc (Nat.le_refl _) _, rfl, World.ownsRow_nil _ _ _ _⟩
 case round =>
  obtain ⟨pos, f, b0, b2, rfl, hh, a7, hf, hown⟩ := hrel;have b1 := bA1 s pos;have b3 : w.heap.size < wr.heap.size := (blt hh);by_cases hp : pos < s.size
  rotate_left
  ·have a6 := fun ty => run_next_end_at (P := prog) wr w.heap.size s pos ty hh hp
   have a9 : pos = s.size := by omega
   have HL : Hid (aJ6 (aC6 s pos).1 (aG3 (s.extract f s.size)) = aN3 s) := by
    show _ = _
    unfold aN3; rw [hf.out, a9]
   clear a9;go_wp2_with fail
   refine (aW9 (w.heap.size + 1) _ _ _ _ _ rfl hown (by omega) (by omega) (by simp; omega)).mono ?_;rintro e w2 ⟨v2, rfl, a0, a3⟩;have a8 : Bw w w2 := a7.trans (a3.mono (by omega));clear hown a3 a6 hh;go_wp2
   go_ret;exact aX5.of HL.out rfl (bQ6 a0 (by omega)) a8
  by_cases hc : (s[pos]'hp).toNat = 44
  rotate_left
  ·have a6 := fun ty => run_next_any_at (P := prog) wr w.heap.size s pos ty hh hp
   obtain ⟨d1, d2, d3⟩ := bF1 s pos hp
   have hcl : (cls ((Utf8.decode s pos).1 : Int) == 5) = false := by
    have := aL9 ((Utf8.decode s pos).1 : Int)
    rw [beq_eq_false_iff_ne]
    by_cases ha : (s[pos]'hp).toNat < 128
    ·rw [decode_ascii s pos hp ha] at this ⊢
     dsimp only at this ⊢
     omega
    ·have := (decode_high s pos hp (by omega)).1
     omega
   have HS : Hid _ := bQ5 s pos (Utf8.decode s pos).2 d1 (fun j h h1 h2 => by
    by_cases e : j = pos
    ·subst e; exact hc
    ·have := d3 j h (by omega) h2; omega)
   clear hc d3;go_wp2_with (go_at_call 235; refine (aG8 _ _).mono ?_; rintro e w1 ⟨rfl, a2⟩)
   obtain ⟨p1, p2⟩ := aI7 hh a7 a2
   have a1 : w1.ownsRow (w.heap.size + 1) 9 1 u3 (aC6 s pos).1.length ((aC6 s pos).1.map Value.string) :=
    aC0 (ownsRow_iterAt hown (Nat.lt_succ_self _) s _) a2 (fun g hg => by rw [iterAt_size]; exact aA6 hown hg)
   refine ⟨⟨_, f, d1, by omega, rfl, p1, p2, by rw [HS.out]; exact hf, by rw [HS.out]; exact a1⟩, by rw [iterPos_of p1, iterPos_of hh]; omega⟩
  have a6 := fun ty => run_next_ascii_at (P := prog) wr w.heap.size s pos ty hh hp (by omega)
  have hcl : (cls ((s[pos]'hp).toNat : Int) == 5) = true := by
   have := aL9 ((s[pos]'hp).toNat : Int)
   rw [beq_iff_eq]; omega
  have HC : Hid _ := aS4 s pos hp hc;clear hc;go_wp2_with fail
  refine (aG8 _ _).mono ?_;rintro e w1 ⟨rfl, a2⟩;obtain ⟨p1, p2⟩ := aI7 hh a7 a2;have b4 : wr.heap.size ≤ w1.heap.size := by have := a2.size; rw [iterAt_size] at this; exact this
  have a1 : w1.ownsRow (w.heap.size + 1) 9 1 u3 (aC6 s pos).1.length ((aC6 s pos).1.map Value.string) :=
   aC0 (ownsRow_iterAt hown (Nat.lt_succ_self _) s (pos + 1)) a2 (fun g hg => by rw [iterAt_size]; exact aA6 hown hg)
  have HH := hid hh;clear hown a2 a6 hh;go_wp2_with fail
  refine (aW9 (w.heap.size + 1) _ _ _ _ _ rfl a1 (by omega) (by omega) (by simp; omega)).mono ?_;rintro e w2 ⟨v2, rfl, a0, a3⟩;have a4 : w2.heap[w.heap.size]? = some (.stringIter s (pos + 1)) := by rw [a3.block _ (Nat.lt_succ_self _)]; exact p1
  have a5 : w2.ownsRow (w.heap.size + 1) 9 1 v2 (aC6 s (pos + 1)).1.length ((aC6 s (pos + 1)).1.map Value.string) := by
   rw [HC.out, ← hf.out]; exact a0
  have H2 : Hid (pos + 1 = (aC6 s (pos + 1)).2) := by show _ = _; rw [HC.out]
  have a8 : Bw w w2 := p2.trans (a3.mono (by omega));clear a1 a0 a3 p1 p2 b1;go_wp2
  go_roundw
  case rel => exact ⟨pos + 1, pos + 1, by omega, by omega, by go_num, a4, a8, H2, a5⟩
  case measure => rw [iterPos_of a4, iterPos_of HH.out]; omega
def stTo (s : Tx) (k : Nat) : Ts × Nat := if k ≤ s.size then aC6 s k else (aN3 s, k)
theorem bQ8 (s : Tx) (k : Nat) (h : (∃ h : k < s.size, (s[k]'h).toNat = 44) ∨ k = s.size) : stTo s (k + 1) = (aJ6 (stTo s k).1 (aG3 (s.extract (stTo s k).2 k)), k + 1) := by
 rcases h with ⟨h, hc⟩ | rfl
 ·unfold stTo;rw [if_pos (by omega), if_pos (by omega), aS4 s k h hc]
 unfold stTo;rw [if_neg (by omega), if_pos (by omega)]; rfl
theorem cC8 (s : Tx) (k : Nat) (h : k < s.size) (hc : (s[k]'h).toNat ≠ 44) : stTo s (k + 1) = stTo s k := by
 unfold stTo;rw [if_pos (by omega), if_pos (by omega), aS5 s k h hc]
theorem cM4 (s : Tx) (k : Nat) (h : ¬ k ≤ s.size) : (stTo s k).1 = aN3 s := by
 unfold stTo; rw [if_neg h]
theorem cP5 (s : Tx) (k : Nat) (h : k ≤ s.size) : (stTo s k).2 ≤ k ∧ (stTo s k).1.length ≤ k := by
 unfold stTo; rw [if_pos h]; exact bA1 s k
theorem bN2 (s : Tx) (w : World) (hs : s.size ≤ 1048576) :
  Calls prog 156 #[.string s] w fun e w' => aX5 w.heap.size (aN3 s) w e w' := by
 obtain ⟨i0, hi, a9, b0, b1⟩ := info_parts bQ7;go_enter func156, ntmps156;go_wp2
 go_loopw [3, 4, 5] (fun v a i wr => ∃ (k f : Nat) (l : Ts), k ≤ s.size + 1 ∧ f ≤ k ∧ i = .int .i64 (k : Int) ∧ a = .int .i64 (f : Int) ∧ Bw w wr ∧
   Hid (f = (stTo s k).2) ∧ Hid (l = (stTo s k).1) ∧ wr.ownsRow w.heap.size 9 1 v l.length (l.map Value.string)) (fun _ _ i _ => s.size + 1 - (intOf i).toNat)
 case atStart =>
  refine ⟨0, 0, [], Nat.zero_le _, Nat.le_refl _, rfl, rfl, (Below.refl _ _).alloc (Nat.le_refl _) _, ?_, ?_, ⟨rfl, .inr ⟨w.heap.size, 0, #[], rfl, Nat.le_refl _, heap_alloc_new w _, Nat.le_refl _, Nat.zero_le _, rfl, rfl⟩⟩⟩
  ·show _ = _; simp [stTo, aC6]
  show _ = _; simp [stTo, aC6]
 case round =>
  obtain ⟨k, f, l, hk, b4, rfl, rfl, a5, hf, hl, hown⟩ := hrel;by_cases hks : k ≤ s.size
  rotate_left
  ·have HE : Hid (l = aN3 s) := by show _ = _; rw [hl.out, cM4 s k hks]
   go_wp2_with fail
   go_ret;exact aX5.of HE.out rfl hown a5
  have b5 : l.length ≤ 1048577 := by have := (cP5 s k hks).2; rw [← hl.out] at this; omega
  have b2 : l.length + 1 ≤ maxLen := by unfold maxLen; omega
  have b3 : (l.length + 1) * 16 ≤ 140737488355328 := by omega
  by_cases hlt : k < s.size
  rotate_left
  ·have a6 := bQ8 s k (.inr (by omega));rw [← hl.out, ← hf.out] at a6;have HC : Hid _ := a6;have H2 : Hid (k + 1 = (stTo s (k + 1)).2) := by show _ = _; rw [a6]
   clear a6;have hz : (s.extract f k).size ≤ maxLen := by unfold maxLen; simp; omega
   cases he : (aG3 (s.extract f k)).toList.isEmpty
   ·have HE : Hid _ := aX6 (l := l) he;go_wp2_with fail
    refine (aM2 _ _ hz).mono ?_;rintro e w1 ⟨rfl, a4⟩;have a1 := aC0 hown a4 (fun g hg => aA6 hown hg)
    have a7 : ∀ o, w.heap.size ≤ (w1.alloc o).heap.size := fun o => by have := a4.size; have := a5.size; simp; omega
    go_wp2_with (at_builtin; refine wpList_append_own _ rfl _ _ 22 rfl w.heap.size 9 i0 (.string ⟨#[]⟩) 1 16 underlying22 hi a9 b0 b1 rfl (by decide) _ _ _ rfl (a1.alloc _) ⟨w1.heap.size, 0, none⟩ 1 1 [.string (aG3 (s.extract f k))] rfl rfl (cell_one_new _ _ _) (bN0 _) b2 b3 (a7 _) ?_)
    intro v1 w2 a2 a3 _;have a8 : Bw w w2 := (((a5.trans (a4.mono a5.size)).alloc (Nat.le_trans a5.size a4.size) _).grown a3 (a7 _) (fun g hg => aB7 hown hg))
    have a0 : w2.ownsRow w.heap.size 9 1 v1 (stTo s (k + 1)).1.length ((stTo s (k + 1)).1.map Value.string) := by
     rw [HC.out, HE.out]; simpa using a2
    clear hown a1 a7 a3 a2;go_wp2
    go_roundw
    case rel => exact ⟨k + 1, k + 1, _, by omega, by omega, by go_num, by go_num, a8, H2, rfl, a0⟩
    case measure => simp [intOf]; omega
   have HE : Hid _ := bA2 (l := l) he;go_wp2_with (go_at_call 158; refine (aM2 _ _ hz).mono ?_; rintro e w1 ⟨rfl, a4⟩)
   have a0 : w1.ownsRow w.heap.size 9 1 u3 (stTo s (k + 1)).1.length ((stTo s (k + 1)).1.map Value.string) := by
    rw [HC.out, HE.out]; exact aC0 hown a4 (fun g hg => aA6 hown hg)
   have a8 : Bw w w1 := a5.trans (a4.mono a5.size);go_roundw
   case rel => exact ⟨k + 1, k + 1, _, by omega, by omega, by go_num, by go_num, a8, H2, rfl, a0⟩
   case measure => simp [intOf]; omega
  by_cases hc : (s[k]'hlt).toNat = 44
  rotate_left
  ·have ht : (((s[k]'hlt).toNat : Int) != 44) = true := by rw [bne_iff_ne]; omega
   have HO : Hid _ := cC8 s k hlt hc;clear hc;go_wp2_with fail
   go_roundw
   case rel => exact ⟨k + 1, f, l, by omega, by omega, by go_num, rfl, a5, by rw [HO.out]; exact hf, by rw [HO.out]; exact hl, hown⟩
   case measure => simp [intOf]; omega
  have ht : (((s[k]'hlt).toNat : Int) != 44) = false := by rw [bne_eq_false_iff_eq]; omega
  have a6 := bQ8 s k (.inl ⟨hlt, hc⟩);rw [← hl.out, ← hf.out] at a6;have HC : Hid _ := a6;have H2 : Hid (k + 1 = (stTo s (k + 1)).2) := by show _ = _; rw [a6]
  clear hc a6;have hz : (s.extract f k).size ≤ maxLen := by unfold maxLen; simp; omega
  cases he : (aG3 (s.extract f k)).toList.isEmpty
  ·have HE : Hid _ := aX6 (l := l) he;go_wp2_with fail
   refine (aM2 _ _ hz).mono ?_;rintro e w1 ⟨rfl, a4⟩;have a1 := aC0 hown a4 (fun g hg => aA6 hown hg)
   have a7 : ∀ o, w.heap.size ≤ (w1.alloc o).heap.size := fun o => by have := a4.size; have := a5.size; simp; omega
   go_wp2_with (at_builtin; refine wpList_append_own _ rfl _ _ 22 rfl w.heap.size 9 i0 (.string ⟨#[]⟩) 1 16 underlying22 hi a9 b0 b1 rfl (by decide) _ _ _ rfl (a1.alloc _) ⟨w1.heap.size, 0, none⟩ 1 1 [.string (aG3 (s.extract f k))] rfl rfl (cell_one_new _ _ _) (bN0 _) b2 b3 (a7 _) ?_)
   intro v1 w2 a2 a3 _;have a8 : Bw w w2 := (((a5.trans (a4.mono a5.size)).alloc (Nat.le_trans a5.size a4.size) _).grown a3 (a7 _) (fun g hg => aB7 hown hg))
   have a0 : w2.ownsRow w.heap.size 9 1 v1 (stTo s (k + 1)).1.length ((stTo s (k + 1)).1.map Value.string) := by
    rw [HC.out, HE.out]; simpa using a2
   clear hown a1 a7 a3 a2;go_wp2
   go_roundw
   case rel => exact ⟨k + 1, k + 1, _, by omega, by omega, by go_num, by go_num, a8, H2, rfl, a0⟩
   case measure => simp [intOf]; omega
  have HE : Hid _ := bA2 (l := l) he;go_wp2_with (go_at_call 158; refine (aM2 _ _ hz).mono ?_; rintro e w1 ⟨rfl, a4⟩)
  have a0 : w1.ownsRow w.heap.size 9 1 u3 (stTo s (k + 1)).1.length ((stTo s (k + 1)).1.map Value.string) := by
   rw [HC.out, HE.out]; exact aC0 hown a4 (fun g hg => aA6 hown hg)
  have a8 : Bw w w1 := a5.trans (a4.mono a5.size);go_roundw
  case rel => exact ⟨k + 1, k + 1, _, by omega, by omega, by go_num, by go_num, a8, H2, rfl, a0⟩
  case measure => simp [intOf]; omega
def aB1 (k : Nat) : ByteArray := ⟨(109 :: dgF 8 k).toArray⟩
def aA8 (xs : Ts) (i : Nat) : ByteArray := xs.getD i ⟨#[]⟩
structure aE8 (base : Nat) (w : World) (g n cap : Nat) (xs : Ts) : Prop where
 len : xs.length = n
 base : base ≤ g
 lt : g < w.heap.size
 le : n ≤ cap
 mx : cap ≤ maxLen
 heap : ∃ cur, w.heap[g]? = some (.cells cur 9 (0, 0)) ∧ cur.size = cap ∧ ∀ i, i < n → cur[i]? = some (.string (aA8 xs i))
theorem aE8.cell {base : Nat} {w : World} {g n cap : Nat} {xs : Ts} (h : aE8 base w g n cap xs) (i : Nat) (hi : i < n) : w.cell? ⟨g, i, none⟩ = some (.string (aA8 xs i)) := by
 obtain ⟨a0, hg, _, hc⟩ := h.heap;simp only [World.cell?, hg]
 simpa using hc i hi
theorem aE8.frozen {base : Nat} {w : World} {g n cap : Nat} {xs : Ts} (h : aE8 base w g n cap xs) (i : Nat) : w.frozen? ⟨g, i, none⟩ = false := by
 obtain ⟨a0, hg, _⟩ := h.heap;simp [World.frozen?, hg]
theorem aE8.below {base B : Nat} {w w' : World} {g n cap : Nat} {xs : Ts} (h : aE8 base w g n cap xs) (hb : Below B w w') (hB : g < B) : aE8 base w' g n cap xs := by
 obtain ⟨a0, hg, hc⟩ := h.heap;have := hb.size; have := h.lt;exact ⟨h.len, h.base, by omega, h.le, h.mx, a0, by rw [hb.block g hB]; exact hg, hc⟩
theorem aE8.set {base : Nat} {w : World} {g n cap : Nat} {xs : Ts} (h : aE8 base w g n cap xs) (i : Nat) (hi : i < n) (t : Tx) : aE8 base (w.setCell ⟨g, i, none⟩ (.string t)) g n cap (xs.set i t) := by
 obtain ⟨a0, hg, hs, hc⟩ := h.heap;refine ⟨by simp [h.len], h.base, by simpa using h.lt, h.le, h.mx, a0.setIfInBounds i (.string t), ?_, by simpa using hs, ?_⟩
 ·simp [World.setCell, Array.getElem?_modify, hg]
 intro j hj;have hl := h.len;have a1 := h.le;by_cases e : i = j
 rotate_left
 ·rw [Array.getElem?_setIfInBounds_ne (by exact e), hc j hj];simp [aA8, List.getD_eq_getElem?_getD, e]
 subst e;have h1 : i < a0.size := by omega
 have h2 : i < xs.length := by omega
 simp [aA8, List.getD_eq_getElem?_getD, h1, h2]
theorem bK9 (xs : Ts) (i : Nat) (h : i < xs.length) : (xs.map Value.string)[i]? = some (.string (aA8 xs i)) := by
 simp [aA8, List.getD_eq_getElem?_getD, h]
theorem aP8 {w : World} {base n : Nat} {v : Value} {xs : Ts} (h : w.ownsRow base 9 1 v n (xs.map Value.string)) :
  (∃ oa cap, v = .slice oa 0 cap ∧ n = 0 ∧ xs = []) ∨ ∃ g cap, v = .slice (some ⟨g, 0, none⟩) n cap ∧ 0 < n ∧ aE8 base w g n cap xs := by
 obtain ⟨hl, hv⟩ := h;simp at hl
 rcases hv with ⟨rfl, h0⟩ | ⟨g, cap, a0, rfl, hb, hg, hn, hm, a1, a2⟩
 ·exact .inl ⟨none, 0, rfl, h0, List.length_eq_zero_iff.1 (by omega)⟩
 by_cases h0 : n = 0
 ·subst h0;exact .inl ⟨_, _, rfl, rfl, List.length_eq_zero_iff.1 (by omega)⟩
 refine .inr ⟨g, cap, rfl, by omega, hl, hb, (blt hg), hn, hm, a0, hg, by simpa using a1, ?_⟩;intro i hi;have h1 : (a0.toList.take (n * 1))[i]? = some (.string (aA8 xs i)) := by rw [a2]; exact bK9 xs i (by omega)
 rw [List.getElem?_take, if_pos (by omega)] at h1;simpa using h1
theorem aE8.owns {base : Nat} {w : World} {g n cap : Nat} {xs : Ts} (h : aE8 base w g n cap xs) : w.ownsRow base 9 1 (.slice (some ⟨g, 0, none⟩) n cap) n (xs.map Value.string) := by
 obtain ⟨a0, hg, hs, hc⟩ := h.heap;refine ⟨by simp [h.len], .inr ⟨g, cap, a0, rfl, h.base, hg, h.le, h.mx, by simpa using hs, ?_⟩⟩;apply List.ext_getElem?
 intro i;have hl := h.len; have a1 := h.le;rw [List.getElem?_take, Nat.mul_one];by_cases hi : i < n
 rotate_left
 ·rw [if_neg hi, List.getElem?_eq_none (by simp; omega)]
 rw [if_pos hi, bK9 xs i (by omega)];simpa using hc i hi
theorem bV9 (v1 v2 : Value) (n b1 b2 : Nat) (xs : Ts) (w : World) (h1 : w.ownsRow b1 9 1 v1 n (xs.map Value.string)) (h2 : w.ownsRow b2 9 1 v2 n (xs.map Value.string)) (hn : n ≤ 2000000) :
  Calls prog 50 #[v1, v2] w fun e w' => e = .returned (.bool true) ∧ Below w.heap.size w w' := by
 rcases aP8 h1 with ⟨oa, ca, rfl, rfl, rfl⟩ | ⟨g1, c1, rfl, hp, r1⟩
 ·rcases aP8 h2 with ⟨ob, cb, rfl, _, _⟩ | ⟨g2, c2, rfl, a1, _⟩
  ·clear h1 h2;go_enter func50, ntmps50;go_wp2
   refine wp_loop_rounds 1 ?_;rw [rounds_succ];go_wp2
   go_ret;exact ⟨rfl, Below.refl _ _⟩
  omega
 rcases aP8 h2 with ⟨ob, cb, rfl, h0, _⟩ | ⟨g2, c2, rfl, a1, r2⟩
 ·omega
 clear h1 h2;go_enter func50, ntmps50;go_wp2
 go_loopw [5] (fun i wr => ∃ k : Nat, k ≤ n ∧ i = .int .i64 (k : Int) ∧ Bw w wr) (fun i _ => n - (intOf i).toNat)
 case atStart => exact ⟨0, Nat.zero_le _, rfl, Below.refl _ _⟩
 case round =>
  obtain ⟨k, hk, rfl, a0⟩ := hrel;by_cases hlt : k < n
  rotate_left
  ·go_wp2
   go_ret;exact ⟨rfl, a0⟩
  have a2 : (k : Int) < (n : Int) := by omega
  have a3 := (r1.below a0 r1.lt).cell k hlt;have a4 := (r2.below a0 r2.lt).cell k hlt;go_wp2
  go_quiet (fail)
  go_wp2
  go_roundw
  case rel => exact ⟨k + 1, by omega, by go_num, below_drewN a0 _⟩
  case measure => simp [intOf]; omega
theorem aM3 (n : Nat) (w : World) (h0 : 1 ≤ n) (hn : n ≤ 99999999) :
  Calls prog 117 #[.int .i64 (n : Int)] w fun e w' => aD6 (aB1 n) w e w' := by
 have a3 : ¬ (n : Int) ≤ 0 := by omega
 have a4 := bM5;go_enter func117, ntmps117;go_wp2
 go_loopw [0, 3] (fun a b wr => ∃ (f m : Nat) (out : Tx), a = .int .i64 (m : Int) ∧ b = .string out ∧ m ≤ 99999999 ∧ f ≤ 8 ∧ out.size ≤ 8 - f ∧ Bw w wr ∧ Hid (m < 10 ^ f ∧ dgF f m ++ out.data.toList = dgF 8 n)) (fun a _ _ => (intOf a).toNat)
 case atStart => exact ⟨8, n, _, rfl, rfl, by omega, Nat.le_refl _, Nat.le_refl _, Below.refl _ _, ⟨by omega, by simp⟩⟩
 case round =>
  obtain ⟨f, m, out, rfl, rfl, hm, a5, hsz, a0, hd⟩ := hrel;by_cases hp : (0 : Int) < (m : Int)
  rotate_left
  ·have hT : Hid (⟨#[109]⟩ ++ out = aB1 n) := by
    obtain ⟨_, h⟩ := hd.out
    have e : m = 0 := by omega
    rw [e, bD5, List.nil_append] at h
    show _ = _
    apply ByteArray.ext
    apply Array.toList_inj.1
    rw [ByteArray.data_append, Array.toList_append, h]
    rfl
   have a6 : ¬ 9223372036854775807 < (⟨#[109]⟩ : Tx).size + out.size := by
    have : (⟨#[109]⟩ : Tx).size = 1 := rfl
    omega
   go_wp2
   go_ret;exact aD6.of hT.out a0
  have a1 : ∀ d : Int, (strOfNums [d]).size = 1 := fun d => strOfNums_size [d]
  go_wp2
  go_roundw
  case rel =>
   obtain ⟨hf, a2⟩ := hd.out;cases f with
   | zero => simp at hf; omega
   | succ f =>
    rw [Nat.pow_succ] at hf
    refine ⟨f, m / 10, strOfNums [48 + (m : Int) % 10] ++ out, by simp, rfl, by omega, by omega, ?_, a0.alloc a0.size _, by omega, ?_⟩
    ·rw [ByteArray.size_append, a1]; omega
    ·have e : (strOfNums [48 + (m : Int) % 10]).data.toList = [UInt8.ofNat (48 + m % 10)] := by
      rw [strOfNums_data]
      have : (48 + (m : Int) % 10).toNat = 48 + m % 10 := by omega
      simp only [List.map_cons, List.map_nil, this]
     rw [bM4 f m (by omega), List.append_assoc] at a2
     rw [← a2, ByteArray.data_append, Array.toList_append, e]
  case measure => simp [intOf]; omega
theorem aE5 (x : Int) (n : Nat) (w : World) (hx : x = (n : Int)) (h0 : 1 ≤ n) (hn : n ≤ 99999999) :
  Calls prog 117 #[.int .i64 x] w fun e w' => aD6 (aB1 n) w e w' := by
 subst hx; exact aM3 n w h0 hn
def aC7 (fs : Fs) (i : Nat) : ByteArray := (fs.getD i (⟨#[]⟩, ⟨#[]⟩)).1
def aH7 (fs : Fs) (i : Nat) : ByteArray := (fs.getD i (⟨#[]⟩, ⟨#[]⟩)).2
def aF3 (fs : Fs) : List Value := fs.flatMap (fun f => [Value.string f.1, Value.string f.2])
theorem aR1 (fs : Fs) : (aF3 fs).length = fs.length * 2 := by
 induction fs with
 | nil => rfl
 | cons f r ih => simp only [aF3, List.flatMap_cons, List.length_append, List.length_cons, List.length_nil] at ih ⊢; omega
theorem aY0 : ∀ (fs : Fs) (i : Nat), i < fs.length → (aF3 fs)[i * 2]? = some (.string (aC7 fs i)) ∧ (aF3 fs)[i * 2 + 1]? = some (.string (aH7 fs i))
 | [], i, h => by simp at h
 | f :: r, 0, _ => by simp [aF3, aC7, aH7]
 | f :: r, i + 1, h => by
  have ih := aY0 r i (by simpa using h)
  have e : aF3 (f :: r) = Value.string f.1 :: Value.string f.2 :: aF3 r := rfl
  rw [e, show (i + 1) * 2 = i * 2 + 2 by omega, show i * 2 + 2 + 1 = (i * 2 + 1) + 2 by omega]
  simp only [List.getElem?_cons_succ]
  exact ih
structure aD9 (base : Nat) (w : World) (g n cap : Nat) (fs : Fs) : Prop where
 len : fs.length = n
 base : base ≤ g
 lt : g < w.heap.size
 le : n ≤ cap
 mx : cap ≤ maxLen
 heap : ∃ cur, w.heap[g]? = some (.cells cur 184 (0, 0)) ∧ cur.size = cap * 2 ∧ ∀ i, i < n → cur[i * 2]? = some (.string (aC7 fs i)) ∧ cur[i * 2 + 1]? = some (.string (aH7 fs i))
theorem aD9.name {base : Nat} {w : World} {g n cap : Nat} {fs : Fs} (h : aD9 base w g n cap fs) (i : Nat) (hi : i < n) : w.cell? ⟨g, i * 2, none⟩ = some (.string (aC7 fs i)) := by
 obtain ⟨a0, hg, _, hc⟩ := h.heap;simp only [World.cell?, hg]
 simpa using (hc i hi).1
theorem aD9.val {base : Nat} {w : World} {g n cap : Nat} {fs : Fs} (h : aD9 base w g n cap fs) (i : Nat) (hi : i < n) : w.cell? ⟨g, i * 2 + 1, none⟩ = some (.string (aH7 fs i)) := by
 obtain ⟨a0, hg, _, hc⟩ := h.heap;simp only [World.cell?, hg]
 simpa using (hc i hi).2
theorem aD9.frozen {base : Nat} {w : World} {g n cap : Nat} {fs : Fs} (h : aD9 base w g n cap fs) (i : Nat) : w.frozen? ⟨g, i, none⟩ = false := by
 obtain ⟨a0, hg, _⟩ := h.heap;simp [World.frozen?, hg]
theorem aD9.below {base B : Nat} {w w' : World} {g n cap : Nat} {fs : Fs} (h : aD9 base w g n cap fs) (hb : Below B w w') (hB : g < B) : aD9 base w' g n cap fs := by
 obtain ⟨a0, hg, hc⟩ := h.heap;have := hb.size; have := h.lt;exact ⟨h.len, h.base, by omega, h.le, h.mx, a0, by rw [hb.block g hB]; exact hg, hc⟩
theorem bF2 {w : World} {base n : Nat} {v : Value} {fs : Fs} (h : w.ownsRow base 184 2 v n (aF3 fs)) :
  (∃ oa cap, v = .slice oa 0 cap ∧ (oa = none → cap = 0) ∧ n = 0 ∧ fs = []) ∨ ∃ g cap, v = .slice (some ⟨g, 0, none⟩) n cap ∧ 0 < n ∧ aD9 base w g n cap fs := by
 obtain ⟨hl, hv⟩ := h;rw [aR1] at hl;rcases hv with ⟨rfl, h0⟩ | ⟨g, cap, a0, rfl, hb, hg, hn, hm, a1, a2⟩
 ·exact .inl ⟨none, 0, rfl, fun _ => rfl, h0, List.length_eq_zero_iff.1 (by omega)⟩
 by_cases h0 : n = 0
 ·subst h0;exact .inl ⟨_, _, rfl, (fun h => by cases h), rfl, List.length_eq_zero_iff.1 (by omega)⟩
 refine .inr ⟨g, cap, rfl, by omega, by omega, hb, (blt hg), hn, hm, a0, hg, a1, ?_⟩;intro i hi;have hf := aY0 fs i (by omega);rw [← a2, List.getElem?_take, List.getElem?_take, if_pos (by omega), if_pos (by omega)] at hf;simpa using hf
theorem aD9.owns {base : Nat} {w : World} {g n cap : Nat} {fs : Fs} (h : aD9 base w g n cap fs) : w.ownsRow base 184 2 (.slice (some ⟨g, 0, none⟩) n cap) n (aF3 fs) := by
 obtain ⟨a1, hg, hs, hc⟩ := h.heap;have hl := h.len; have a2 := h.le;refine ⟨by rw [aR1, hl], .inr ⟨g, cap, a1, rfl, h.base, hg, h.le, h.mx, hs, ?_⟩⟩;apply List.ext_getElem?
 intro j;rw [List.getElem?_take];by_cases hj : j < n * 2
 rotate_left
 ·rw [if_neg hj, List.getElem?_eq_none (by rw [aR1]; omega)]
 rw [if_pos hj];have hf := aY0 fs (j / 2) (by omega);have a0 := hc (j / 2) (by omega);rcases Nat.mod_two_eq_zero_or_one j with e | e
 ·have e2 : j / 2 * 2 = j := by omega
  rw [e2] at hf a0;rw [hf.1]; simpa using a0.1
 have e2 : j / 2 * 2 + 1 = j := by omega
 rw [e2] at hf a0;rw [hf.2]; simpa using a0.2
def aB3 (w : World) (base : Nat) (v : Value) (n : Nat) (fs : Fs) : Prop :=
 (∃ oa cap, v = .slice oa 0 cap ∧ (oa = none → cap = 0) ∧ n = 0 ∧ fs = []) ∨ ∃ g cap, v = .slice (some ⟨g, 0, none⟩) n cap ∧ 0 < n ∧ aD9 base w g n cap fs
def atF : Fs → ByteArray → Nat
 | [], _ => 0
 | f :: r, name => if f.1 = name then 0 else atF r name + 1
theorem cH7 : ∀ (fs : Fs) (name : Tx), atF fs name ≤ fs.length
 | [], _ => Nat.le_refl _
 | f :: r, name => by
  rw [atF]
  split
  · exact Nat.zero_le _
  · have := cH7 r name; simp; omega
theorem bA3 : ∀ (fs : Fs) (name : Tx) (j : Nat), j < atF fs name → aC7 fs j ≠ name
 | [], _, j, h => by simp [atF] at h
 | f :: r, name, j, h => by
  rw [atF] at h
  split at h
  · omega
  ·rename_i hne
   cases j with
   | zero => simpa [aC7] using hne
   | succ j => have := bA3 r name j (by omega); simpa [aC7] using this
theorem bN3 : ∀ (fs : Fs) (name : Tx), atF fs name < fs.length → aC7 fs (atF fs name) = name
 | [], _, h => by simp [atF] at h
 | f :: r, name, h => by
  rw [atF] at h ⊢
  split
  · rename_i he; simpa [aC7] using he
  ·rename_i hne
   rw [if_neg hne] at h
   have := bN3 r name (by simpa using h)
   simpa [aC7] using this
theorem cA5 {fs : Fs} {name : ByteArray} {k : Nat} (hk : k < fs.length) (hb : ∀ j, j < k → aC7 fs j ≠ name) (he : aC7 fs k = name) : atF fs name = k := by
 rcases Nat.lt_trichotomy (atF fs name) k with h | h | h
 ·exact absurd (bN3 fs name (by omega)) (hb _ h)
 ·exact h
 exact absurd he (bA3 fs name k h)
theorem cA6 {fs : Fs} {name : ByteArray} (hb : ∀ j, j < fs.length → aC7 fs j ≠ name) : atF fs name = fs.length := by
 rcases Nat.lt_or_ge (atF fs name) fs.length with h | h
 ·exact absurd (bN3 fs name h) (hb _ h)
 have := cH7 fs name; omega
def atI (fs : Fs) (name : Tx) : Int := if atF fs name < fs.length then (atF fs name : Int) else -1
theorem bN4 (v : Value) (n base : Nat) (fs : Fs) (name : Tx) (w : World) (hv : aB3 w base v n fs) (hn : n ≤ 1073741824) :
  Calls prog 197 #[v, .string name] w fun e w' => e = .returned (.int .i64 (atI fs name)) ∧ w' = w := by
 rcases hv with ⟨oa, ca, rfl, _, rfl, rfl⟩ | ⟨g, a2, rfl, hp, a0⟩
 ·have hT : Hid (atI [] name = -1) := rfl;go_enter func197, ntmps197;go_wp2
  refine wp_loop_rounds 1 ?_;rw [rounds_succ];go_wp2
  go_ret;exact ⟨by rw [hT.out]; rfl, rfl⟩
 have hl := a0.len;go_enter func197, ntmps197;go_wp2
 go_loop [5] (fun i => ∃ k : Nat, k ≤ n ∧ i = .int .i64 (k : Int) ∧ Hid (∀ j, j < k → aC7 fs j ≠ name)) (fun i => n - (intOf i).toNat)
 case atStart => exact ⟨0, Nat.zero_le _, rfl, fun j h => absurd h (by omega)⟩
 case round =>
  obtain ⟨k, hk, rfl, hb⟩ := hrel;by_cases hlt : k < n
  rotate_left
  ·have hT : Hid (atI fs name = -1) := by
    have := cA6 (fs := fs) (name := name) (fun j hj => hb.out j (by omega))
    show _ = _
    unfold atI; rw [this, if_neg (by omega)]
   go_wp2
   go_ret;exact ⟨by rw [hT.out]; rfl, rfl⟩
  have hc := a0.name k hlt;have a1 : (k : Int) < (n : Int) := by omega
  by_cases he : aC7 fs k = name
  ·have hT : Hid (atI fs name = (k : Int)) := by
    have := cA5 (by omega) hb.out he
    show _ = _
    unfold atI; rw [this, if_pos (by omega)]
   have ht : ((aC7 fs k).toList == name.toList) = true := (aI2 _ _).2 he;clear he;go_wp2
   go_ret;exact ⟨by rw [hT.out]; rfl, rfl⟩
  have ht : ((aC7 fs k).toList == name.toList) = false := by
   rcases Bool.eq_false_or_eq_true ((aC7 fs k).toList == name.toList) with h | h
   ·exact absurd ((aI2 _ _).1 h) he
   ·exact h
  have HE := hid he;clear he;go_wp2
  go_round
  case rel =>
   refine ⟨k + 1, by omega, by go_num, ?_⟩;intro j hj;by_cases e : j = k
   ·subst e; exact HE.out
   exact hb.out j (by omega)
  case measure => simp [intOf]; omega
theorem aB3.of_owns {w : World} {base n : Nat} {v : Value} {fs : Fs} (h : w.ownsRow base 184 2 v n (aF3 fs)) : aB3 w base v n fs := bF2 h
theorem aB3.below {w w' : World} {base n : Nat} {v : Value} {fs : Fs} (h : aB3 w base v n fs) (hb : Below w.heap.size w w') : aB3 w' base v n fs := by
 rcases h with h | ⟨g, a0, h1, h2, h3⟩
 ·exact .inl h
 exact .inr ⟨g, a0, h1, h2, h3.below hb h3.lt⟩
theorem aB3.len {w : World} {base n : Nat} {v : Value} {fs : Fs} (h : aB3 w base v n fs) : fs.length = n := by
 rcases h with ⟨_, _, _, _, rfl, rfl⟩ | ⟨_, _, _, _, h⟩
 ·rfl
 exact h.len
theorem aB3.slice {w : World} {base n : Nat} {v : Value} {fs : Fs} (h : aB3 w base v n fs) :
  ∃ oa cap, v = .slice oa n cap ∧ ∀ k, k < n → ∃ g, oa = some ⟨g, 0, none⟩ ∧ aD9 base w g n cap fs := by
 rcases h with ⟨oa, ca, rfl, _, rfl, rfl⟩ | ⟨g, cap, rfl, hp, a0⟩
 ·exact ⟨oa, ca, rfl, fun k hk => absurd hk (by omega)⟩
 exact ⟨_, cap, rfl, fun k _ => ⟨g, rfl, a0⟩⟩
def getV (fs : Fs) (name : Tx) : ByteArray := if atF fs name < fs.length then aH7 fs (atF fs name) else ⟨#[]⟩
def getB (fs : Fs) (name : Tx) : Bool := decide (atF fs name < fs.length)
theorem bF3 (v : Value) (n base : Nat) (fs : Fs) (name : Tx) (w : World) (hv : aB3 w base v n fs) (hn : n ≤ 1073741824) :
  Calls prog 155 #[v, .string name] w fun e w' => e = .returned (.tuple #[.string (getV fs name), .bool (getB fs name)]) ∧ w' = w := by
 have hl := hv.len;by_cases hin : atF fs name < fs.length
 rotate_left
 ·have hI : Hid (atI fs name = -1) := by show _ = _; unfold atI; rw [if_neg hin]
  have hV : Hid (getV fs name = ⟨#[]⟩) := by show _ = _; unfold getV; rw [if_neg hin]
  have hB : Hid (getB fs name = false) := by show _ = _; unfold getB; simpa using hin
  go_enter func155, ntmps155;go_wp2_with fail
  refine (bN4 v n base fs name _ hv hn).mono ?_;rintro e w1 ⟨rfl, rfl⟩;rw [hI.out];clear hv;go_wp2
  go_ret2
  exact ⟨by rw [hV.out, hB.out]; rfl, rfl⟩
 have hI : Hid (atI fs name = (atF fs name : Int)) := by show _ = _; unfold atI; rw [if_pos hin]
 have hV : Hid (getV fs name = aH7 fs (atF fs name)) := by show _ = _; unfold getV; rw [if_pos hin]
 have hB : Hid (getB fs name = true) := by show _ = _; unfold getB; simpa using hin
 have a0 := hv;rcases a0 with ⟨oa, ca, rfl, _, rfl, rfl⟩ | ⟨g, a2, rfl, hp, a1⟩
 ·simp at hin
 obtain ⟨k, hk⟩ := exq (atF fs name);rw [← hk] at hI hV hin;have hc := a1.val k (by omega);have a3 : (k : Int) < (n : Int) := by omega
 clear hk;go_enter func155, ntmps155;go_wp2_with fail
 refine (bN4 _ n base fs name _ hv hn).mono ?_;rintro e w1 ⟨rfl, rfl⟩;rw [hI.out];clear hv;go_wp2
 go_ret2
 exact ⟨by rw [hV.out, hB.out]; rfl, rfl⟩
def aM4 (fs : Fs) : Prop :=
 fs.length ≤ 8 ∧ ∀ i, i < fs.length → aL0 (aC7 fs i) ∧ aL1 (aH7 fs i) ∧ atF fs (aC7 fs i) = i ∧ aC7 fs i ≠ ⟨#[99, 111, 110, 116, 101, 110, 116, 45, 108, 101, 110, 103, 116, 104]⟩
def clen : ByteArray := ⟨#[99, 111, 110, 116, 101, 110, 116, 45, 108, 101, 110, 103, 116, 104]⟩
def bC9 (fs : Fs) (i : Nat) : Prop := aL0 (aC7 fs i) ∧ aL1 (aH7 fs i) ∧ atF fs (aC7 fs i) = i ∧ aC7 fs i ≠ clen
theorem aY1 : clen.toList = [99, 111, 110, 116, 101, 110, 116, 45, 108, 101, 110, 103, 116, 104] := by rw [ByteArray.toList_eq]; rfl
theorem aG2 {a b : ByteArray} (h : a ≠ b) : (a.toList == b.toList) = false := by
 rcases Bool.eq_false_or_eq_true (a.toList == b.toList) with h1 | h1
 ·exact absurd ((aI2 _ _).1 h1) h
 exact h1
theorem bD0 (v : Value) (n base : Nat) (fs : Fs) (w : World) (hv : aB3 w base v n fs) (hn : n ≤ 1073741824) (hsz : ∀ i, i < n → (aC7 fs i).size ≤ maxLen ∧ (aH7 fs i).size ≤ maxLen) :
  Calls prog 154 #[v] w fun e w' => aA4 (aM4 fs) w e w' := by
 have hl := hv.len;have HV := hid hv;have HS := hid hsz;clear hsz;rcases hv with ⟨oa, ca, rfl, _, rfl, rfl⟩ | ⟨g, c5, rfl, hp, a4⟩
 ·have hT : Hid (aM4 []) := ⟨by simp, fun i hi => absurd hi (by simp)⟩
  clear HV HS;go_enter func154, ntmps154;go_wp2
  refine wp_loop_rounds 1 ?_;rw [rounds_succ];go_wp2
  go_ret;exact aA4.yes hT.out (Below.refl _ _)
 go_enter func154, ntmps154;go_wp2
 go_loopw [3] (fun i wr => ∃ k : Nat, k ≤ n ∧ i = .int .i64 (k : Int) ∧ Hid (∀ j, j < k → bC9 fs j) ∧ Bw w wr) (fun i _ => n - (intOf i).toNat)
 case atStart => exact ⟨0, Nat.zero_le _, rfl, fun j h => absurd h (by omega), Below.refl _ _⟩
 case round =>
  obtain ⟨k, hk, rfl, a1, a2⟩ := hrel;by_cases hlt : k < n
  rotate_left
  ·by_cases h8 : (n : Int) ≤ 8
   rotate_left
   ·have HF : Hid (¬ aM4 fs) := fun h => by have := h.1; omega
    go_wp2
    go_ret;exact aA4.no HF.out a2
   have HF : Hid (aM4 fs) := ⟨by omega, fun i hi => a1.out i (by omega)⟩
   go_wp2
   go_ret;exact aA4.yes HF.out a2
  have b9 : (k : Int) < (n : Int) := by omega
  obtain ⟨b4, b5⟩ := HS.out k hlt;obtain ⟨nm, a3⟩ := exq (aC7 fs k);obtain ⟨vl, a5⟩ := exq (aH7 fs k)
  have HR : Hid (∀ W, Bw w W → W.cell? ⟨g, k * 2, none⟩ = some (.string nm) ∧ W.cell? ⟨g, k * 2 + 1, none⟩ = some (.string vl)) := fun W h => by
   rw [a3, a5]; exact ⟨(a4.below h a4.lt).name k hlt, (a4.below h a4.lt).val k hlt⟩
  have HO : Hid (bC9 fs k ↔ aL0 nm ∧ aL1 vl ∧ atF fs nm = k ∧ nm ≠ clen) := by rw [a3, a5]; exact Iff.rfl
  have a6 : Hid (¬ (aL0 nm ∧ aL1 vl ∧ atF fs nm = k ∧ nm ≠ clen) → ¬ aM4 fs) := fun h hf => h (HO.out.1 (hf.2 k (by omega)))
  have b6 : atF fs nm ≤ k := by
   rcases Nat.lt_or_ge k (atF fs nm) with h | h
   ·exact absurd a3.symm (bA3 fs nm k h)
   ·exact h
  have hI : Hid (atI fs nm = (atF fs nm : Int)) := by show _ = _; unfold atI; rw [if_pos (by omega)]
  rw [← a3] at b4;rw [← a5] at b5;obtain ⟨c1, c2⟩ := HR.out wr a2;clear a3 a5;go_wp2_with fail
  refine (aO2 nm _ b4).mono ?_;rintro e w1 ⟨b1, rfl, a7, b0⟩;have a8 : Bw w w1 := a2.trans (b0.mono a2.size);obtain ⟨b7, b8⟩ := HR.out w1 a8;cases b1
  ·have HF : Hid (¬ aM4 fs) := a6.out (fun h => by have := a7.2 h.1; cases this)
   clear a7 c1 c2 b0;go_wp2_with fail
   go_ret;exact aA4.no HF.out a8
  have HT : Hid (aL0 nm) := a7.1 rfl;clear a7 c1 c2 b0;go_wp2_with fail
  refine (aO4 vl _ b5).mono ?_;rintro e w2 ⟨b2, rfl, a9, b3⟩;have a0 : Bw w w2 := a8.trans (b3.mono a8.size);obtain ⟨c6, c7⟩ := HR.out w2 a0;cases b2
  ·have HF : Hid (¬ aM4 fs) := a6.out (fun h => by have := a9.2 h.2.1; cases this)
   clear a9 b7 b8 b3;go_wp2_with fail
   go_ret;exact aA4.no HF.out a0
  have c0 : Hid (aL1 vl) := a9.1 rfl;clear a9 b7 b8 b3;go_wp2_with fail
  refine (bN4 _ n base fs nm _ (HV.out.below a0) hn).mono ?_;rintro e w3 ⟨rfl, rfl⟩;rw [hI.out];by_cases hat : atF fs nm = k
  rotate_left
  ·have c3 : ((atF fs nm : Int) != (k : Int)) = true := by rw [bne_iff_ne]; omega
   have HF : Hid (¬ aM4 fs) := a6.out (fun h => hat h.2.2.1)
   clear hat;go_wp2
   go_ret;exact aA4.no HF.out a0
  have c3 : ((atF fs nm : Int) != (k : Int)) = false := by rw [bne_eq_false_iff_eq]; omega
  have c4 := hid hat;clear hat;by_cases hcl : nm = clen
  ·have ht := (aI2 _ _).2 hcl;rw [aY1] at ht;have HF : Hid (¬ aM4 fs) := a6.out (fun h => h.2.2.2 hcl)
   clear hcl;go_wp2
   go_ret;exact aA4.no HF.out a0
  have ht := aG2 hcl;rw [aY1] at ht;have HY : Hid (bC9 fs k) := HO.out.2 ⟨HT.out, c0.out, c4.out, hcl⟩;clear hcl;go_wp2
  go_roundw
  case rel =>
   refine ⟨k + 1, by omega, by go_num, ?_, a0⟩;intro j hj;by_cases e : j = k
   ·subst e; exact HY.out
   exact a1.out j (by omega)
  case measure => simp [intOf]; omega
attribute [local go_sem ↓] Go.wp_at_zero Go.wp_at_succ
structure ArgF (w : World) (B : Nat) (a : Oa) (n : Nat) (fs : Fs) : Prop where
 len : fs.length = n
 get : ∀ i, i < n → ∃ b off, a = some ⟨b, off, none⟩ ∧ b < B ∧ w.cell? ⟨b, off + i * 2, none⟩ = some (.string (aC7 fs i)) ∧ w.cell? ⟨b, off + i * 2 + 1, none⟩ = some (.string (aH7 fs i))
theorem ArgF.below {w w' : World} {B : Nat} {a : Oa} {n : Nat} {fs : Fs} (h : ArgF w B a n fs) (hb : Below B w w') : ArgF w' B a n fs :=
 ⟨h.len, fun i hi => by
  obtain ⟨b, off, h1, h2, h3, h4⟩ := h.get i hi
  exact ⟨b, off, h1, h2, by rw [hb.cell (p := ⟨b, off + i * 2, none⟩) h2]; exact h3, by rw [hb.cell (p := ⟨b, off + i * 2 + 1, none⟩) h2]; exact h4⟩⟩
def szTo (fs : Fs) : Nat → Nat
 | 0 => 0
 | k + 1 => szTo fs k + (aC7 fs k).size + (aH7 fs k).size
theorem bW0 (nm vl : Tx) (left : Int) (w : World) (h0 : 0 ≤ left) (h1 : left ≤ 1073741824) (hn : nm.size ≤ maxLen) (hv : vl.size ≤ maxLen) :
  Calls prog 152 #[.agg #[.string nm, .string vl], .int .i64 left] w fun e w' => e = .returned (.int .i64 (if left - nm.size < 0 then -1 else if left - nm.size - vl.size < 0 then -1 else left - nm.size - vl.size)) ∧ Below w.heap.size w w' := by
 unfold maxLen at hn hv;by_cases c1 : left - (nm.size : Int) < 0
 ·rw [if_pos c1];go_enter func152, ntmps152;go_wp2
  go_ret;exact ⟨rfl, (Below.refl _ _).alloc (Nat.le_refl _) _⟩
 rw [if_neg c1];by_cases c2 : left - (nm.size : Int) - (vl.size : Int) < 0
 ·rw [if_pos c2];go_enter func152, ntmps152;go_wp2
  go_ret;exact ⟨rfl, (Below.refl _ _).alloc (Nat.le_refl _) _⟩
 rw [if_neg c2];go_enter func152, ntmps152;go_wp2
 go_ret;exact ⟨rfl, (Below.refl _ _).alloc (Nat.le_refl _) _⟩
theorem bW1 (nm vl : Tx) (w : World) :
  Calls prog 160 #[.agg #[.string nm, .string vl]] w fun e w' => e = .returned (.agg #[.string nm, .string vl]) ∧ Below w.heap.size w w' := by
 go_enter func160, ntmps160;go_wp2
 exact bodyPost_ret (v := .agg #[.string nm, .string vl]) (by simp [results, results160, go_sem]) rfl ⟨rfl, (((Below.refl _ _).alloc (Nat.le_refl _) _).alloc (by simp) _).alloc (by simp; omega) _⟩
theorem cH8 : (prog.info? 184).map (fun i => (i.zero, i.size, i.bytes)) = some (some (.agg #[.string ⟨#[]⟩, .string ⟨#[]⟩]), 2, 32) := by kernel_rfl
theorem aD0 (w : World) (c o : Nat) (cs : Array Value) (t : TypeId) (fz : Nat × Nat) (v : Value) (h : w.heap[c]? = some (.cells cs t fz)) : (w.setCell ⟨c, o, none⟩ v).heap[c]? = some (.cells (cs.setIfInBounds o v) t fz) := by
 simp [World.setCell, Array.getElem?_modify, h]
theorem hput {W W' : World} {q i : Nat} {T : TypeId} {v : Value} {l l' : List Value} (hW : W' = W.setCell ⟨q, i, none⟩ v) (h : Hid (W.heap[q]? = some (.cells l.toArray T))) (hl : l.set i v = l' := by simp only [List.set_cons_zero, List.set_cons_succ]; rfl) : Hid (W'.heap[q]? = some (.cells l'.toArray T)) := by
  show _ = _
  rw [hW, ← hl]
  have h2 := aD0 _ q i _ _ _ v h.out
  simpa using h2
def aG9 (w : World) (g n k : Nat) (fs : Fs) : Prop :=
 ∃ cur, w.heap[g]? = some (.cells cur 184 (0, 0)) ∧ cur.size = n * 2 ∧ ∀ i, i < k → cur[i * 2]? = some (.string (aC7 fs i)) ∧ cur[i * 2 + 1]? = some (.string (aH7 fs i))
theorem aG9.below {w w' : World} {g n k B : Nat} {fs : Fs} (h : aG9 w g n k fs) (hb : Below B w w') (hB : g < B) : aG9 w' g n k fs := by
 obtain ⟨a0, h1, h2⟩ := h;exact ⟨a0, by rw [hb.block g hB]; exact h1, h2⟩
theorem aG9.lt {w : World} {g n k : Nat} {fs : Fs} (h : aG9 w g n k fs) : g < w.heap.size := by
 obtain ⟨a0, h1, _⟩ := h;exact (blt h1)
theorem aG9.cell {w : World} {g n k : Nat} {fs : Fs} (h : aG9 w g n k fs) (j : Nat) (hj : j < n * 2) : ∃ u, w.cell? ⟨g, j, none⟩ = some u := by
 obtain ⟨a0, h1, h2, _⟩ := h;refine ⟨a0[j]'(by omega), ?_⟩;simp only [World.cell?, h1]
 simp [show j < a0.size by omega]
theorem aG9.frozen {w : World} {g n k : Nat} {fs : Fs} (h : aG9 w g n k fs) (j : Nat) : w.frozen? ⟨g, j, none⟩ = false := by
 obtain ⟨a0, h1, _⟩ := h;simp [World.frozen?, h1]
theorem aG9.put {w : World} {g n k : Nat} {fs : Fs} (h : aG9 w g n k fs) (hk : k < n) : aG9 ((w.setCell ⟨g, k * 2, none⟩ (.string (aC7 fs k))).setCell ⟨g, k * 2 + 1, none⟩ (.string (aH7 fs k))) g n (k + 1) fs := by
 obtain ⟨a0, h1, h2, h3⟩ := h;refine ⟨_, aD0 _ g (k * 2 + 1) _ _ _ _ (aD0 w g (k * 2) _ _ _ _ h1), by simpa using h2, ?_⟩;intro i hi;by_cases e : i = k
 ·subst e;refine ⟨?_, ?_⟩
  ·rw [Array.getElem?_setIfInBounds_ne (by omega), Array.getElem?_setIfInBounds_self_of_lt (by omega)]
  rw [Array.getElem?_setIfInBounds_self_of_lt (by simp; omega)]
 have := h3 i (by omega);refine ⟨?_, ?_⟩
 ·rw [Array.getElem?_setIfInBounds_ne (by omega), Array.getElem?_setIfInBounds_ne (by omega)]; exact this.1
 rw [Array.getElem?_setIfInBounds_ne (by omega), Array.getElem?_setIfInBounds_ne (by omega)]; exact this.2
theorem aG9.owns {w : World} {g n : Nat} {fs : Fs} (h : aG9 w g n n fs) (hl : fs.length = n) (hm : n ≤ maxLen) {base : Nat} (hb : base ≤ g) : w.ownsRow base 184 2 (.slice (some ⟨g, 0, none⟩) n n) n (aF3 fs) :=
 aD9.owns ⟨hl, hb, h.lt, Nat.le_refl _, hm, h⟩
theorem bQ9 (B : Nat) (a : Oa) (n cap : Nat) (fs : Fs) (w : World) (harg : ArgF w B a n fs) (hB : B ≤ w.heap.size) (hn : n ≤ 1048576) :
  Calls prog 102 #[.slice a n cap] w fun e w' => ∃ v, e = .returned v ∧ w'.ownsRow w.heap.size 184 2 v n (aF3 fs) ∧ Below w.heap.size w w' := by
 obtain ⟨i0, hi, b0, b1, b2⟩ := info_parts cH8;obtain ⟨M, hM⟩ : ∃ M, M = madeCells (Value.agg #[.string ⟨#[]⟩, .string ⟨#[]⟩]).cells (((n : Nat) : Int).toNat * i0.size) := ⟨_, rfl⟩
 have b8 : ∀ W : World, (Instr.makeSlice 47 (.int .i64 (n : Int)) (.int .i64 (n : Int))).run prog W = .ok (.slice (some ⟨W.heap.size, 0, none⟩) n n) (W.alloc (.cells M 184)) := fun W => by
  have h := run_make (P := prog) W 47 184 i0 (.agg #[.string ⟨#[]⟩, .string ⟨#[]⟩]) underlying47 hi b0 .i64 .i64 (n : Int) (n : Int) (by omega) (by omega) (by rw [b2]; omega) (by omega)
  rw [← hM] at h
  simpa using h
 have b3 : M.size = n * 2 := by rw [hM, size_madeCells, b1]; simp
 have a2 := harg.len;clear hM;have HP : Hid (aG9 (w.alloc (.cells M 184)) w.heap.size n 0 fs) := ⟨M, heap_alloc_new w _, b3, fun i h => absurd h (by omega)⟩
 go_enter func102, ntmps102;go_wp2
 go_loopw [4] (fun i wr => ∃ k : Nat, k ≤ n ∧ i = .int .i64 (k : Int) ∧ Hid (aG9 wr w.heap.size n k fs) ∧ Bw w wr) (fun i _ => n - (intOf i).toNat)
 case atStart => exact ⟨0, Nat.zero_le _, rfl, HP, (Below.refl _ _).alloc (Nat.le_refl _) _⟩
 case round =>
  obtain ⟨k, hk, rfl, a3, a1⟩ := hrel;by_cases hlt : k < n
  rotate_left
  ·obtain rfl : k = n := by omega
   go_wp2
   go_ret;exact ⟨_, rfl, a3.out.owns a2 (by unfold maxLen; omega) (Nat.le_refl _), a1⟩
  have b4 : (k : Int) < (n : Int) := by omega
  obtain ⟨b, b9, rfl, c0, a8, a9⟩ := (harg.below (a1.mono hB)).get k hlt;obtain ⟨nm, a4⟩ := exq (aC7 fs k);obtain ⟨vl, a5⟩ := exq (aH7 fs k);rw [← a4] at a8;rw [← a5] at a9;have b5 := hid a4;have b6 := hid a5;clear a4 a5;go_wp2_with fail
  refine (bW1 nm vl _).mono ?_;rintro e w1 ⟨rfl, a6⟩;have a0 := a3.out.below a6 a3.out.lt;have b7 : Bw w w1 := a1.trans (a6.mono a1.size);obtain ⟨u0, c1⟩ := a0.cell (k * 2) (by omega);obtain ⟨u1, c2⟩ := a0.cell (k * 2 + 1) (by omega);have f0 := a0.frozen (k * 2);have f1 := a0.frozen (k * 2 + 1);have hput := a0.put hlt;rw [← b5.out, ← b6.out] at hput;have a7 : Hid _ := hput;clear hput a8 a9 a6;go_wp2
  go_roundw
  case rel => exact ⟨k + 1, by omega, by go_num, a7, (b7.setCell (Nat.le_refl _) _).setCell (Nat.le_refl _) _⟩
  case measure => simp [intOf]; omega
theorem bW2 (nm vl : Tx) (w : World) :
  Calls prog 179 #[.agg #[.string nm, .string vl], .agg #[.string nm, .string vl]] w fun e w' => e = .returned (.bool true) ∧ Below w.heap.size w w' := by
 go_enter func179, ntmps179;go_wp2
 go_ret;exact ⟨rfl, ((Below.refl _ _).alloc (Nat.le_refl _) _).alloc (by simp) _⟩
theorem bR0 (v1 v2 : Value) (n b1 b2 : Nat) (fs : Fs) (w : World) (h1 : aB3 w b1 v1 n fs) (h2 : aB3 w b2 v2 n fs) (hn : n ≤ 2000000) :
  Calls prog 116 #[v1, v2] w fun e w' => e = .returned (.bool true) ∧ Below w.heap.size w w' := by
 rcases h1 with ⟨oa, ca, rfl, _, rfl, rfl⟩ | ⟨g1, c1, rfl, hp, r1⟩
 ·rcases h2 with ⟨ob, cb, rfl, _, _, _⟩ | ⟨g2, c2, rfl, a7, _⟩
  ·go_enter func116, ntmps116;go_wp2
   refine wp_loop_rounds 1 ?_;rw [rounds_succ];go_wp2
   go_ret;exact ⟨rfl, Below.refl _ _⟩
  omega
 rcases h2 with ⟨ob, cb, rfl, _, h0, _⟩ | ⟨g2, c2, rfl, a7, r2⟩
 ·omega
 go_enter func116, ntmps116;go_wp2
 go_loopw [5] (fun i wr => ∃ k : Nat, k ≤ n ∧ i = .int .i64 (k : Int) ∧ Bw w wr) (fun i _ => n - (intOf i).toNat)
 case atStart => exact ⟨0, Nat.zero_le _, rfl, Below.refl _ _⟩
 case round =>
  obtain ⟨k, hk, rfl, a0⟩ := hrel;by_cases hlt : k < n
  rotate_left
  ·go_wp2
   go_ret;exact ⟨rfl, a0⟩
  have a8 : (k : Int) < (n : Int) := by omega
  obtain ⟨nm, a5⟩ := exq (aC7 fs k);obtain ⟨vl, a6⟩ := exq (aH7 fs k);have ha := (r1.below a0 r1.lt).name k hlt;have hb := (r1.below a0 r1.lt).val k hlt;have hc := (r2.below a0 r2.lt).name k hlt;have hd := (r2.below a0 r2.lt).val k hlt;rw [← a5] at ha hc;rw [← a6] at hb hd
  have HA : Hid (∀ w0 w1, Below wr.heap.size wr w0 → Below w0.heap.size w0 w1 → (w1.cell? ⟨g1, k * 2, none⟩ = some (.string nm) ∧ w1.cell? ⟨g1, k * 2 + 1, none⟩ = some (.string vl) ∧ w1.cell? ⟨g2, k * 2, none⟩ = some (.string nm) ∧ w1.cell? ⟨g2, k * 2 + 1, none⟩ = some (.string vl)) ∧ Below wr.heap.size wr w1) := fun w0 w1 h h' => by
   have hx := h.trans (h'.mono h.size)
   have hy := a0.trans (hx.mono a0.size)
   have a1 := (r1.below hy r1.lt).name k hlt
   have a2 := (r1.below hy r1.lt).val k hlt
   have a3 := (r2.below hy r2.lt).name k hlt
   have a4 := (r2.below hy r2.lt).val k hlt
   rw [← a5] at a1 a3
   rw [← a6] at a2 a4
   exact ⟨⟨a1, a2, a3, a4⟩, hx⟩
  clear a5 a6;go_wp2
  go_region_held3 (fun w' => w'.cell? ⟨g1, k * 2, none⟩ = some (.string nm) ∧ w'.cell? ⟨g1, k * 2 + 1, none⟩ = some (.string vl) ∧ w'.cell? ⟨g2, k * 2, none⟩ = some (.string nm) ∧ w'.cell? ⟨g2, k * 2 + 1, none⟩ = some (.string vl)) (first | assumption | go_keep) (first | (go_at_call 179; refine (bW2 _ _ _).mono ?_; rintro e w1 ⟨rfl, a9⟩; obtain ⟨b3, b0⟩ := HA.out _ w1 ((Below.refl _ wr).drew) a9))
  go_wp2
  go_roundw
  case rel => exact ⟨k + 1, by omega, by go_num, a0.trans (b0.mono a0.size)⟩
  case measure => simp [intOf]; omega
theorem bL0 (fs : Fs) (k j : Nat) (p : ByteArray × ByteArray) (hk : k < fs.length) : aC7 (fs.set k p) j = (if j = k then p.1 else aC7 fs j) ∧ aH7 (fs.set k p) j = (if j = k then p.2 else aH7 fs j) := by
 unfold aC7 aH7;rw [List.getD_eq_getElem?_getD, List.getD_eq_getElem?_getD];by_cases e : j = k
 rotate_left
 ·rw [if_neg e, if_neg e, List.getElem?_set_ne (by omega)];exact ⟨rfl, rfl⟩
 subst e;rw [if_pos rfl, if_pos rfl, List.getElem?_set_self (by omega)];exact ⟨rfl, rfl⟩
theorem aY2 {w w' : World} {g : Nat} (h : w'.heap[g]? = w.heap[g]?) (o : Nat) (v : Value) : (w'.setCell ⟨g, o, none⟩ v).heap[g]? = (w.setCell ⟨g, o, none⟩ v).heap[g]? := by
 simp [World.setCell, Array.getElem?_modify, h]
theorem aD9.set {base : Nat} {w : World} {g n cap : Nat} {fs : Fs} (h : aD9 base w g n cap fs) (k : Nat) (hk : k < n) (a b : Tx) (W : World) (hW : W.heap[g]? = ((w.setCell ⟨g, k * 2, none⟩ (.string a)).setCell ⟨g, k * 2 + 1, none⟩ (.string b)).heap[g]?) (hsz : w.heap.size ≤ W.heap.size) : aD9 base W g n cap (fs.set k (a, b)) := by
 have hl := h.len; have a1 := h.le;obtain ⟨a0, h1, h2, h3⟩ := h.heap;have a2 := h.lt;refine ⟨by simp [hl], h.base, by omega, h.le, h.mx, (a0.setIfInBounds (k * 2) (.string a)).setIfInBounds (k * 2 + 1) (.string b), ?_, by simpa using h2, ?_⟩
 ·rw [hW]; exact aD0 _ g (k * 2 + 1) _ _ _ _ (aD0 w g (k * 2) _ _ _ _ h1)
 intro i hi;have hs := bL0 fs k i (a, b) (by omega);rw [hs.1, hs.2];by_cases e : i = k
 ·subst e;rw [if_pos rfl, if_pos rfl];refine ⟨?_, ?_⟩
  ·rw [Array.getElem?_setIfInBounds_ne (by omega), Array.getElem?_setIfInBounds_self_of_lt (by omega)]
  rw [Array.getElem?_setIfInBounds_self_of_lt (by simp; omega)]
 rw [if_neg e, if_neg e];have := h3 i hi;refine ⟨?_, ?_⟩
 ·rw [Array.getElem?_setIfInBounds_ne (by omega), Array.getElem?_setIfInBounds_ne (by omega)]; exact this.1
 rw [Array.getElem?_setIfInBounds_ne (by omega), Array.getElem?_setIfInBounds_ne (by omega)]; exact this.2
end Go.Proofs.YtejoifianjgefaaGreatDoor
