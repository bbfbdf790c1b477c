/- What the proof of FnExactShelfText leans on: contracts of the program's and the specification's functions, and plain facts (part 1 of 5). -/
import Derived.Test.YtopeegjmpphjnaaGreatDoorCards
import Derived.Test.YtopeegjmpphjnaaGreatDoorProg
import Derived.Test.YtopeegjmpphjnaaGreatDoorRows
import Derived.Test.YtopeegjmpphjnaaGreatDoorTie
import Derived.ArgAppend
import Derived.Below
import Derived.BigQuiet
import Derived.ChangeKeysEq
import Derived.ChangeOld
import Derived.Deep.AppendLies
import Derived.Deep.CutRange
import Derived.Deep.DeepCutAuto
import Derived.Deep.DeepHandedRow
import Derived.Deep.DrawnRows
import Derived.Deep.MidRow
import Derived.Deep.QuietTactic
import Derived.Deep.RegionHeld3
import Derived.Deep.RegionLaw
import Derived.Deep.RegionWith
import Derived.Deep.SlicePairs
import Derived.Deep.Slices
import Derived.Laws.AppendOwnNone
import Derived.Laws.BytesArg
import Derived.Laws.EntriesVeiled
import Derived.Laws.MakeOwn
import Derived.Laws.RangeAny
import Derived.Laws.Rows
import Derived.Laws.StructEq
import Derived.Laws.Tables
import Derived.Lib.AppendIntMem
import Derived.Lib.BufferOwn
import Derived.Lib.ConvBytes
import Derived.Lib.CutLaws
import Derived.Lib.ItoaNum
import Derived.Lib.Join
import Derived.Lib.LaidTab
import Derived.Lib.SliceRun
import Derived.Lib.Strings
import Derived.Lib.Walk
import Derived.LoopIn
import Derived.LoopNIn
import Derived.Maps.Ext
import Derived.Maps.OwnOps
import Derived.Maps.OwnSet
import Derived.Maps.RangeWalk
import Derived.OpenShut
import Derived.OwnWalkIn
import Derived.ProofKit
import Derived.RangeFuncBound
import Derived.RangeFuncBox
import Derived.RangeFuncCalls
import Derived.RangeFuncLeaves
import Derived.RangeFuncNested
import Derived.Shelf.Abstract
import Derived.Shelf.LaysM
import Derived.Shelf.RegionOpen
import Derived.Shelf.Slices.Empties2
import Derived.Shelf.Slices.Equal
import Derived.Shelf.Strconv.Clone
import Derived.Shelf.Strconv.Itoa0
import Derived.Shelf.Strconv.Itoa1
import Derived.Shelf.Strconv.Itoa2
import Derived.Shelf.Strconv.Itoa3
import Derived.Shelf.Strings.Builder1
import Derived.Shelf.Strings.Builder2
import Derived.Shelf.Strings.BuilderF
import Derived.Shelf.Strings.BuilderK
import Derived.Shelf.Strings.OnBuilder
import Derived.ShutString
import Derived.SliceStrings
import Derived.TacticsInMore
import Derived.WalkKit
import Derived.WalkLawsBesides
import Derived.WalkSpells
set_option maxHeartbeats 16000000
set_option maxRecDepth 100000
namespace Go.Proofs.YtopeegjmpphjnaaGreatDoor
open Go.RowKit
open Go.Lib hiding intOf
/-- What lies in a block stays while new blocks are made. -/
theorem hblk {W W' : World} {q : Nat} {o : Obj} (h : Hid (W.heap[q]? = some o)) (b : Below W.heap.size W W') : Hid (W'.heap[q]? = some o) := (b.block q (Array.getElem?_eq_some_iff.1 h.out).1).trans h.out
theorem hown {W W' : World} {base : Nat} {T : TypeId} {z n : Nat} {v : Value} {c : List Value} (h : Hid (W.ownsRow base T z v n c)) (b : Below W.heap.size W W') : Hid (W'.ownsRow base T z v n c) := by
  obtain ⟨hl, hv⟩ := h.out
  refine ⟨hl, ?_⟩
  rcases hv with hv | ⟨g, cap, cur, e, hb, hg, hr⟩
  · exact .inl hv
  · exact .inr ⟨g, cap, cur, e, hb, (b.block g (Array.getElem?_eq_some_iff.1 hg).1).trans hg, hr⟩
theorem hbt {B : Nat} {w W W' : World} (h : Below B w W) (b : Below W.heap.size W W') (hB : B ≤ w.heap.size := by exact Nat.le_refl _) : Below B w W' := h.trans (b.mono (Nat.le_trans hB h.size))
theorem hsz {B : Nat} {W W' : World} (b : Below B W W') : Hid (W.heap.size ≤ W'.heap.size) := b.size
theorem heap_other (w : World) (a : Addr) (k : Nat) (v : Value) (h : k ≠ a.block) : (w.setCell a v).heap[k]? = w.heap[k]? := Below.heap_setCell w a v k h
theorem hset {W W' : World} {q q' off : Nat} {u : Value} {o : Obj} (hW : W' = W.setCell ⟨q', off, none⟩ u) (hn : q ≠ q') (h : Hid (W.heap[q]? = some o)) : Hid (W'.heap[q]? = some o) := by
  show _ = _
  rw [hW, heap_other _ _ _ _ hn]
  exact h.out
theorem hsetR {W W' : World} {q' off : Nat} {u : Value} {base : Nat} {T : TypeId} {z n : Nat} {v : Value} {c : List Value} (hW : W' = W.setCell ⟨q', off, none⟩ u) (hn : ∀ g, (Value.ownBlock v) = some g → g ≠ q') (h : Hid (W.ownsRow base T z v n c)) : Hid (W'.ownsRow base T z v n c) := by
  obtain ⟨hl, hv⟩ := h.out
  refine ⟨hl, ?_⟩
  rcases hv with hv | ⟨g, cap, cur, e, hb, hg, hr⟩
  · exact .inl hv
  · refine .inr ⟨g, cap, cur, e, hb, ?_, hr⟩
    rw [hW, heap_other _ _ _ _ (hn g (by rw [e]; rfl))]
    exact hg
theorem tkP {P : Program} {ops : Array Oper} {Q : Exit → Act → World → Prop} {md : Region.Mode} {S : World → Prop} {oi : Oper} {fuel : Nat} {listed : Array Bool} {a : Act} {w : World} (i : Nat) (v : Value) (d : Tmp) (hi : ops[i]? = some oi) (hd : oi.dst = some d) (hS : S w)
    (h : wpAnyH P md ops Q S fuel (listed.setIfInBounds i true) (a.put (some d) v) w)
    (hs : Region.noSelect ops = true := by kernel_rfl) (hf : Region.free md ops listed i = true := by kernel_rfl) (hr : (Region.ready md ops listed).contains i = true := by kernel_rfl) (hQ : ∀ c a w, Q (.panic c) (a.put oi.dst v) w → Q (.panic c) a w := by exact fun _ _ _ h => h)
    (hy : YieldsIf P ops S oi v a := by exact Or.inl ⟨by rfl, by intro W _; go_simp⟩) : wpAnyH P md ops Q S (fuel + 1) listed a w :=
  wpAnyH_take hi hs hf hr hQ hy hS (hd ▸ h)
theorem tkN {P : Program} {ops : Array Oper} {Q : Exit → Act → World → Prop} {md : Region.Mode} {S : World → Prop} {oi : Oper} {fuel : Nat} {listed : Array Bool} {a : Act} {w : World} (i : Nat) (d : Tmp) (hi : ops[i]? = some oi) (hd : oi.dst = some d) (hS : S w)
    (h : wpAnyH P md ops Q S fuel (listed.setIfInBounds i true) (a.put (some d) undef) w)
    (hs : Region.noSelect ops = true := by kernel_rfl) (hf : Region.free md ops listed i = true := by kernel_rfl) (hr : (Region.ready md ops listed).contains i = true := by kernel_rfl) (hQ : ∀ c a w, Q (.panic c) (a.put oi.dst undef) w → Q (.panic c) a w := by exact fun _ _ _ h => h)
    (hy : YieldsIf P ops S oi undef a := by exact Or.inr ⟨by rfl, rfl⟩) : wpAnyH P md ops Q S (fuel + 1) listed a w :=
  wpAnyH_take hi hs hf hr hQ hy hS (hd ▸ h)
theorem tkL {P : Program} {ops : Array Oper} {Q : Exit → Act → World → Prop} {md : Region.Mode} {S : World → Prop} {oi : Oper} {fuel : Nat} {listed : Array Bool} {a : Act} {w : World} (i : Nat) (v : Value) (d : Tmp) (hi : ops[i]? = some oi) (hd : oi.dst = some d) (hy : YieldsIf P ops S oi v a) (hS : S w)
    (h : wpAnyH P md ops Q S fuel (listed.setIfInBounds i true) (a.put (some d) v) w)
    (hs : Region.noSelect ops = true := by kernel_rfl) (hf : Region.free md ops listed i = true := by kernel_rfl) (hr : (Region.ready md ops listed).contains i = true := by kernel_rfl) (hQ : ∀ c a w, Q (.panic c) (a.put oi.dst v) w → Q (.panic c) a w := by exact fun _ _ _ h => h) : wpAnyH P md ops Q S (fuel + 1) listed a w :=
  wpAnyH_take hi hs hf hr hQ hy hS (hd ▸ h)
abbrev Fs := List (ByteArray × ByteArray)
abbrev Bs := List (Int × ByteArray × ByteArray × Int)
abbrev Ts := List ByteArray
abbrev Tx := ByteArray
abbrev Oa := Option Addr
theorem exq {α : Type} (a : α) : ∃ q, q = a := ⟨a, rfl⟩
theorem hsy {α : Type} {a b : α} (h : a = b) : Hid (b = a) := h.symm
theorem hid {p : Prop} (h : p) : Hid p := h
theorem hfz {W : World} {q T : Nat} {cs : Array Value} (h : Hid (W.heap[q]? = some (.cells cs T))) (i : Nat) : W.frozen? ⟨q, i, none⟩ = false := by simp [World.frozen?, h.out]
theorem own_g {w : World} {base : Nat} {e : TypeId} {size : Nat} {v : Value} {n g : Nat} {xs : List Value} (h : w.ownsRow base e size v n xs) (hg : v.ownBlock = some g) : base ≤ g ∧ g < w.heap.size := by
  rcases h.2 with ⟨rfl, _⟩ | ⟨g', cap, cur, rfl, hb, hh, _⟩
  · simp [Value.ownBlock] at hg
  · simp [Value.ownBlock] at hg
    subst hg
    exact ⟨hb, (Array.getElem?_eq_some_iff.1 hh).1⟩
theorem hlo {w : World} {base : Nat} {e : TypeId} {size : Nat} {v : Value} {n : Nat} {xs : List Value} (h : w.ownsRow base e size v n xs) : Hid (∀ g, (Value.ownBlock v) = some g → base ≤ g) := fun _ hg => (own_g h hg).1
theorem hhi {w : World} {base : Nat} {e : TypeId} {size : Nat} {v : Value} {n : Nat} {xs : List Value} (h : w.ownsRow base e size v n xs) : Hid (∀ g, (Value.ownBlock v) = some g → g < w.heap.size) := fun _ hg => (own_g h hg).2
theorem hwd {w : World} {B base : Nat} {e : TypeId} {size : Nat} {v : Value} {n : Nat} {xs : List Value} (h : w.ownsRow base e size v n xs) (hB : B ≤ base) : Hid (w.ownsRow B e size v n xs) := by
  refine ⟨h.1, ?_⟩
  rcases h.2 with h0 | ⟨g, cap, cur, h1, h2, h3⟩
  · exact .inl h0
  · exact .inr ⟨g, cap, cur, h1, Nat.le_trans hB h2, h3⟩
theorem bal {W W' : World} {o : Obj} (h : W' = W.alloc o) : Below W.heap.size W W' := by rw [h]; exact (Below.refl _ _).alloc (Nat.le_refl _) _
theorem bdr {W W' : World} (h : W' = W.drew) : Below W.heap.size W W' := by rw [h]; exact (Below.refl _ _).drew
theorem hsa {W W' : World} {o : Obj} {q : Nat} (h : W' = W.alloc o) (hz : W.heap.size = q) : W'.heap.size = q + 1 := by rw [h, ← hz]; simp
theorem heap_push (w : World) (o : Obj) : (w.alloc o).heap[w.heap.size]? = some o := by
  show (w.heap.push o)[w.heap.size]? = some o
  simp
theorem hnew {W W' : World} {o : Obj} {q : Nat} (h : W' = W.alloc o) (hz : W.heap.size = q) : Hid (W'.heap[q]? = some o) := by show _ = _; rw [h, ← hz]; exact heap_push _ _
theorem hge {w W : World} {B q : Nat} (hz : W.heap.size = q) (h : Below B w W) : Hid (w.heap.size ≤ q) := by show _ ≤ _; rw [← hz]; exact h.size
theorem hnq {W : World} {p q : Nat} {o : Obj} (h : Hid (W.heap[p]? = some o)) (hz : W.heap.size = q) : Hid (p ≠ q) := fun e => by have h1 := (Array.getElem?_eq_some_iff.1 h.out).1; omega
theorem hbS {w W W' : World} {B q i : Nat} {v : Value} (hW : W' = W.setCell ⟨q, i, none⟩ v) (h : Below B w W) (hq : Hid (B ≤ q)) : Below B w W' := by rw [hW]; exact h.setCell (p := ⟨q, i, none⟩) hq.out _
theorem hcl {W : World} {q : Nat} {T : TypeId} {l : List Value} {v : Value} (h : Hid (W.heap[q]? = some (.cells l.toArray T))) (i : Nat) (hv : l[i]? = some v) : W.cell? ⟨q, i, none⟩ = some v := by simp [World.cell?, h.out, hv]
theorem blt {W : World} {q : Nat} {o : Obj} (h : W.heap[q]? = some o) : q < W.heap.size := (Array.getElem?_eq_some_iff.1 h).1
theorem wdn {P : Program} {ops : Array Oper} {Q : Exit → Act → World → Prop} {md : Region.Mode} {S : World → Prop} {fuel : Nat} {listed : Array Bool} {a : Act} {w : World} (h : Q .normal a w) (hr : Region.ready md ops listed = [] := by kernel_rfl) : wpAnyH P md ops Q S fuel listed a w := wpAnyH_done hr h _
theorem rd1 {P : Program} {ops : Array Oper} {Q : Exit → Act → World → Prop} {md : Region.Mode} {S : World → Prop} {fuel : Nat} {listed : Array Bool} {a : Act} {w : World} {o : Oper} (i : Nat) (ho : ops[i]? = some o)
    (h : ∀ K' : Act → World → Prop, Shut (∀ a w, S w → (S w → wpAnyH P md ops Q S fuel (listed.setIfInBounds i true) a w) → K' a w) → if Region.wanted o (yielded ops a.tmps) = true then Oper.wp P o a w K' Q else K' (a.put o.dst undef) w)
    (hr : Region.ready md ops listed = [i] := by kernel_rfl) : wpAnyH P md ops Q S (fuel + 1) listed a w := wpAnyH_ready hr (by simp) (AllReadyH.cons ho h AllReadyH.nil)
theorem k1c {W : World} {q T : Nat} {a : Value} (kk : Hid (W.heap[q]? = some (.cells #[a] T))) : W.cell? ⟨q, 0, none⟩ = some a := by simp [World.cell?, kk.out]
theorem k2c {W : World} {q T : Nat} {a b : Value} (kk : Hid (W.heap[q]? = some (.cells #[a, b] T))) : W.cell? ⟨q, 0, none⟩ = some a ∧ W.cell? ⟨q, 1, none⟩ = some b := ⟨by simp [World.cell?, kk.out], by simp [World.cell?, kk.out]⟩
theorem k4c {W : World} {q T : Nat} {a b c d : Value} (kk : Hid (W.heap[q]? = some (.cells #[a, b, c, d] T))) : W.cell? ⟨q, 0, none⟩ = some a ∧ W.cell? ⟨q, 1, none⟩ = some b ∧ W.cell? ⟨q, 2, none⟩ = some c ∧ W.cell? ⟨q, 3, none⟩ = some d := ⟨by simp [World.cell?, kk.out], by simp [World.cell?, kk.out], by simp [World.cell?, kk.out], by simp [World.cell?, kk.out]⟩
theorem k6c {W : World} {q T : Nat} {a b c d e f : Value} (kk : Hid (W.heap[q]? = some (.cells #[a, b, c, d, e, f] T))) : W.cell? ⟨q, 0, none⟩ = some a ∧ W.cell? ⟨q, 1, none⟩ = some b ∧ W.cell? ⟨q, 2, none⟩ = some c ∧ W.cell? ⟨q, 3, none⟩ = some d ∧ W.cell? ⟨q, 4, none⟩ = some e ∧ W.cell? ⟨q, 5, none⟩ = some f := ⟨by simp [World.cell?, kk.out], by simp [World.cell?, kk.out], by simp [World.cell?, kk.out], by simp [World.cell?, kk.out], by simp [World.cell?, kk.out], by simp [World.cell?, kk.out]⟩
theorem k7c {W : World} {q T : Nat} {a b c d e f g : Value} (kk : Hid (W.heap[q]? = some (.cells #[a, b, c, d, e, f, g] T))) : W.cell? ⟨q, 0, none⟩ = some a ∧ W.cell? ⟨q, 1, none⟩ = some b ∧ W.cell? ⟨q, 2, none⟩ = some c ∧ W.cell? ⟨q, 3, none⟩ = some d ∧ W.cell? ⟨q, 4, none⟩ = some e ∧ W.cell? ⟨q, 5, none⟩ = some f ∧ W.cell? ⟨q, 6, none⟩ = some g := ⟨by simp [World.cell?, kk.out], by simp [World.cell?, kk.out], by simp [World.cell?, kk.out], by simp [World.cell?, kk.out], by simp [World.cell?, kk.out], by simp [World.cell?, kk.out], by simp [World.cell?, kk.out]⟩
theorem k9c {W : World} {q T : Nat} {a b c d e f g h i : Value} (kk : Hid (W.heap[q]? = some (.cells #[a, b, c, d, e, f, g, h, i] T))) : W.cell? ⟨q, 0, none⟩ = some a ∧ W.cell? ⟨q, 1, none⟩ = some b ∧ W.cell? ⟨q, 2, none⟩ = some c ∧ W.cell? ⟨q, 3, none⟩ = some d ∧ W.cell? ⟨q, 4, none⟩ = some e ∧ W.cell? ⟨q, 5, none⟩ = some f ∧ W.cell? ⟨q, 6, none⟩ = some g ∧ W.cell? ⟨q, 7, none⟩ = some h ∧ W.cell? ⟨q, 8, none⟩ = some i := ⟨by simp [World.cell?, kk.out], by simp [World.cell?, kk.out], by simp [World.cell?, kk.out], by simp [World.cell?, kk.out], by simp [World.cell?, kk.out], by simp [World.cell?, kk.out], by simp [World.cell?, kk.out], by simp [World.cell?, kk.out], by simp [World.cell?, kk.out]⟩
end Go.Proofs.YtopeegjmpphjnaaGreatDoor
namespace Go.Proofs.YtopeegjmpphjnaaGreatDoor
open Go.RowKit
def cls (r : Int) : Int :=
 if 65 ≤ r ∧ r ≤ 90 then 0 else if 97 ≤ r ∧ r ≤ 122 then 1 else if 48 ≤ r ∧ r ≤ 57 then 2 else if r = 45 then 3 else if r = 32 then 4 else if r = 44 then 5 else if 32 ≤ r ∧ r ≤ 126 then 6 else 7
def testsV : Value := .agg #[.func (.func 242) #[] #[], .func (.func 243) #[] #[], .func (.func 244) #[] #[], .func (.func 245) #[] #[], .func (.func 246) #[] #[], .func (.func 247) #[] #[], .func (.func 248) #[] #[]]
theorem cls_spec (r : Int) : (cls r = 0 ∧ 65 ≤ r ∧ r ≤ 90) ∨ (cls r = 1 ∧ 97 ≤ r ∧ r ≤ 122) ∨ (cls r = 2 ∧ 48 ≤ r ∧ r ≤ 57) ∨ (cls r = 3 ∧ r = 45) ∨ (cls r = 4 ∧ r = 32) ∨ (cls r = 5 ∧ r = 44) ∨ (cls r = 6 ∧ 32 ≤ r ∧ r ≤ 126 ∧ (r < 65 ∨ 90 < r) ∧ (r < 97 ∨ 122 < r) ∧ (r < 48 ∨ 57 < r) ∧ r ≠ 45 ∧ r ≠ 32 ∧ r ≠ 44) ∨ (cls r = 7 ∧ (r < 32 ∨ 126 < r)) := by
 unfold cls
 repeat' split
 all_goals omega
theorem ret_int {k : IntKind} {a b : Int} (h : a = b) : Ending.returned (.int k a) = .returned (.int k b) := by rw [h]
theorem byteTests_any (w : World) :
  Calls Tryz.prog 230 #[] w fun e w' => e = .returned testsV ∧ Below w.heap.size w w' := by
 go_enter Tryz.func230, Tryz.ntmps230
 go_wp2
 exact bodyPost_ret (v := testsV) (by simp [results, Tryz.results230, go_sem, testsV]) rfl ⟨rfl, (Below.refl _ _).alloc (Nat.le_refl _) _⟩
theorem classOf_any (r : Int) (w : World) :
  Calls Tryz.prog 205 #[.int .i32 r] w fun e w' => e = .returned (.int .i64 (cls r)) ∧ Below w.heap.size w w' := by
 have i0 : ∀ w : World, (Instr.index 301 testsV (.int .i64 0)).run Tryz.prog w = .ok (.func (.func 242) #[] #[]) w := fun _ => by kernel_rfl
 have i1 : ∀ w : World, (Instr.index 301 testsV (.int .i64 1)).run Tryz.prog w = .ok (.func (.func 243) #[] #[]) w := fun _ => by kernel_rfl
 have i2 : ∀ w : World, (Instr.index 301 testsV (.int .i64 2)).run Tryz.prog w = .ok (.func (.func 244) #[] #[]) w := fun _ => by kernel_rfl
 have i3 : ∀ w : World, (Instr.index 301 testsV (.int .i64 3)).run Tryz.prog w = .ok (.func (.func 245) #[] #[]) w := fun _ => by kernel_rfl
 have i4 : ∀ w : World, (Instr.index 301 testsV (.int .i64 4)).run Tryz.prog w = .ok (.func (.func 246) #[] #[]) w := fun _ => by kernel_rfl
 have i5 : ∀ w : World, (Instr.index 301 testsV (.int .i64 5)).run Tryz.prog w = .ok (.func (.func 247) #[] #[]) w := fun _ => by kernel_rfl
 have i6 : ∀ w : World, (Instr.index 301 testsV (.int .i64 6)).run Tryz.prog w = .ok (.func (.func 248) #[] #[]) w := fun _ => by kernel_rfl
 go_enter Tryz.func205, Tryz.ntmps205
 go_wp2_with (go_at_call 230; refine (byteTests_any _).mono ?_; rintro e w1 ⟨rfl, hb⟩)
 go_loop [6] (fun i => ∃ k : Nat, k ≤ 7 ∧ (k : Int) ≤ cls r ∧ i = .int .i64 k) (fun i => 7 - (intOf i).toNat)
 case atStart => exact ⟨0, by omega, by have := cls_spec r; omega, rfl⟩
 case round =>
  obtain ⟨k, hk, hc, rfl⟩ := hrel
  have hk5 : k = 0 ∨ k = 1 ∨ k = 2 ∨ k = 3 ∨ k = 4 ∨ k = 5 ∨ k = 6 ∨ k = 7 := by omega
  rcases hk5 with rfl | rfl | rfl | rfl | rfl | rfl | rfl | rfl
  all_goals have HS : Hid _ := cls_spec r
  ·go_wp2
   ·go_ret
    exact ⟨ret_int (by have := HS.out; omega), hb⟩
   ·go_round
    case rel => exact ⟨1, by omega, by have := HS.out; omega, rfl⟩
    case measure => simp [intOf]
   ·go_round
    case rel => exact ⟨1, by omega, by have := HS.out; omega, rfl⟩
    case measure => simp [intOf]
  ·go_wp2
   ·go_ret
    exact ⟨ret_int (by have := HS.out; omega), hb⟩
   ·go_round
    case rel => exact ⟨2, by omega, by have := HS.out; omega, rfl⟩
    case measure => simp [intOf]
   ·go_round
    case rel => exact ⟨2, by omega, by have := HS.out; omega, rfl⟩
    case measure => simp [intOf]
  ·go_wp2
   ·go_ret
    exact ⟨ret_int (by have := HS.out; omega), hb⟩
   ·go_round
    case rel => exact ⟨3, by omega, by have := HS.out; omega, rfl⟩
    case measure => simp [intOf]
   ·go_round
    case rel => exact ⟨3, by omega, by have := HS.out; omega, rfl⟩
    case measure => simp [intOf]
  ·by_cases hv : r = 45
   rotate_left
   ·have ht : (r == 45) = false := beq_eq_false_iff_ne.2 hv
    go_wp2
    go_round
    case rel => exact ⟨4, by omega, by have := HS.out; omega, rfl⟩
    case measure => simp [intOf]
   have ht : (r == 45) = true := beq_iff_eq.2 hv
   have HV : Hid (r = 45) := hv
   clear hv
   go_wp2
   go_ret
   exact ⟨ret_int (by have := HS.out; have := HV.out; omega), hb⟩
  ·by_cases hv : r = 32
   rotate_left
   ·have ht : (r == 32) = false := beq_eq_false_iff_ne.2 hv
    go_wp2
    go_round
    case rel => exact ⟨5, by omega, by have := HS.out; omega, rfl⟩
    case measure => simp [intOf]
   have ht : (r == 32) = true := beq_iff_eq.2 hv
   have HV : Hid (r = 32) := hv
   clear hv
   go_wp2
   go_ret
   exact ⟨ret_int (by have := HS.out; have := HV.out; omega), hb⟩
  ·by_cases hv : r = 44
   rotate_left
   ·have ht : (r == 44) = false := beq_eq_false_iff_ne.2 hv
    go_wp2
    go_round
    case rel => exact ⟨6, by omega, by have := HS.out; omega, rfl⟩
    case measure => simp [intOf]
   have ht : (r == 44) = true := beq_iff_eq.2 hv
   have HV : Hid (r = 44) := hv
   clear hv
   go_wp2
   go_ret
   exact ⟨ret_int (by have := HS.out; have := HV.out; omega), hb⟩
  ·go_wp2
   ·go_ret
    exact ⟨ret_int (by have := HS.out; omega), hb⟩
   ·go_round
    case rel => exact ⟨7, by omega, by have := HS.out; omega, rfl⟩
    case measure => simp [intOf]
   ·go_round
    case rel => exact ⟨7, by omega, by have := HS.out; omega, rfl⟩
    case measure => simp [intOf]
  ·go_wp2
   go_ret
   exact ⟨ret_int (by have := HS.out; omega), hb⟩
end Go.Proofs.YtopeegjmpphjnaaGreatDoor
namespace Go.Proofs.YtopeegjmpphjnaaGreatDoor
open Go.RowKit
open Go.Lib hiding intOf
def TokB (n : Int) : Prop := (97 ≤ n ∧ n ≤ 122) ∨ (48 ≤ n ∧ n ≤ 57) ∨ n = 45
def ValB (n : Int) : Prop := 32 ≤ n ∧ n ≤ 126
theorem tok_cls (n : Int) : TokB n ↔ cls n = 1 ∨ cls n = 2 ∨ cls n = 3 := by
 have := cls_spec n; unfold TokB; omega
theorem val_cls (n : Int) : ValB n ↔ cls n ≠ 7 := by
 have := cls_spec n; unfold ValB; omega
theorem tok_small {n : Int} (h : TokB n) : n < 128 := by unfold TokB at h; omega
theorem val_small {n : Int} (h : ValB n) : n < 128 := by unfold ValB at h; omega
def BoolIs (p : Prop) (w : World) (e : Ending) (w' : World) : Prop := ∃ b : Bool, e = .returned (.bool b) ∧ (b = true ↔ p) ∧ Below w.heap.size w w'
theorem BoolIs.yes {p : Prop} {w w' : World} (hp : p) (hb : Below w.heap.size w w') : BoolIs p w (.returned (.bool true)) w' := ⟨true, rfl, by simpa using hp, hb⟩
theorem BoolIs.no {p : Prop} {w w' : World} (hp : ¬ p) (hb : Below w.heap.size w w') : BoolIs p w (.returned (.bool false)) w' := ⟨false, rfl, by simpa using hp, hb⟩
def AllB (p : Int → Prop) (s : Tx) : Prop := ∀ j (h : j < s.size), p ((s[j]'h).toNat : Int)
def AllTo (p : Int → Prop) (s : Tx) (pos : Nat) : Prop := ∀ j (h : j < s.size), j < pos → p ((s[j]'h).toNat : Int)
theorem allTo_zero (p : Int → Prop) (s : Tx) : AllTo p s 0 := fun _ _ h => absurd h (by omega)
theorem allTo_end {p : Int → Prop} {s : ByteArray} {pos : Nat} (h : AllTo p s pos) (hp : ¬ pos < s.size) : AllB p s := fun j hj => h j hj (by omega)
theorem allTo_succ {p : Int → Prop} {s : ByteArray} {pos : Nat} (h : AllTo p s pos) (hp : pos < s.size) (hv : p ((s[pos]'hp).toNat : Int)) : AllTo p s (pos + 1) := by
 intro j hj hlt
 by_cases e : j = pos
 · subst e; exact hv
 exact h j hj (by omega)
theorem rune_ok {p : Int → Prop} (hs : ∀ n, p n → n < 128) (s : Tx) (pos : Nat) (hp : pos < s.size) (h : p ((Utf8.decode s pos).1 : Int)) :
  p ((s[pos]'hp).toNat : Int) ∧ (Utf8.decode s pos).2 = 1 := by
 by_cases ha : (s[pos]'hp).toNat < 128
 ·rw [decode_ascii s pos hp ha] at h ⊢
  exact ⟨h, rfl⟩
 have := (decode_high s pos hp (by omega)).1
 have := hs _ h
 omega
theorem rune_no {p : Int → Prop} (hs : ∀ n, p n → n < 128) (s : Tx) (pos : Nat) (hp : pos < s.size) (h : ¬ p ((Utf8.decode s pos).1 : Int)) : ¬ AllB p s := by
 intro ha
 have h1 := ha pos hp
 have h2 := hs _ h1
 rw [decode_ascii s pos hp (by omega)] at h
 exact h h1
theorem iter_step {w wr w1 : World} {s : ByteArray} {pos p1 : Nat} (hh : wr.heap[w.heap.size]? = some (.stringIter s pos)) (hbw : Below w.heap.size w wr)
  (hb1 : Below (wr.iterAt w.heap.size s p1).heap.size (wr.iterAt w.heap.size s p1) w1) : w1.heap[w.heap.size]? = some (.stringIter s p1) ∧ Below w.heap.size w w1 := by
 have hlt : w.heap.size < wr.heap.size := (blt hh)
 refine ⟨?_, ?_⟩
 ·rw [hb1.block _ (by rw [iterAt_size]; exact hlt)]
  exact iterAt_heap _ _ _ _ _ hh
 · exact (below_iterAt hbw (Nat.le_refl _) s p1).trans (hb1.mono (by rw [iterAt_size]; omega))
theorem isTokenRune_any (r : Int) (w : World) :
  Calls Tryz.prog 207 #[.int .i32 r] w fun e w' => BoolIs (TokB r) w e w' := by
 rw [tok_cls]
 go_enter Tryz.func207, Tryz.ntmps207
 go_wp2_with (go_at_call 205; refine (classOf_any _ _).mono ?_; rintro e w1 ⟨rfl, hb⟩)
 all_goals
  go_ret
  exact ⟨_, rfl, by simp_all, hb⟩
theorem isValueRune_any (r : Int) (w : World) :
  Calls Tryz.prog 208 #[.int .i32 r] w fun e w' => BoolIs (ValB r) w e w' := by
 rw [val_cls]
 go_enter Tryz.func208, Tryz.ntmps208
 go_wp2_with (go_at_call 205; refine (classOf_any _ _).mono ?_; rintro e w1 ⟨rfl, hb⟩)
 go_ret
 exact ⟨_, rfl, by simp, hb⟩
theorem allRunes_tok (s : Tx) (w : World) :
  Calls Tryz.prog 169 #[.string s, .func (.func 207) #[] #[]] w fun e w' => BoolIs (AllB TokB s) w e w' := by
 go_enter Tryz.func169, Tryz.ntmps169
 go_wp2
 go_loopw [6] (fun _ wr => ∃ pos : Nat, wr.heap[w.heap.size]? = some (.stringIter s pos) ∧ Below w.heap.size w wr ∧ Hid (AllTo TokB s pos)) (fun _ wr => s.size - wr.iterPos w.heap.size)
 case atStart => exact ⟨0, World.iter_heap _ _ _, (Below.refl _ _).alloc (Nat.le_refl _) _, allTo_zero _ _⟩
 case round =>
  obtain ⟨pos, hh, hbw, hall⟩ := hrel
  by_cases hp : pos < s.size
  rotate_left
  ·have hnx := fun ty => run_next_end_at (P := Tryz.prog) wr w.heap.size s pos ty hh hp
   go_wp2
   go_ret
   exact BoolIs.yes (allTo_end hall.out hp) hbw
  have hnx := fun ty => run_next_any_at (P := Tryz.prog) wr w.heap.size s pos ty hh hp
  go_wp2_with (go_at_call 207; refine (isTokenRune_any _ _).mono ?_; rintro e w1 ⟨b, rfl, hbt, hb1⟩)
  ·have hbf : b = false := by simpa using ‹(!b) = true›
   have hno : ¬ TokB ((Utf8.decode s pos).1 : Int) := fun h => by rw [hbt.2 h] at hbf; cases hbf
   go_ret
   exact BoolIs.no (rune_no (fun _ => tok_small) s pos hp hno) (iter_step hh hbw hb1).2
  ·have hbf : b = true := by simpa using ‹(!b) = false›
   obtain ⟨hv, hone⟩ := rune_ok (fun _ => tok_small) s pos hp (hbt.1 hbf)
   rw [hone] at hb1
   obtain ⟨h1, h2⟩ := iter_step hh hbw hb1
   exact ⟨⟨pos + 1, h1, h2, allTo_succ hall.out hp hv⟩, by rw [iterPos_of h1, iterPos_of hh]; omega⟩
theorem allRunes_val (s : Tx) (w : World) :
  Calls Tryz.prog 169 #[.string s, .func (.func 208) #[] #[]] w fun e w' => BoolIs (AllB ValB s) w e w' := by
 go_enter Tryz.func169, Tryz.ntmps169
 go_wp2
 go_loopw [6] (fun _ wr => ∃ pos : Nat, wr.heap[w.heap.size]? = some (.stringIter s pos) ∧ Below w.heap.size w wr ∧ Hid (AllTo ValB s pos)) (fun _ wr => s.size - wr.iterPos w.heap.size)
 case atStart => exact ⟨0, World.iter_heap _ _ _, (Below.refl _ _).alloc (Nat.le_refl _) _, allTo_zero _ _⟩
 case round =>
  obtain ⟨pos, hh, hbw, hall⟩ := hrel
  by_cases hp : pos < s.size
  rotate_left
  ·have hnx := fun ty => run_next_end_at (P := Tryz.prog) wr w.heap.size s pos ty hh hp
   go_wp2
   go_ret
   exact BoolIs.yes (allTo_end hall.out hp) hbw
  have hnx := fun ty => run_next_any_at (P := Tryz.prog) wr w.heap.size s pos ty hh hp
  go_wp2_with (go_at_call 208; refine (isValueRune_any _ _).mono ?_; rintro e w1 ⟨b, rfl, hbt, hb1⟩)
  ·have hbf : b = false := by simpa using ‹(!b) = true›
   have hno : ¬ ValB ((Utf8.decode s pos).1 : Int) := fun h => by rw [hbt.2 h] at hbf; cases hbf
   go_ret
   exact BoolIs.no (rune_no (fun _ => val_small) s pos hp hno) (iter_step hh hbw hb1).2
  ·have hbf : b = true := by simpa using ‹(!b) = false›
   obtain ⟨hv, hone⟩ := rune_ok (fun _ => val_small) s pos hp (hbt.1 hbf)
   rw [hone] at hb1
   obtain ⟨h1, h2⟩ := iter_step hh hbw hb1
   exact ⟨⟨pos + 1, h1, h2, allTo_succ hall.out hp hv⟩, by rw [iterPos_of h1, iterPos_of hh]; omega⟩
def TokOk (s : Tx) : Prop := 1 ≤ s.size ∧ s.size ≤ 20 ∧ AllB TokB s
theorem implTokenOk_any (s : Tx) (w : World) (hs : s.size ≤ maxLen) :
  Calls Tryz.prog 173 #[.string s] w fun e w' => BoolIs (TokOk s) w e w' := by
 unfold maxLen at hs
 by_cases h1 : (1 : Int) ≤ (s.size : Int)
 rotate_left
 ·go_enter Tryz.func173, Tryz.ntmps173
  go_wp2_with fail
  go_ret
  exact BoolIs.no (by unfold TokOk; omega) (Below.refl _ _)
 by_cases h2 : (s.size : Int) ≤ 20
 rotate_left
 ·go_enter Tryz.func173, Tryz.ntmps173
  go_wp2_with fail
  go_ret
  exact BoolIs.no (by unfold TokOk; omega) (Below.refl _ _)
 go_enter Tryz.func173, Tryz.ntmps173
 go_wp2_with (go_at_call 169; refine (allRunes_tok _ _).mono ?_; rintro e w1 ⟨b, rfl, hbt, hb1⟩)
 go_ret
 exact ⟨b, rfl, by unfold TokOk; rw [hbt]; exact ⟨fun h => ⟨by omega, by omega, h⟩, fun h => h.2.2⟩, hb1⟩
theorem specTokenOk_any (s : Tx) (w : World) (hs : s.size ≤ maxLen) :
    Calls Tryz.prog 88 #[.string s] w fun e w' => BoolIs (TokOk s) w e w' := by
  unfold maxLen at hs
  go_enter Tryz.func88, Tryz.ntmps88
  go_wp2
  go_loop [3] (fun i => ∃ k : Nat, k ≤ s.size ∧ i = .int .i64 k ∧ Hid (AllTo TokB s k)) (fun i => s.size - (intOf i).toNat)
  case atStart => exact ⟨0, Nat.zero_le _, rfl, allTo_zero _ _⟩
  case round =>
    obtain ⟨k, hk, rfl, hall⟩ := hrel
    by_cases hlt : k < s.size
    rotate_left
    · have hend : Hid (AllB TokB s) := allTo_end hall.out hlt
      by_cases h1 : (1 : Int) ≤ (s.size : Int)
      rotate_left
      · go_wp2
        go_ret
        exact BoolIs.no (by unfold TokOk; omega) (Below.refl _ _)
      by_cases h2 : (s.size : Int) ≤ 20
      rotate_left
      · go_wp2
        go_ret
        exact BoolIs.no (by unfold TokOk; omega) (Below.refl _ _)
      go_wp2
      go_ret
      exact BoolIs.yes ⟨by omega, by omega, hend.out⟩ (Below.refl _ _)
    go_wp2
    all_goals first
      | (go_ret
         have hno : ¬ TokB ((s[k]'hlt).toNat : Int) := by
           unfold TokB
           try simp only [bne_iff_ne, ne_eq] at *
           omega
         exact BoolIs.no (fun h => hno (h.2.2 k hlt)) (Below.refl _ _))
      | (go_round
         case rel =>
           have hy : TokB ((s[k]'hlt).toNat : Int) := by
             unfold TokB
             try simp only [bne_eq_false_iff_eq] at *
             omega
           exact ⟨k + 1, by omega, by go_num, allTo_succ hall.out hlt hy⟩
         case measure => simp [intOf]; omega)
end Go.Proofs.YtopeegjmpphjnaaGreatDoor
namespace Go.Proofs
open Go.Shelf
def Tryz.lays156_ren : Go.Shelf.Ren := ⟨fun | 156 => 59 | 165 => 96 | 166 => 97 | 169 => 98 | 240 => 137 | 241 => 138 | 276 => 177 | 277 => 178 | n => n, fun | 31 => 22 | 9 => 9 | 3 => 3 | 4 => 4 | 0 => 0 | 20 => 20 | 72 => 157 | 76 => 161 | 70 => 155 | 37 => 42 | 75 => 160 | 127 => 201 | 164 => 244 | 5 => 5 | 80 => 71 | n => n, fun | n => n⟩
theorem Tryz.lays156 : Go.Proofs.Lays.n156 Tryz.prog Tryz.lays156_ren := {
 mixed := by kernel_rfl
 f156 := Tryz.func59.trans (congrArg some (by kernel_rfl))
 f165 := Tryz.func96.trans (congrArg some (by kernel_rfl))
 f166 := Tryz.func97.trans (congrArg some (by kernel_rfl))
 f169 := Tryz.func98.trans (congrArg some (by kernel_rfl))
 f240 := Tryz.func137.trans (congrArg some (by kernel_rfl))
 f241 := Tryz.func138.trans (congrArg some (by kernel_rfl))
 f276 := Tryz.func177.trans (congrArg some (by kernel_rfl))
 f277 := Tryz.func178.trans (congrArg some (by kernel_rfl))
 t0 := Tryz.underlying0
 a0 := Tryz.isAgg0
 z0 := Tryz.sizeOf0
 v0 := Tryz.zeroValue0
 t3 := Tryz.underlying3
 a3 := Tryz.isAgg3
 z3 := Tryz.sizeOf3
 v3 := Tryz.zeroValue3
 t4 := Tryz.underlying4
 a4 := Tryz.isAgg4
 z4 := Tryz.sizeOf4
 v4 := Tryz.zeroValue4
 t9 := Tryz.underlying9
 a9 := Tryz.isAgg9
 z9 := Tryz.sizeOf9
 v9 := Tryz.zeroValue9
 t20 := Tryz.underlying20
 a20 := Tryz.isAgg20
 z20 := Tryz.sizeOf20
 v20 := Tryz.zeroValue20
 t31 := Tryz.underlying22
 a31 := Tryz.isAgg22
 z31 := Tryz.sizeOf22
 v31 := Tryz.zeroValue22
 t37 := Tryz.underlying42
 a37 := Tryz.isAgg42
 z37 := Tryz.sizeOf42
 v37 := Tryz.zeroValue42
 t70 := Tryz.underlying155
 a70 := Tryz.isAgg155
 z70 := Tryz.sizeOf155
 v70 := Tryz.zeroValue155
 t72 := Tryz.underlying157
 a72 := Tryz.isAgg157
 z72 := Tryz.sizeOf157
 v72 := Tryz.zeroValue157
 t75 := Tryz.underlying160
 a75 := Tryz.isAgg160
 z75 := Tryz.sizeOf160
 v75 := Tryz.zeroValue160
 t76 := Tryz.underlying161
 a76 := Tryz.isAgg161
 z76 := Tryz.sizeOf161
 v76 := Tryz.zeroValue161
 t127 := Tryz.underlying201
 a127 := Tryz.isAgg201
 z127 := Tryz.sizeOf201
 v127 := Tryz.zeroValue201
 t164 := Tryz.underlying244
 a164 := Tryz.isAgg244
 z164 := Tryz.sizeOf244
 v164 := Tryz.zeroValue244 }
theorem Tryz.Builder_Extra_156 : Builder.Extra Tryz.prog Tryz.lays156_ren := {
 sizeBuilder := by kernel_rfl
 liesBuilder := by kernel_rfl
 t5 := Tryz.underlying5
 a5 := Tryz.isAgg5
 z5 := Tryz.sizeOf5
 v5 := Tryz.zeroValue5
 infoByte := by kernel_rfl
 cellsByte := by kernel_rfl
 sizeByte := by kernel_rfl
 neB5 := by decide }
open Go.RowKit in
theorem Tryz.strings_Join_none (a : Option Addr) (c : Nat) (sep : ByteArray) (w : World) :
    Calls Tryz.prog 59 #[.slice a 0 c, .string sep] w fun e w' => e = .returned (.string ⟨#[]⟩) ∧ w' = w := Any.strings_Join_none Tryz.lays156 Tryz.Builder_Extra_156 a c sep w
open Go.RowKit in
theorem Tryz.strings_Join (bk o c : Nat) (xs : List ByteArray) (sep : ByteArray) (w : World) (hcells : ∀ (j : Nat) x, xs[j]? = some x → w.cell? ⟨bk, o + j, none⟩ = some (.string x)) (hbk : bk < w.heap.size) (hN : xs.length ≤ 140737488355328) (hcap : xs.length ≤ c) (hlen : (Lib.join (xs.map (·.data.toList)) sep.data.toList).length ≤ 140737488355328) :
    Calls Tryz.prog 59 #[.slice (some ⟨bk, o, none⟩) xs.length c, .string sep] w fun e w' => e = .returned (.string ⟨(Lib.join (xs.map (·.data.toList)) sep.data.toList).toArray⟩) ∧ Below w.heap.size w w' := Any.strings_Join Tryz.lays156 Tryz.Builder_Extra_156 bk o c xs sep w hcells hbk hN hcap hlen
def Tryz.laysM171_ren : Go.Shelf.Ren := ⟨fun | 171 => 77 | 243 => 118 | 246 => 165 | 283 => 200 | 284 => 201 | 285 => 202 | 286 => 203 | 129 => 225 | 317 => 224 | 318 => 226 | 319 => 227 | 320 => 228 | 337 => 239 | 338 => 240 | n => n, fun | 3 => 3 | 9 => 9 | 2 => 2 | 4 => 4 | 171 => 270 | 0 => 0 | 53 => 271 | 37 => 42 | 5 => 5 | 173 => 274 | 212 => 297 | 51 => 298 | 20 => 20 | 213 => 299 | 46 => 165 | 232 => 312 | 233 => 313 | n => n, fun | 17 => 1 | 18 => 2 | 19 => 3 | n => n⟩
theorem Tryz.laysM171 : Go.Proofs.LaysM.n171 Tryz.prog Tryz.laysM171_ren := {
 mixed := by kernel_rfl
 f129 := Tryz.func225.trans (congrArg some (by kernel_rfl))
 f171 := Tryz.func77.trans (congrArg some (by kernel_rfl))
 f243 := Tryz.func118.trans (congrArg some (by kernel_rfl))
 f246 := Tryz.func165.trans (congrArg some (by kernel_rfl))
 f283 := Tryz.func200.trans (congrArg some (by kernel_rfl))
 f284 := Tryz.func201.trans (congrArg some (by kernel_rfl))
 f285 := Tryz.func202.trans (congrArg some (by kernel_rfl))
 f286 := Tryz.func203.trans (congrArg some (by kernel_rfl))
 f317 := Tryz.func224.trans (congrArg some (by kernel_rfl))
 f318 := Tryz.func226.trans (congrArg some (by kernel_rfl))
 f319 := Tryz.func227.trans (congrArg some (by kernel_rfl))
 f320 := Tryz.func228.trans (congrArg some (by kernel_rfl))
 f337 := Tryz.func239.trans (congrArg some (by kernel_rfl))
 f338 := Tryz.func240.trans (congrArg some (by kernel_rfl))
 t0 := Tryz.underlying0
 a0 := Tryz.isAgg0
 z0 := Tryz.sizeOf0
 v0 := Tryz.zeroValue0
 t2 := Tryz.underlying2
 a2 := Tryz.isAgg2
 z2 := Tryz.sizeOf2
 v2 := Tryz.zeroValue2
 t3 := Tryz.underlying3
 a3 := Tryz.isAgg3
 z3 := Tryz.sizeOf3
 v3 := Tryz.zeroValue3
 t4 := Tryz.underlying4
 a4 := Tryz.isAgg4
 z4 := Tryz.sizeOf4
 v4 := Tryz.zeroValue4
 t5 := Tryz.underlying5
 a5 := Tryz.isAgg5
 z5 := Tryz.sizeOf5
 v5 := Tryz.zeroValue5
 t9 := Tryz.underlying9
 a9 := Tryz.isAgg9
 z9 := Tryz.sizeOf9
 v9 := Tryz.zeroValue9
 t20 := Tryz.underlying20
 a20 := Tryz.isAgg20
 z20 := Tryz.sizeOf20
 v20 := Tryz.zeroValue20
 t37 := Tryz.underlying42
 a37 := Tryz.isAgg42
 z37 := Tryz.sizeOf42
 v37 := Tryz.zeroValue42
 t46 := Tryz.underlying165
 a46 := Tryz.isAgg165
 z46 := Tryz.sizeOf165
 v46 := Tryz.zeroValue165
 t51 := Tryz.underlying298
 a51 := Tryz.isAgg298
 z51 := Tryz.sizeOf298
 v51 := Tryz.zeroValue298
 t53 := Tryz.underlying271
 a53 := Tryz.isAgg271
 z53 := Tryz.sizeOf271
 v53 := Tryz.zeroValue271
 t171 := Tryz.underlying270
 a171 := Tryz.isAgg270
 z171 := Tryz.sizeOf270
 v171 := Tryz.zeroValue270
 t173 := Tryz.underlying274
 a173 := Tryz.isAgg274
 z173 := Tryz.sizeOf274
 v173 := Tryz.zeroValue274
 t212 := Tryz.underlying297
 a212 := Tryz.isAgg297
 z212 := Tryz.sizeOf297
 v212 := Tryz.zeroValue297
 t213 := Tryz.underlying299
 a213 := Tryz.isAgg299
 z213 := Tryz.sizeOf299
 t232 := Tryz.underlying312
 a232 := Tryz.isAgg312
 z232 := Tryz.sizeOf312
 v232 := Tryz.zeroValue312
 t233 := Tryz.underlying313
 a233 := Tryz.isAgg313
 z233 := Tryz.sizeOf313
 v233 := Tryz.zeroValue313
 g17 := by kernel_rfl
 g18 := by kernel_rfl
 g19 := by kernel_rfl
 i0 := by kernel_rfl
 i2 := by kernel_rfl
 i3 := by kernel_rfl
 i4 := by kernel_rfl
 i5 := by kernel_rfl
 i9 := by kernel_rfl
 i20 := by kernel_rfl
 i37 := by kernel_rfl
 i46 := by kernel_rfl
 i51 := by kernel_rfl
 i53 := by kernel_rfl
 i171 := by kernel_rfl
 i173 := by kernel_rfl
 i212 := by kernel_rfl
 i232 := by kernel_rfl
 i233 := by kernel_rfl
 m17 := by kernel_rfl
 m18 := by kernel_rfl
 m19 := by kernel_rfl }
open Go.RowKit Go.Sort Go.Lib in
theorem Tryz.strconv_Itoa (n : Int) (h0 : -9223372036854775808 ≤ n) (h1 : n ≤ 9223372036854775807) (w : World) (htab : Lib.TabIs Tryz.prog w "internal/strconv.uint64pow10" .u64 Lib.pow10Tab) :
  Calls Tryz.prog 77 #[.int .i64 n] w fun e w' => e = .returned (.string ⟨(Lib.itoa n).toArray⟩) ∧ ∃ k os, w' = grow (w.drewN k) os := Any.strconv_Itoa Tryz.laysM171 n h0 h1 w htab
def Tryz.laysM316_ren : Go.Shelf.Ren := ⟨fun | 316 => 166 | n => n, fun | 9 => 9 | 3 => 3 | 4 => 4 | 37 => 42 | 0 => 0 | 127 => 201 | 5 => 5 | n => n, fun | n => n⟩
theorem Tryz.laysM316 : Go.Proofs.LaysM.n316 Tryz.prog Tryz.laysM316_ren := {
 mixed := by kernel_rfl
 f316 := Tryz.func166.trans (congrArg some (by kernel_rfl))
 t0 := Tryz.underlying0
 a0 := Tryz.isAgg0
 z0 := Tryz.sizeOf0
 v0 := Tryz.zeroValue0
 t3 := Tryz.underlying3
 a3 := Tryz.isAgg3
 z3 := Tryz.sizeOf3
 v3 := Tryz.zeroValue3
 t4 := Tryz.underlying4
 a4 := Tryz.isAgg4
 z4 := Tryz.sizeOf4
 v4 := Tryz.zeroValue4
 t9 := Tryz.underlying9
 a9 := Tryz.isAgg9
 z9 := Tryz.sizeOf9
 v9 := Tryz.zeroValue9
 t37 := Tryz.underlying42
 a37 := Tryz.isAgg42
 z37 := Tryz.sizeOf42
 v37 := Tryz.zeroValue42
 t127 := Tryz.underlying201
 a127 := Tryz.isAgg201
 z127 := Tryz.sizeOf201
 v127 := Tryz.zeroValue201
 t5 := Tryz.underlying5
 a5 := Tryz.isAgg5
 z5 := Tryz.sizeOf5
 v5 := Tryz.zeroValue5
 i0 := by kernel_rfl
 i3 := by kernel_rfl
 i4 := by kernel_rfl
 i5 := by kernel_rfl
 i9 := by kernel_rfl
 i37 := by kernel_rfl
 i127 := by kernel_rfl }
open Go.RowKit in
theorem Tryz.stringslite_Clone (s : ByteArray) (w : World) (hlim : s.size ≤ 281474976710656) :
    Calls Tryz.prog 166 #[.string s] w fun e w' => e = .returned (.string s) ∧ Below w.heap.size w w' := Any.stringslite_Clone Tryz.laysM316 s w hlim
def Tryz.lays193_ren : Go.Shelf.Ren := ⟨fun | 193 => 125 | n => n, fun | 31 => 22 | 9 => 9 | 4 => 4 | 3 => 3 | 0 => 0 | n => n, fun | n => n⟩
theorem Tryz.lays193 : Go.Proofs.Lays.n193 Tryz.prog Tryz.lays193_ren := {
 mixed := by kernel_rfl
 f193 := Tryz.func125.trans (congrArg some (by kernel_rfl))
 t0 := Tryz.underlying0
 a0 := Tryz.isAgg0
 z0 := Tryz.sizeOf0
 v0 := Tryz.zeroValue0
 t3 := Tryz.underlying3
 a3 := Tryz.isAgg3
 z3 := Tryz.sizeOf3
 v3 := Tryz.zeroValue3
 t4 := Tryz.underlying4
 a4 := Tryz.isAgg4
 z4 := Tryz.sizeOf4
 v4 := Tryz.zeroValue4
 t9 := Tryz.underlying9
 a9 := Tryz.isAgg9
 z9 := Tryz.sizeOf9
 v9 := Tryz.zeroValue9
 t31 := Tryz.underlying22
 a31 := Tryz.isAgg22
 z31 := Tryz.sizeOf22
 v31 := Tryz.zeroValue22 }
open Go.RowKit Go.Lib in
theorem Tryz.slices_Equal_string (b1 o1 n c b2 o2 m d : Nat) (xs ys : List ByteArray) (w : World) (hx : n ≤ xs.length) (hy : m ≤ ys.length) (hbig : n ≤ 9223372036854775807) (hbig2 : m ≤ 9223372036854775807) (hc1 : ∀ j, j < xs.length → w.cell? ⟨b1, o1 + j, none⟩ = some (.string (xs.getD j ByteArray.empty))) (hc2 : ∀ j, j < ys.length → w.cell? ⟨b2, o2 + j, none⟩ = some (.string (ys.getD j ByteArray.empty))) :
    Calls Tryz.prog 125 #[.slice (some ⟨b1, o1, none⟩) n c, .slice (some ⟨b2, o2, none⟩) m d] w fun e w' => e = .returned (.bool (decide (xs.take n = ys.take m))) ∧ ∃ q, w' = w.drewN q := Any.slices_Equal_string Tryz.lays193 b1 o1 n c b2 o2 m d xs ys w hx hy hbig hbig2 hc1 hc2
open Go.RowKit Go.Lib in
theorem Tryz.slices_Equal_string_empty (a1 a2 : Option Addr) (c m d : Nat) (w : World) (hbig2 : m ≤ 9223372036854775807) :
    Calls Tryz.prog 125 #[.slice a1 0 c, .slice a2 m d] w fun e w' => e = .returned (.bool (decide (m = 0))) ∧ w' = w := Any.slices_Equal_string_empty Tryz.lays193 a1 a2 c m d w hbig2
open Go.RowKit Go.Lib in
theorem Tryz.slices_Equal_string_lens (a1 a2 : Option Addr) (n c m d : Nat) (w : World) (hnm : n ≠ m) :
    Calls Tryz.prog 125 #[.slice a1 n c, .slice a2 m d] w fun e w' => e = .returned (.bool false) ∧ w' = w := Any.slices_Equal_string_lens Tryz.lays193 a1 a2 n c m d w hnm
end Go.Proofs
namespace Go.Proofs.YtopeegjmpphjnaaGreatDoor
open Go.RowKit
theorem info5 : (Tryz.prog.info? 5).map (fun i => (i.zero, i.size, i.bytes)) = some (some (.int .u8 0), 1, 1) := by kernel_rfl
theorem clone_any (s : ByteArray) (w : World) (hlim : s.size ≤ 281474976710656) :
    Calls Tryz.prog 120 #[.string s] w fun e w' => e = .returned (.string s) ∧ Below w.heap.size w w' := by
  go_enter Tryz.func120, Tryz.ntmps120
  go_wp2_with (go_at_call 166; refine (Tryz.stringslite_Clone _ _ hlim).mono ?_; rintro e w1 ⟨rfl, hb1⟩)
  go_ret
  exact ⟨rfl, hb1⟩
end Go.Proofs.YtopeegjmpphjnaaGreatDoor
namespace Go.Proofs.YtopeegjmpphjnaaGreatDoor
def dropB : List UInt8 → List UInt8
 | [] => []
 | b :: r => if b.toNat = 32 then dropB r else b :: r
def trimL (l : List UInt8) : List UInt8 := (dropB (dropB l).reverse).reverse
def trimOf (s : Tx) : ByteArray := ⟨(trimL s.data.toList).toArray⟩
theorem dropB_blanks : ∀ (x y : List UInt8), (∀ b ∈ x, b.toNat = 32) → dropB (x ++ y) = dropB y
 | [], _, _ => rfl
 | b :: r, y, h => by
  rw [List.cons_append, dropB, if_pos (h b (by simp))]
  exact dropB_blanks r y (fun c hc => h c (by simp [hc]))
theorem dropB_first (b : UInt8) (r : List UInt8) (h : b.toNat ≠ 32) : dropB (b :: r) = b :: r := by rw [dropB, if_neg h]
structure IsTrim (s : Tx) (a b : Nat) : Prop where
 le : a ≤ b
 size : b ≤ s.size
 lead : ∀ j (h : j < s.size), j < a → (s[j]'h).toNat = 32
 tail : ∀ j (h : j < s.size), b ≤ j → (s[j]'h).toNat = 32
 first : ∀ h : a < s.size, a < b → (s[a]'h).toNat ≠ 32
 last : ∀ h : b - 1 < s.size, a < b → (s[b - 1]'h).toNat ≠ 32
theorem list_cut (l : List UInt8) (a b : Nat) (h : a ≤ b) : l = l.take a ++ ((l.take b).drop a ++ l.drop b) := by
 have h1 : (l.take b).take a = l.take a := by rw [List.take_take, Nat.min_eq_left h]
 have h2 : l.take b = l.take a ++ (l.take b).drop a := by
  have := (List.take_append_drop a (l.take b)).symm
  rw [h1] at this
  exact this
 have h3 := (List.take_append_drop b l).symm
 rw [h2, List.append_assoc] at h3
 exact h3
theorem trimL_mid (x y z : List UInt8) (hx : ∀ b ∈ x, b.toNat = 32) (hz : ∀ b ∈ z, b.toNat = 32) (h0 : ∀ b, y.head? = some b → b.toNat ≠ 32) (h1 : ∀ b, y.getLast? = some b → b.toNat ≠ 32) : trimL (x ++ (y ++ z)) = y := by
 unfold trimL
 rw [dropB_blanks x _ hx]
 cases y with
 | nil =>
  have : dropB ([] ++ z) = [] := by
   have := dropB_blanks z [] hz
   simpa [dropB] using this
  rw [this]; rfl
 | cons b r =>
  rw [List.cons_append, dropB_first b _ (h0 b rfl), ← List.cons_append, List.reverse_append, dropB_blanks _ _ (fun c hc => hz c (by simpa using hc))]
  cases hl : (b :: r).reverse with
  | nil => simp at hl
  | cons c q =>
   have hc : (b :: r).getLast? = some c := by rw [List.getLast?_eq_head?_reverse, hl]; rfl
   rw [dropB_first c q (h1 c hc), ← hl, List.reverse_reverse]
theorem byte_get (s : Tx) (j : Nat) (h : j < s.size) : s.data.toList[j]? = some (s[j]'h) := by
 rw [List.getElem?_eq_getElem (by simpa using h)]
 rfl
theorem trim_eq {s : ByteArray} {a b : Nat} (h : IsTrim s a b) : s.extract a b = trimOf s := by
 have hlen : s.data.toList.length = s.size := by simp
 have hext : (s.extract a b).data.toList = (s.data.toList.take b).drop a := by
  rw [ByteArray.data_extract, Array.toList_extract]
  simp [List.extract, List.drop_take]
 have hcut := list_cut s.data.toList a b h.le
 have hm := trimL_mid (s.data.toList.take a) ((s.data.toList.take b).drop a) (s.data.toList.drop b)
  (fun x hx => by
   obtain ⟨j, hj, rfl⟩ := List.getElem_of_mem hx
   have hj' : j < a ∧ j < s.size := by rw [List.length_take, hlen] at hj; omega
   have := h.lead j hj'.2 hj'.1
   rw [List.getElem_take]; exact this)
  (fun x hx => by
   obtain ⟨j, hj, rfl⟩ := List.getElem_of_mem hx
   have hj' : b + j < s.size := by rw [List.length_drop, hlen] at hj; omega
   have := h.tail (b + j) hj' (by omega)
   rw [List.getElem_drop]; exact this)
  (fun x hx => by
   rw [List.head?_eq_getElem?, List.getElem?_drop, List.getElem?_take] at hx
   split at hx
   ·rename_i hlt
    have ha : a < s.size := by have := h.size; omega
    rw [Nat.add_zero, byte_get s a ha] at hx
    cases hx
    exact h.first ha (by omega)
   · cases hx)
  (fun x hx => by
   rw [List.getLast?_eq_getElem?, List.getElem?_drop, List.getElem?_take, List.length_drop, List.length_take, hlen] at hx
   have hsz := h.size; have hle := h.le
   rw [Nat.min_eq_left hsz] at hx
   split at hx
   ·rename_i hlt
    have e : a + (b - a - 1) = b - 1 := by omega
    have hb : b - 1 < s.size := by omega
    rw [e, byte_get s (b - 1) hb] at hx
    cases hx
    exact h.last hb (by omega)
   · cases hx)
 rw [← hcut] at hm
 apply ByteArray.ext
 unfold trimOf
 rw [hm, ← hext]
theorem trimOf_self {s : ByteArray} (h0 : ∀ h : 0 < s.size, (s[0]'h).toNat ≠ 32) (h1 : ∀ h : s.size - 1 < s.size, (s[s.size - 1]'h).toNat ≠ 32) : trimOf s = s := by
 rw [← trim_eq (s := s) (a := 0) (b := s.size) ⟨Nat.zero_le _, Nat.le_refl _, fun _ _ h => absurd h (by omega), fun _ h h' => absurd h (by omega), fun h _ => h0 h, fun h _ => h1 h⟩]
 apply ByteArray.ext
 simp
end Go.Proofs.YtopeegjmpphjnaaGreatDoor
namespace Go.Proofs.YtopeegjmpphjnaaGreatDoor
open Go.RowKit
open Go.Lib hiding intOf
def TextIs (t : Tx) (w : World) (e : Ending) (w' : World) : Prop := e = .returned (.string t) ∧ Below w.heap.size w w'
theorem TextIs.of {t u : ByteArray} {w w' : World} (h : u = t) (hb : Below w.heap.size w w') : TextIs t w (.returned (.string u)) w' := ⟨by rw [h], hb⟩
theorem specTrim_any (s : Tx) (w : World) (hs : s.size ≤ maxLen) :
  Calls Tryz.prog 132 #[.string s] w fun e w' => TextIs (trimOf s) w e w' := by
 unfold maxLen at hs
 go_enter Tryz.func132, Tryz.ntmps132
 go_wp2
 go_loop [3] (fun i => ∃ k : Nat, k ≤ s.size ∧ i = .int .i64 k ∧ Hid (∀ j (h : j < s.size), j < k → (s[j]'h).toNat = 32)) (fun i => s.size - (intOf i).toNat)
 case atStart => exact ⟨0, Nat.zero_le _, rfl, fun _ _ h => absurd h (by omega)⟩
 case round =>
  obtain ⟨k, hk, rfl, hlead⟩ := hrel
  by_cases hlt : k < s.size
  rotate_left
  ·have hT : Hid (ByteArray.empty = trimOf s) := (show ByteArray.empty = s.extract s.size s.size by simp).trans (trim_eq ⟨Nat.le_refl _, Nat.le_refl _, fun j h _ => hlead.out j h (by omega), fun j h hj => absurd h (by omega), fun h => absurd h (by omega), fun _ h => absurd h (by omega)⟩)
   obtain rfl : k = s.size := by omega
   go_wp2
   go_loop [4] (fun t => t = .int .i64 (s.size : Int)) (fun t => (intOf t).toNat)
   case atStart => exact rfl
   case round =>
    subst hrel
    go_wp2
    go_ret
    exact TextIs.of hT.out (Below.refl _ _)
  by_cases hb : (s[k]'hlt).toNat = 32
  ·have ht2 : (((s[k]'hlt).toNat : Int) == 32) = true := by simp [hb]
   have HB := hid hb
   clear hb
   go_wp2
   go_round
   case rel =>
    refine ⟨k + 1, by omega, by go_num, ?_⟩
    intro j h hj
    by_cases e : j = k
    · subst e; exact HB.out
    exact hlead.out j h (by omega)
   case measure => simp [intOf]; omega
  have ht2 : (((s[k]'hlt).toNat : Int) == 32) = false := by
   rw [beq_eq_false_iff_ne]; omega
  have hfst : Hid ((s[k]'hlt).toNat ≠ 32) := hb
  clear hb
  go_wp2
  go_loop [4] (fun t => ∃ m : Nat, k ≤ m ∧ m < s.size ∧ t = .int .i64 ((m : Int) + 1) ∧ Hid (∀ j (h : j < s.size), m + 1 ≤ j → (s[j]'h).toNat = 32)) (fun t => (intOf t).toNat)
  case atStart => exact ⟨s.size - 1, by omega, by omega, by go_num, fun j h hj => absurd h (by omega)⟩
  case round =>
   obtain ⟨m, hkm, hms, rfl, htl⟩ := hrel
   have hc1 : (k : Int) < (m : Int) + 1 := by omega
   by_cases hb : (s[m]'hms).toNat = 32
   rotate_left
   ·have ht2 : (((s[m]'hms).toNat : Int) == 32) = false := by
     rw [beq_eq_false_iff_ne]; omega
    have hT : Hid (s.extract k (m + 1) = trimOf s) := trim_eq ⟨by omega, by omega, fun j h hj => hlead.out j h hj, fun j h hj => htl.out j h (by omega), fun _ _ => hfst.out, fun _ _ => hb⟩
    clear hb
    go_wp2
    go_ret
    exact TextIs.of hT.out (Below.refl _ _)
   have ht2 : (((s[m]'hms).toNat : Int) == 32) = true := by simp [hb]
   have hkm2 : k < m := by
    rcases Nat.lt_or_ge k m with h | h
    · exact h
    ·exfalso
     have e : m = k := by omega
     subst e
     exact hfst.out hb
   have HB := hid hb
   clear hb
   go_wp2
   go_round
   case rel =>
    refine ⟨m - 1, by omega, by omega, by go_num, ?_⟩
    intro j h hj
    by_cases e : j = m
    · subst e; exact HB.out
    exact htl.out j h (by omega)
   case measure => simp [intOf]
theorem implTrim_any (s : Tx) (w : World) (hs : s.size ≤ 281474976710656) :
  Calls Tryz.prog 231 #[.string s] w fun e w' => TextIs (trimOf s) w e w' := by
 go_enter Tryz.func231, Tryz.ntmps231
 go_wp2
 go_loopw [3] (fun t wr => ∃ pos : Nat, pos ≤ s.size ∧ t = .int .i64 (s.size : Int) ∧ wr.heap[w.heap.size]? = some (.stringIter s pos) ∧ Below w.heap.size w wr ∧ Hid (∀ j (h : j < s.size), j < pos → (s[j]'h).toNat = 32)) (fun _ wr => s.size - wr.iterPos w.heap.size)
 case atStart => exact ⟨0, Nat.zero_le _, rfl, World.iter_heap _ _ _, (Below.refl _ _).alloc (Nat.le_refl _) _, fun _ _ h => absurd h (by omega)⟩
 case round =>
  obtain ⟨k, hk, rfl, hh, hbw, hlead⟩ := hrel
  by_cases hlt : k < s.size
  rotate_left
  ·have hT : Hid (ByteArray.empty = trimOf s) := (show ByteArray.empty = s.extract s.size s.size by simp).trans (trim_eq ⟨Nat.le_refl _, Nat.le_refl _, fun j h _ => hlead.out j h (by omega), fun j h hj => absurd h (by omega), fun h => absurd h (by omega), fun _ h => absurd h (by omega)⟩)
   have hnx := fun ty => run_next_end_at (P := Tryz.prog) wr w.heap.size s k ty hh hlt
   go_wp2
   clear hnx hh
   go_loop [4] (fun t => t = .int .i64 (s.size : Int)) (fun t => (intOf t).toNat)
   case atStart => exact rfl
   case round =>
    subst hrel
    go_wp2_with (go_at_call 120; refine (clone_any _ _ (by simp)).mono ?_; rintro e w2 ⟨rfl, hb2⟩)
    go_ret
    exact TextIs.of hT.out (hbw.trans (hb2.mono hbw.size))
  by_cases hb : (s[k]'hlt).toNat = 32
  ·have hcl : (cls ((s[k]'hlt).toNat : Int) != 4) = false := by rw [hb]; rfl
   have hnx := fun ty => run_next_ascii_at (P := Tryz.prog) wr w.heap.size s k ty hh hlt (by omega)
   have HB := hid hb
   clear hb
   go_wp2_with (go_at_call 205; refine (classOf_any _ _).mono ?_; rintro e w1 ⟨rfl, hb1⟩)
   obtain ⟨h1, h2⟩ := iter_step hh hbw hb1
   refine ⟨⟨k + 1, by omega, rfl, h1, h2, ?_⟩, by rw [iterPos_of h1, iterPos_of hh]; omega⟩
   intro j h hj
   by_cases e : j = k
   · subst e; exact HB.out
   exact hlead.out j h (by omega)
  have hfst : Hid ((s[k]'hlt).toNat ≠ 32) := hb
  have hr32 : ((Utf8.decode s k).1 : Int) ≠ 32 := by
   by_cases ha : (s[k]'hlt).toNat < 128
   · rw [decode_ascii s k hlt ha]; show ((s[k]'hlt).toNat : Int) ≠ 32; omega
   · have := (decode_high s k hlt (by omega)).1; omega
  have hcl : (cls ((Utf8.decode s k).1 : Int) != 4) = true := by
   have := cls_spec ((Utf8.decode s k).1 : Int)
   rw [bne_iff_ne]; omega
  have hnx := fun ty => run_next_any_at (P := Tryz.prog) wr w.heap.size s k ty hh hlt
  clear hb hr32
  go_wp2_with (go_at_call 205; refine (classOf_any _ _).mono ?_; rintro e w1 ⟨rfl, hb1⟩)
  obtain ⟨_, h2⟩ := iter_step hh hbw hb1
  clear hnx hcl hb1 hh hbw
  go_loop [4] (fun t => ∃ m : Nat, k ≤ m ∧ m < s.size ∧ t = .int .i64 ((m : Int) + 1) ∧ Hid (∀ j (h : j < s.size), m + 1 ≤ j → (s[j]'h).toNat = 32)) (fun t => (intOf t).toNat)
  case atStart => exact ⟨s.size - 1, by omega, by omega, by go_num, fun j h hj => absurd h (by omega)⟩
  case round =>
   obtain ⟨m, hkm, hms, rfl, htl⟩ := hrel
   have hc1 : (k : Int) < (m : Int) + 1 := by omega
   by_cases hb : (s[m]'hms).toNat = 32
   rotate_left
   ·have ht2 : (((s[m]'hms).toNat : Int) == 32) = false := by
     rw [beq_eq_false_iff_ne]; omega
    have hT : Hid (s.extract k (m + 1) = trimOf s) := trim_eq ⟨by omega, by omega, fun j h hj => hlead.out j h hj, fun j h hj => htl.out j h (by omega), fun _ _ => hfst.out, fun _ _ => hb⟩
    clear hb
    have hz : (s.extract k (m + 1)).size ≤ 281474976710656 := by simp; omega
    go_wp2_with (go_at_call 120; refine (clone_any _ _ hz).mono ?_; rintro e w2 ⟨rfl, hb2⟩)
    go_ret
    exact TextIs.of hT.out (h2.trans (hb2.mono h2.size))
   have ht2 : (((s[m]'hms).toNat : Int) == 32) = true := by simp [hb]
   have hkm2 : k < m := by
    rcases Nat.lt_or_ge k m with h | h
    · exact h
    ·exfalso
     have e : m = k := by omega
     subst e
     exact hfst.out hb
   have HB := hid hb
   clear hb
   go_wp2
   go_round
   case rel =>
    refine ⟨m - 1, by omega, by omega, by go_num, ?_⟩
    intro j h hj
    by_cases e : j = m
    · subst e; exact HB.out
    exact htl.out j h (by omega)
   case measure => simp [intOf]
def ValOk (s : Tx) : Prop := 1 ≤ s.size ∧ s.size ≤ 60 ∧ AllB ValB s ∧ trimOf s = s
theorem trim_self_iff (s : Tx) (h1 : 1 ≤ s.size) : trimOf s = s ↔ ((s[0]'(by omega)).toNat ≠ 32 ∧ (s[s.size - 1]'(by omega)).toNat ≠ 32) := by
 constructor
 ·intro h
  have hl : trimL s.data.toList = s.data.toList := by
   have := congrArg (fun x : ByteArray => x.data.toList) h
   simpa [trimOf] using this
  have hlen : s.data.toList.length = s.size := by simp
  have key : ∀ l : List UInt8, (dropB l).length ≤ l.length ∧ ((dropB l).length = l.length → ∀ b, l.head? = some b → b.toNat ≠ 32) := by
   intro l
   induction l with
   | nil => simp [dropB]
   | cons b r ih =>
    rw [dropB]
    split
    ·refine ⟨by simp; omega, fun h => ?_⟩
     simp at h; omega
    ·rename_i hb
     refine ⟨by simp, fun _ c hc => ?_⟩
     simp at hc; subst hc; exact hb
  have k1 := key s.data.toList
  have k2 := key (dropB s.data.toList).reverse
  have hL : (dropB (dropB s.data.toList).reverse).length = s.data.toList.length := by
   have := congrArg List.length hl
   simpa [trimL] using this
  rw [List.length_reverse] at k2
  have e1 : (dropB s.data.toList).length = s.data.toList.length := by omega
  have e2 : (dropB (dropB s.data.toList).reverse).length = (dropB s.data.toList).length := by omega
  have hd : dropB s.data.toList = s.data.toList := by
   cases hc : s.data.toList with
   | nil => rfl
   | cons b r =>
    have := k1.2 e1 b (by rw [hc]; rfl)
    exact dropB_first b r this
  refine ⟨?_, ?_⟩
  ·apply k1.2 e1
   rw [List.head?_eq_getElem?, byte_get s 0 (by omega)]
  ·apply k2.2 e2
   rw [hd, ← List.getLast?_eq_head?_reverse, List.getLast?_eq_getElem?, hlen, byte_get s (s.size - 1) (by omega)]
 ·rintro ⟨h0, h2⟩
  exact trimOf_self (fun _ => h0) (fun _ => h2)
theorem text_beq (a b : Tx) : (a.toList == b.toList) = true ↔ a = b := by
 rw [beq_iff_eq, ByteArray.toList_eq, ByteArray.toList_eq]
 exact ⟨fun h => ByteArray.ext (Array.toList_inj.1 h), fun h => by rw [h]⟩
theorem implValueOk_any (s : Tx) (w : World) (hs : s.size ≤ maxLen) :
  Calls Tryz.prog 174 #[.string s] w fun e w' => BoolIs (ValOk s) w e w' := by
 unfold maxLen at hs
 by_cases h1 : (s.size : Int) < 1
 ·go_enter Tryz.func174, Tryz.ntmps174
  go_wp2_with fail
  go_ret
  exact BoolIs.no (by unfold ValOk; omega) (Below.refl _ _)
 by_cases h2 : (60 : Int) < (s.size : Int)
 ·go_enter Tryz.func174, Tryz.ntmps174
  go_wp2_with fail
  go_ret
  exact BoolIs.no (by unfold ValOk; omega) (Below.refl _ _)
 have hti : Hid _ := trim_self_iff s (by omega)
 have hp0 : 0 < s.size := by omega
 by_cases hb : (s[0]'hp0).toNat = 32
 ·have ht : (((s[0]'hp0).toNat : Int) == 32) = true := by simp [hb]
  have HB := hid hb
  clear hb
  go_enter Tryz.func174, Tryz.ntmps174
  go_wp2_with fail
  go_ret
  exact BoolIs.no (fun h => (hti.out.1 h.2.2.2).1 HB.out) (Below.refl _ _)
 have ht : (((s[0]'hp0).toNat : Int) == 32) = false := by
  rw [beq_eq_false_iff_ne]; omega
 obtain ⟨m, hm⟩ : ∃ m, s.size = m + 1 := ⟨s.size - 1, by omega⟩
 have hms : m < s.size := by omega
 have hme : Hid (s.size - 1 = m) := by show s.size - 1 = m; omega
 have hH0 : Hid (¬ (s[0]'hp0).toNat = 32) := hb
 clear hb
 have hm2 : (s.size : Int) - 1 = (m : Int) := by omega
 by_cases hl : (s[m]'hms).toNat = 32
 ·have hN : Hid (¬ ValOk s) := by
   intro h
   have h3 := (hti.out.1 h.2.2.2).2
   simp only [hme.out] at h3
   exact h3 hl
  have ht2 : (((s[m]'hms).toNat : Int) == 32) = true := by simp [hl]
  clear hl hm
  go_enter Tryz.func174, Tryz.ntmps174
  go_wp2_with fail
  go_ret
  exact BoolIs.no hN.out (Below.refl _ _)
 have hY : Hid (AllB ValB s → ValOk s) := by
  intro h
  refine ⟨by omega, by omega, h, hti.out.2 ⟨hH0.out, ?_⟩⟩
  simp only [hme.out]
  exact hl
 have ht2 : (((s[m]'hms).toNat : Int) == 32) = false := by
  rw [beq_eq_false_iff_ne]; omega
 clear hl hm
 go_enter Tryz.func174, Tryz.ntmps174
 go_wp2_with (go_at_call 169; refine (allRunes_val _ _).mono ?_; rintro e w1 ⟨b, rfl, hbt, hb1⟩)
 go_ret
 exact ⟨b, rfl, hbt.trans ⟨hY.out, fun h => h.2.2.1⟩, hb1⟩
theorem specValueOk_any (s : Tx) (w : World) (hs : s.size ≤ maxLen) :
    Calls Tryz.prog 89 #[.string s] w fun e w' => BoolIs (ValOk s) w e w' := by
  have hs0 := hs
  unfold maxLen at hs
  go_enter Tryz.func89, Tryz.ntmps89
  go_wp2
  go_loop [3] (fun i => ∃ k : Nat, k ≤ s.size ∧ i = .int .i64 k ∧ Hid (AllTo ValB s k)) (fun i => s.size - (intOf i).toNat)
  case atStart => exact ⟨0, Nat.zero_le _, rfl, allTo_zero _ _⟩
  case round =>
    obtain ⟨k, hk, rfl, hall⟩ := hrel
    by_cases hlt : k < s.size
    · go_wp2
      all_goals first
        | (go_ret
           have hno : ¬ ValB ((s[k]'hlt).toNat : Int) := by
             unfold ValB
             omega
           exact BoolIs.no (fun h => hno (h.2.2.1 k hlt)) (Below.refl _ _))
        | (go_round
           case rel =>
             have hy : ValB ((s[k]'hlt).toNat : Int) := by
               unfold ValB
               omega
             exact ⟨k + 1, by omega, by go_num, allTo_succ hall.out hlt hy⟩
           case measure => simp [intOf]; omega)
    have hend : Hid (AllB ValB s) := allTo_end hall.out hlt
    by_cases h1 : (1 : Int) ≤ (s.size : Int)
    rotate_left
    · go_wp2_with go_in
      go_ret
      exact BoolIs.no (by unfold ValOk; omega) (Below.refl _ _)
    by_cases h2 : (s.size : Int) ≤ 60
    rotate_left
    · go_wp2_with go_in
      go_ret
      exact BoolIs.no (by unfold ValOk; omega) (Below.refl _ _)
    go_wp2_with (first | (go_at_call 132; refine (specTrim_any _ _ hs0).mono ?_; rintro e w2 ⟨rfl, hb2⟩) | go_in)
    go_ret
    refine ⟨_, rfl, ?_, hb2⟩
    rw [text_beq]
    exact ⟨fun h => ⟨by omega, by omega, hend.out, h⟩, fun h => h.2.2.2⟩
end Go.Proofs.YtopeegjmpphjnaaGreatDoor
namespace Go.Proofs.YtopeegjmpphjnaaGreatDoor
def dgF : Nat → Nat → List UInt8
 | 0, _ => []
 | f + 1, n => if n = 0 then [] else dgF f (n / 10) ++ [UInt8.ofNat (48 + n % 10)]
theorem dgF_zero (f : Nat) : dgF f 0 = [] := by cases f <;> simp [dgF]
theorem dgF_pos (f n : Nat) (h : n ≠ 0) : dgF (f + 1) n = dgF f (n / 10) ++ [UInt8.ofNat (48 + n % 10)] := by simp [dgF, h]
def numL (n : Nat) : List UInt8 := if 1000000 < n then [] else if n = 0 then [48] else dgF 8 n
def numText (n : Nat) : ByteArray := ⟨(numL n).toArray⟩
end Go.Proofs.YtopeegjmpphjnaaGreatDoor
namespace Go.Proofs.YtopeegjmpphjnaaGreatDoor
open Go.RowKit
open Go.Lib hiding intOf
theorem conv_one (W : World) (d : Int) : (convert 42 9 (.slice (some ⟨W.heap.size, 0, none⟩) 1 1)).run Tryz.prog (W.alloc (.cells #[.int .u8 d] 5)) = .ok (.string (strOfNums [d])) (W.alloc (.cells #[.int .u8 d] 5)) :=
 run_convert_bytes_arg (P := Tryz.prog) (W.alloc (.cells #[.int .u8 d] 5)) 42 5 Tryz.underlying42 Tryz.underlying5 W.heap.size 0 1 1 [d] rfl (fun i hi => by
  have : i = 0 := by omega
  subst this
  simp) 9 Tryz.underlying9
theorem specNumText_any (n : Nat) (w : World) (hn : n ≤ 9999999) :
  Calls Tryz.prog 23 #[.int .i64 (n : Int)] w fun e w' => TextIs (numText n) w e w' := by
 by_cases h1 : (n : Int) ≤ 1000000
 rotate_left
 ·go_enter Tryz.func23, Tryz.ntmps23
  go_wp2
  go_ret
  exact TextIs.of (by unfold numText numL; rw [if_pos (by omega)]) (Below.refl _ _)
 by_cases h0 : n = 0
 ·subst h0
  go_enter Tryz.func23, Tryz.ntmps23
  go_wp2
  go_ret
  exact TextIs.of rfl (Below.refl _ _)
 have hne : ((n : Int) == 0) = false := by rw [beq_eq_false_iff_ne]; omega
 have hcv := conv_one
 go_enter Tryz.func23, Tryz.ntmps23
 go_wp2
 go_loopw [0, 3] (fun a b wr => ∃ (f m : Nat) (out : Tx), a = .int .i64 (m : Int) ∧ b = .string out ∧ m ≤ 1000000 ∧ f ≤ 8 ∧ out.size ≤ 8 - f ∧ Below w.heap.size w wr ∧ Hid (m < 10 ^ f ∧ dgF f m ++ out.data.toList = dgF 8 n)) (fun a _ _ => (intOf a).toNat)
 case atStart => exact ⟨8, n, _, rfl, rfl, by omega, Nat.le_refl _, Nat.le_refl _, Below.refl _ _, ⟨by omega, by simp⟩⟩
 case round =>
  obtain ⟨f, m, out, rfl, rfl, hm, hf8, hsz, hbw, hd⟩ := hrel
  by_cases hp : (0 : Int) < (m : Int)
  rotate_left
  ·have hT : Hid (out = numText n) := by
    obtain ⟨_, h⟩ := hd.out
    have e : m = 0 := by omega
    rw [e, dgF_zero, List.nil_append] at h
    show out = numText n
    apply ByteArray.ext
    apply Array.toList_inj.1
    rw [h]
    unfold numText numL
    rw [if_neg (by omega), if_neg h0]
   go_wp2
   go_ret
   exact TextIs.of hT.out hbw
  have hone : ∀ d : Int, (strOfNums [d]).size = 1 := fun d => strOfNums_size [d]
  go_wp2
  go_roundw
  case rel =>
   obtain ⟨hf, hdg⟩ := hd.out
   cases f with
   | zero => simp at hf; omega
   | succ f =>
    rw [Nat.pow_succ] at hf
    refine ⟨f, m / 10, strOfNums [48 + (m : Int) % 10] ++ out, by simp, rfl, by omega, by omega, ?_, hbw.alloc hbw.size _, by omega, ?_⟩
    · rw [ByteArray.size_append, hone]; omega
    ·have e : (strOfNums [48 + (m : Int) % 10]).data.toList = [UInt8.ofNat (48 + m % 10)] := by
      rw [strOfNums_data]
      have : (48 + (m : Int) % 10).toNat = 48 + m % 10 := by omega
      simp only [List.map_cons, List.map_nil, this]
     rw [dgF_pos f m (by omega), List.append_assoc] at hdg
     rw [← hdg, ByteArray.data_append, Array.toList_append, e]
  case measure => simp [intOf]; omega
theorem isEmpty_no {s : ByteArray} (h : 1 ≤ s.size) : s.toList.isEmpty = false := by
 have : s.toList.length = s.size := by rw [ByteArray.toList_eq]; simp
 cases hc : s.toList with
 | nil => rw [hc] at this; simp at this; omega
 | cons _ _ => rfl
theorem isEmpty_yes {s : ByteArray} (h : s.size = 0) : s.toList.isEmpty = true := by
 have : s.toList.length = s.size := by rw [ByteArray.toList_eq]; simp
 rw [h] at this
 rw [List.length_eq_zero_iff.1 this]; rfl
def lowB (n : Int) : Int := if 65 ≤ n ∧ n ≤ 90 then n + 32 else n
def lowXs (s : Tx) : List Int := s.data.toList.map (fun b => lowB (b.toNat : Int))
def lowerOf (s : Tx) : ByteArray := strOfNums (lowXs s)
theorem lowXs_len (s : Tx) : (lowXs s).length = s.size := by simp [lowXs]
theorem lowXs_get (s : Tx) (j : Nat) (h : j < s.size) : (lowXs s).getD j 0 = lowB ((s[j]'h).toNat : Int) := by
 unfold lowXs
 rw [List.getD_eq_getElem?_getD, List.getElem?_map, byte_get s j h]
 rfl
theorem decode_skip (s : Tx) (pos : Nat) (hp : pos < s.size) : pos + (Utf8.decode s pos).2 ≤ s.size ∧ 1 ≤ (Utf8.decode s pos).2 ∧
  ∀ j (h : j < s.size), pos < j → j < pos + (Utf8.decode s pos).2 → 128 ≤ (s[j]'h).toNat := by
 have hg : ∀ k (h : pos + k < s.size), (s.get! (pos + k)).toNat = (s[pos + k]'h).toNat := by
  intro k h
  have : s.get! (pos + k) = s[pos + k]'h := get_at s (pos + k) h
  rw [this]
 have key : ∀ n : Nat, (∀ k, 1 ≤ k → k < n → pos + k < s.size ∧ (s.get! (pos + k)).toNat / 64 = 2) → ∀ j (h : j < s.size), pos < j → j < pos + n → 128 ≤ (s[j]'h).toNat := by
  intro n hn j h h1 h2
  obtain ⟨k, rfl⟩ : ∃ k, j = pos + k := ⟨j - pos, by omega⟩
  have := (hn k (by omega) (by omega)).2
  rw [hg k h] at this
  omega
 have one : ∀ j (h : j < s.size), pos < j → j < pos + 1 → 128 ≤ (s[j]'h).toNat := fun j _ h1 h2 => absurd h1 (by omega)
 simp only [Utf8.decode]
 split
 · exact ⟨by omega, by omega, one⟩
 ·split
  ·rename_i h2
   simp only [Bool.and_eq_true, beq_iff_eq, decide_eq_true_eq] at h2
   split
   ·exact ⟨by dsimp only; omega, by dsimp only; omega, key 2 (fun k a b => by
     obtain rfl : k = 1 := by omega
     exact h2.2)⟩
   · exact ⟨by dsimp only; omega, by dsimp only; omega, one⟩
  ·split
   ·rename_i h3
    simp only [Bool.and_eq_true, beq_iff_eq, decide_eq_true_eq] at h3
    split
    ·exact ⟨by dsimp only; omega, by dsimp only; omega, key 3 (fun k a b => by
      rcases (by omega : k = 1 ∨ k = 2) with rfl | rfl
      · exact h3.1.2
      · exact h3.2)⟩
    · exact ⟨by dsimp only; omega, by dsimp only; omega, one⟩
   ·split
    ·rename_i h4
     simp only [Bool.and_eq_true, beq_iff_eq, decide_eq_true_eq] at h4
     split
     ·exact ⟨by dsimp only; omega, by dsimp only; omega, key 4 (fun k a b => by
       rcases (by omega : k = 1 ∨ k = 2 ∨ k = 3) with rfl | rfl | rfl
       · exact h4.1.1.2
       · exact h4.1.2
       · exact h4.2)⟩
     · exact ⟨by dsimp only; omega, by dsimp only; omega, one⟩
    · exact ⟨by dsimp only; omega, by dsimp only; omega, one⟩
def lowAt (s : Tx) (pos j : Nat) : Int := if j < pos then (lowXs s).getD j 0 else ((s.data.toList.getD j 0).toNat : Int)
theorem lowAt_zero (s : Tx) (j : Nat) : lowAt s 0 j = ((s.data.toList.getD j 0).toNat : Int) := by simp [lowAt]
theorem getD_byte (s : Tx) (j : Nat) (h : j < s.size) : s.data.toList.getD j 0 = s[j]'h := by
 rw [List.getD_eq_getElem?_getD, byte_get s j h]; rfl
theorem lowAt_end (s : Tx) (pos j : Nat) (hp : ¬ pos < s.size) (hj : j < s.size) : lowAt s pos j = (lowXs s).getD j 0 := by
 unfold lowAt; rw [if_pos (by omega)]
theorem lowAt_here (s : Tx) (pos : Nat) (h : pos < s.size) : lowAt s pos pos = ((s[pos]'h).toNat : Int) := by
 unfold lowAt; rw [if_neg (by omega), getD_byte s pos h]
theorem lowAt_skip (s : Tx) (pos q : Nat) (hpq : pos ≤ q) (hn : ∀ j (h : j < s.size), pos ≤ j → j < q → ¬ (65 ≤ (s[j]'h).toNat ∧ (s[j]'h).toNat ≤ 90)) (j : Nat) (hj : j < s.size) : lowAt s q j = lowAt s pos j := by
 unfold lowAt
 by_cases h1 : j < pos
 · rw [if_pos h1, if_pos (by omega)]
 rw [if_neg h1]
 by_cases h2 : j < q
 rotate_left
 · rw [if_neg h2]
 rw [if_pos h2, lowXs_get s j hj, getD_byte s j hj]
 have := hn j hj (by omega) h2
 unfold lowB
 rw [if_neg (by omega)]
theorem lowAt_hit (s : Tx) (pos : Nat) (h : pos < s.size) (hu : 65 ≤ (s[pos]'h).toNat ∧ (s[pos]'h).toNat ≤ 90) : lowAt s (pos + 1) pos = ((s[pos]'h).toNat : Int) + 32 := by
 unfold lowAt
 rw [if_pos (by omega), lowXs_get s pos h]
 unfold lowB
 rw [if_pos (by omega)]
theorem lowAt_other (s : Tx) (pos j : Nat) (h : j ≠ pos) : lowAt s (pos + 1) j = lowAt s pos j := by
 unfold lowAt
 by_cases h1 : j < pos
 · rw [if_pos h1, if_pos (by omega)]
 rw [if_neg h1, if_neg (by omega)]
theorem iter_step_at {w wr w1 : World} {B k : Nat} {s : ByteArray} {pos p1 : Nat} (hB : B ≤ k) (hh : wr.heap[k]? = some (.stringIter s pos)) (hbw : Below B w wr)
  (hb1 : Below (wr.iterAt k s p1).heap.size (wr.iterAt k s p1) w1) : w1.heap[k]? = some (.stringIter s p1) ∧ Below B w w1 ∧ ∀ j, j ≠ k → j < wr.heap.size → w1.heap[j]? = wr.heap[j]? := by
 have hlt : k < wr.heap.size := (blt hh)
 refine ⟨?_, ?_, ?_⟩
 ·rw [hb1.block _ (by rw [iterAt_size]; exact hlt)]
  exact iterAt_heap _ _ _ _ _ hh
 · exact (below_iterAt hbw hB s p1).trans (hb1.mono (by rw [iterAt_size]; omega))
 ·intro j hj hjl
  rw [hb1.block _ (by rw [iterAt_size]; exact hjl)]
  exact iterAt_other _ _ _ _ _ hj
theorem implLower_any (s : Tx) (w : World) :
  Calls Tryz.prog 172 #[.string s] w fun e w' => TextIs (lowerOf s) w e w' := by
 obtain ⟨W0, cap, hcv, hsz, hcells, hfz, hbel⟩ : ∃ (W0 : World) (cap : Nat), (convert 9 42 (.string s)).run Tryz.prog w = .ok (.slice (some ⟨w.heap.size, 0, none⟩) s.size cap) W0 ∧ W0.heap.size = w.heap.size + 1 ∧
   Hid (∀ j, j < s.size → W0.cell? ⟨w.heap.size, j, none⟩ = some (.int .u8 (lowAt s 0 j))) ∧ Hid (∀ j, j < s.size → W0.frozen? ⟨w.heap.size, j, none⟩ = false) ∧ Below w.heap.size w W0 := by
  refine ⟨_, _, Lib.run_convert_string_bytes (P := Tryz.prog) w 9 42 5 s Tryz.underlying9 Tryz.underlying42 Tryz.underlying5, bytesWorld_size _ _ _, ?_, ?_, ?_⟩
  · intro j hj; rw [lowAt_zero]; exact bytesWorld_cell w 5 s j hj
  ·intro j hj
   have hle : s.size ≤ (bytesCells w 5 s).size := by simp [bytesCells]
   simp [World.frozen?, bytesWorld_at_new]
   omega
  · exact ⟨rfl, rfl, rfl, by rw [bytesWorld_size]; omega, fun k hk => bytesWorld_at_old w 5 s k hk⟩
 go_enter Tryz.func172, Tryz.ntmps172
 go_wp2
 go_loopw [4] (fun _ wr => ∃ pos : Nat, pos ≤ s.size ∧ wr.heap[w.heap.size + 1]? = some (.stringIter s pos) ∧ Below w.heap.size w wr ∧ Hid (∀ j, j < s.size → wr.cell? ⟨w.heap.size, j, none⟩ = some (.int .u8 (lowAt s pos j))) ∧ Hid (∀ j, j < s.size → wr.frozen? ⟨w.heap.size, j, none⟩ = false)) (fun _ wr => s.size - wr.iterPos (w.heap.size + 1))
 case atStart =>
  refine ⟨0, Nat.zero_le _, ?_, ?_, ?_, ?_⟩
  · rw [← hsz]; exact World.iter_heap _ _ _
  · exact hbel.alloc (by omega) _
  · intro j hj; rw [← hcells.out j hj]; exact World.cell?_alloc_lt _ _ _ (by simp; omega)
  · intro j hj; rw [← hfz.out j hj]; exact World.frozen?_alloc_old _ _ _ (by simp; omega)
 case round =>
  clear hcells hfz
  obtain ⟨pos, hpos, hh, hbw, hcells, hfz⟩ := hrel
  by_cases hp : pos < s.size
  rotate_left
  ·have hnx := fun ty => run_next_end_at (P := Tryz.prog) wr (w.heap.size + 1) s pos ty hh hp
   have hback := run_convert_bytes_arg (P := Tryz.prog) wr 42 5 Tryz.underlying42 Tryz.underlying5 w.heap.size 0 s.size cap (lowXs s) (lowXs_len s) (fun i hi => by
    rw [Nat.zero_add, hcells.out i hi, lowAt_end s pos i hp hi]) 9 Tryz.underlying9
   go_wp2
   go_ret
   exact TextIs.of rfl hbw
  by_cases hu : 65 ≤ (s[pos]'hp).toNat ∧ (s[pos]'hp).toNat ≤ 90
  rotate_left
  ·have hnx := fun ty => run_next_any_at (P := Tryz.prog) wr (w.heap.size + 1) s pos ty hh hp
   obtain ⟨d1, d2, d3⟩ := decode_skip s pos hp
   have hcl : (cls ((Utf8.decode s pos).1 : Int) == 0) = false := by
    have := cls_spec ((Utf8.decode s pos).1 : Int)
    rw [beq_eq_false_iff_ne]
    by_cases ha : (s[pos]'hp).toNat < 128
    ·rw [decode_ascii s pos hp ha] at this ⊢
     dsimp only at this ⊢
     omega
    ·have := (decode_high s pos hp (by omega)).1
     omega
   have hsk : ∀ j, j < s.size → lowAt s (pos + (Utf8.decode s pos).2) j = lowAt s pos j := fun j hj => lowAt_skip s pos _ (by omega) (fun i hi h1 h2 => by
    by_cases e : i = pos
    · subst e; exact hu
    · have := d3 i hi (by omega) h2; omega) j hj
   have HS := hid hsk
   have hNw : w.heap.size < wr.heap.size := by
    have := (blt hh)
    omega
   clear hu d3 hsk
   go_wp2_with (go_at_call 205; refine (classOf_any _ _).mono ?_; rintro e w1 ⟨rfl, hb1⟩)
   obtain ⟨p1, p2, p3⟩ := iter_step_at (by omega) hh hbw hb1
   have hblk : w1.heap[w.heap.size]? = wr.heap[w.heap.size]? := p3 _ (by omega) hNw
   refine ⟨⟨_, d1, p1, p2, ?_, ?_⟩, by rw [iterPos_of p1, iterPos_of hh]; omega⟩
   ·intro j hj
    rw [World.cell?_of_block (w := wr) hblk, HS.out j hj]; exact hcells.out j hj
   ·intro j hj
    rw [World.frozen?_of_block (w := wr) hblk]; exact hfz.out j hj
  have hnx := fun ty => run_next_ascii_at (P := Tryz.prog) wr (w.heap.size + 1) s pos ty hh hp (by omega)
  have hcl : (cls ((s[pos]'hp).toNat : Int) == 0) = true := by
   have := cls_spec ((s[pos]'hp).toNat : Int)
   rw [beq_iff_eq]; omega
  have hu1 : (65 : Int) ≤ ((s[pos]'hp).toNat : Int) := by omega
  have hu2 : ((s[pos]'hp).toNat : Int) ≤ 90 := by omega
  have HU := hid hu
  clear hu
  have hNw : w.heap.size < wr.heap.size := by
   have := (blt hh)
   omega
  go_wp2_with fail
  refine (classOf_any _ _).mono ?_
  rintro e w1 ⟨rfl, hb1⟩
  obtain ⟨p1, p2, p3⟩ := iter_step_at (by omega) hh hbw hb1
  have hblk : w1.heap[w.heap.size]? = wr.heap[w.heap.size]? := p3 _ (by omega) hNw
  have hc1 : w1.cell? ⟨w.heap.size, pos, none⟩ = some (.int .u8 ((s[pos]'hp).toNat : Int)) := by
   rw [World.cell?_of_block (w := wr) hblk, hcells.out pos hp, lowAt_here s pos hp]
  have hf1 : w1.frozen? ⟨w.heap.size, pos, none⟩ = false := by
   rw [World.frozen?_of_block (w := wr) hblk]; exact hfz.out pos hp
  have HB := hid hblk
  have H1 : Hid (w1.heap[w.heap.size + 1]? = some (.stringIter s (pos + 1))) := p1
  have HH := hid hh
  clear hblk p3 hb1 hnx hh p1
  go_wp2
  have hit2 : (w1.setCell ⟨w.heap.size, pos, none⟩ (.int .u8 (((s[pos]'hp).toNat : Int) + 32))).heap[w.heap.size + 1]? = some (.stringIter s (pos + 1)) := by
   rw [Below.heap_setCell _ _ _ _ (by simp)]; exact H1.out
  refine ⟨⟨pos + 1, by omega, hit2, p2.setCell (Nat.le_refl _) _, ?_, ?_⟩, by rw [iterPos_of hit2, iterPos_of HH.out]; omega⟩
  ·intro j hj
   by_cases e : j = pos
   ·subst e
    rw [World.cell?_setCell_same _ _ _ hc1, lowAt_hit s j hp HU.out]
   rw [World.cell?_setCell_other (h := fun h => e (by cases h; rfl)), World.cell?_of_block (w := wr) HB.out, lowAt_other s pos j e]
   exact hcells.out j hj
  ·intro j hj
   rw [World.frozen?_setCell, World.frozen?_of_block (w := wr) HB.out]; exact hfz.out j hj
def lowVs (s : Tx) (k : Nat) : List Value := ((lowXs s).take k).map (Value.int .u8)
theorem lowVs_succ (s : Tx) (k : Nat) (h : k < s.size) : lowVs s (k + 1) = lowVs s k ++ [Value.int .u8 (lowB ((s[k]'h).toNat : Int))] := by
 have hl : k < (lowXs s).length := by rw [lowXs_len]; exact h
 unfold lowVs
 rw [List.take_succ_eq_append_getElem hl, List.map_append]
 have := lowXs_get s k h
 rw [List.getD_eq_getElem?_getD, List.getElem?_eq_getElem hl] at this
 simp at this
 simp [this]
theorem lowVs_end (s : Tx) (k : Nat) (h : ¬ k < s.size) : lowVs s k = (lowXs s).map (Value.int .u8) := by
 unfold lowVs; rw [List.take_of_length_le (by rw [lowXs_len]; omega)]
theorem owns_ge {w : World} {base : Nat} {e : TypeId} {size : Nat} {v : Value} {n g : Nat} {xs : List Value} (h : w.ownsRow base e size v n xs) (hg : v.ownBlock = some g) : base ≤ g := by
 rcases h.2 with ⟨rfl, _⟩ | ⟨g', cap, cur, rfl, hb, _⟩
 · simp [Value.ownBlock] at hg
 · simp [Value.ownBlock] at hg; omega
theorem one_byte (V : Int) : ∀ u ∈ [Value.int .u8 V], u.oneCell' = true := by intro u hu; simp at hu; subst hu; rfl
theorem conv_owned {w : World} {base n : Nat} {v : Value} {xs : List Int} (h : w.ownsRow base 5 1 v n (xs.map (Value.int .u8))) : (convert 42 9 v).run Tryz.prog w = .ok (.string (strOfNums xs)) w := by
 obtain ⟨hl, hv⟩ := h
 simp at hl
 rcases hv with ⟨rfl, h0⟩ | ⟨g, cap, cur, rfl, _, hg, hn, _, hcs, htk⟩
 ·have : xs = [] := List.length_eq_zero_iff.1 (by omega)
  subst this
  exact run_convert_bytes_nil (P := Tryz.prog) w 42 5 Tryz.underlying42 Tryz.underlying5 0 0 9 Tryz.underlying9
 ·refine run_convert_bytes_arg (P := Tryz.prog) w 42 5 Tryz.underlying42 Tryz.underlying5 g 0 n cap xs hl (fun i hi => ?_) 9 Tryz.underlying9
  have h1 : (cur.toList.take (n * 1))[i]? = some (.int .u8 (xs.getD i 0)) := by
   rw [htk, List.getElem?_map, List.getD_eq_getElem?_getD, List.getElem?_eq_getElem (by omega)]
   simp
  rw [List.getElem?_take, if_pos (by omega)] at h1
  simp only [World.cell?, hg, Nat.zero_add]
  simpa using h1
theorem specLower_any (s : Tx) (w : World) (hs : s.size ≤ 1048576) :
  Calls Tryz.prog 135 #[.string s] w fun e w' => TextIs (lowerOf s) w e w' := by
 obtain ⟨i0, hi, hz0, hz1, hz2⟩ := info_parts info5
 go_enter Tryz.func135, Tryz.ntmps135
 go_wp2
 go_loopw [3, 4] (fun v i wr => ∃ k : Nat, k ≤ s.size ∧ i = .int .i64 k ∧ wr.ownsRow w.heap.size 5 1 v k (lowVs s k) ∧ Below w.heap.size w wr) (fun _ i _ => s.size - (intOf i).toNat)
 case atStart => exact ⟨0, Nat.zero_le _, rfl, ⟨by simp [lowVs], .inr ⟨w.heap.size, 0, #[], rfl, Nat.le_refl _, heap_alloc_new w _, Nat.le_refl _, Nat.zero_le _, rfl, rfl⟩⟩, (Below.refl _ _).alloc (Nat.le_refl _) _⟩
 case round =>
  obtain ⟨k, hk, rfl, hown, hbw⟩ := hrel
  by_cases hlt : k < s.size
  rotate_left
  ·have hcv := conv_owned (by rw [lowVs_end s k hlt] at hown; exact hown)
   go_wp2
   go_ret
   exact TextIs.of rfl hbw
  have hb := (s[k]'hlt).toNat_lt
  have HST : Hid _ := lowVs_succ s k hlt
  have h63 : k + 1 ≤ maxLen := by unfold maxLen; omega
  have h47 : (k + 1) * 1 ≤ 140737488355328 := by omega
  have HBS : ∀ o, w.heap.size ≤ (wr.alloc o).heap.size := fun o => by have := hbw.size; simp; omega
  by_cases hu : (65 : Int) ≤ ((s[k]'hlt).toNat : Int) ∧ ((s[k]'hlt).toNat : Int) ≤ 90
  ·have hV : Hid (((s[k]'hlt).toNat : Int) + 32 = lowB ((s[k]'hlt).toNat : Int)) := by show _ = _; unfold lowB; rw [if_pos hu]
   obtain ⟨hu1, hu2⟩ := hu
   go_wp2_with (at_builtin; refine wpList_append_own _ rfl _ _ 42 rfl w.heap.size 5 i0 (.int .u8 0) 1 1 Tryz.underlying42 hi hz0 hz1 hz2 rfl (by decide) _ _ _ rfl (hown.alloc _) ⟨wr.heap.size, 0, none⟩ 1 1 [.int .u8 (((s[k]'hlt).toNat : Int) + 32)] rfl rfl (cell_one_new _ _ _) (one_byte _) h63 h47 (HBS _) ?_)
   intro v1 w1 hown1 hgrow _
   have hb2 : Below w.heap.size w w1 := (hbw.alloc hbw.size _).grown hgrow (by have := hbw.size; simp; omega) (fun g hg => owns_ge hown hg)
   rw [hV.out, ← HST.out] at hown1
   clear hgrow hown hbw
   go_wp2
   go_roundw
   case rel => exact ⟨k + 1, by omega, by go_num, hown1, hb2⟩
   case measure => simp [intOf]; omega
  have hV : Hid (((s[k]'hlt).toNat : Int) = lowB ((s[k]'hlt).toNat : Int)) := by show _ = _; unfold lowB; rw [if_neg hu]
  have hcase : ((s[k]'hlt).toNat : Int) < 65 ∨ (65 : Int) ≤ ((s[k]'hlt).toNat : Int) ∧ (90 : Int) < ((s[k]'hlt).toNat : Int) := by omega
  clear hu
  rcases hcase with hc | ⟨hc, hc2⟩
  ·go_wp2_with (at_builtin; refine wpList_append_own _ rfl _ _ 42 rfl w.heap.size 5 i0 (.int .u8 0) 1 1 Tryz.underlying42 hi hz0 hz1 hz2 rfl (by decide) _ _ _ rfl (hown.alloc _) ⟨wr.heap.size, 0, none⟩ 1 1 [.int .u8 ((s[k]'hlt).toNat : Int)] rfl rfl (cell_one_new _ _ _) (one_byte _) h63 h47 (HBS _) ?_)
   intro v1 w1 hown1 hgrow _
   have hb2 : Below w.heap.size w w1 := (hbw.alloc hbw.size _).grown hgrow (by have := hbw.size; simp; omega) (fun g hg => owns_ge hown hg)
   have hown2 : w1.ownsRow w.heap.size 5 1 v1 (k + 1) (lowVs s (k + 1)) := by rw [HST.out, ← hV.out]; exact hown1
   clear hown1
   clear hgrow hown hbw
   go_wp2
   go_roundw
   case rel => exact ⟨k + 1, by omega, by go_num, hown2, hb2⟩
   case measure => simp [intOf]; omega
  ·go_wp2_with (at_builtin; refine wpList_append_own _ rfl _ _ 42 rfl w.heap.size 5 i0 (.int .u8 0) 1 1 Tryz.underlying42 hi hz0 hz1 hz2 rfl (by decide) _ _ _ rfl (hown.alloc _) ⟨wr.heap.size, 0, none⟩ 1 1 [.int .u8 ((s[k]'hlt).toNat : Int)] rfl rfl (cell_one_new _ _ _) (one_byte _) h63 h47 (HBS _) ?_)
   intro v1 w1 hown1 hgrow _
   have hb2 : Below w.heap.size w w1 := (hbw.alloc hbw.size _).grown hgrow (by have := hbw.size; simp; omega) (fun g hg => owns_ge hown hg)
   have hown2 : w1.ownsRow w.heap.size 5 1 v1 (k + 1) (lowVs s (k + 1)) := by rw [HST.out, ← hV.out]; exact hown1
   clear hown1
   clear hgrow hown hbw
   go_wp2
   go_roundw
   case rel => exact ⟨k + 1, by omega, by go_num, hown2, hb2⟩
   case measure => simp [intOf]; omega
def addPart (l : Ts) (t : Tx) : Ts := if t.size = 0 then l else l ++ [t]
def splitTo (s : Tx) : Nat → Ts × Nat
 | 0 => ([], 0)
 | k + 1 => if (s.data.toList.getD k 0).toNat = 44 then (addPart (splitTo s k).1 (trimOf (s.extract (splitTo s k).2 k)), k + 1) else splitTo s k
def splitL (s : Tx) : Ts := addPart (splitTo s s.size).1 (trimOf (s.extract (splitTo s s.size).2 s.size))
theorem addPart_len (l : Ts) (t : Tx) : (addPart l t).length ≤ l.length + 1 := by
 unfold addPart; split <;> simp
theorem splitTo_le (s : Tx) : ∀ k, (splitTo s k).2 ≤ k ∧ (splitTo s k).1.length ≤ k := by
 intro k
 induction k with
 | zero => simp [splitTo]
 | succ k ih =>
  rw [splitTo]
  split
  ·have := addPart_len (splitTo s k).1 (trimOf (s.extract (splitTo s k).2 k))
   dsimp only; omega
  · omega
theorem splitTo_comma (s : Tx) (k : Nat) (h : k < s.size) (hc : (s[k]'h).toNat = 44) : splitTo s (k + 1) = (addPart (splitTo s k).1 (trimOf (s.extract (splitTo s k).2 k)), k + 1) := by
 rw [splitTo, getD_byte s k h, if_pos hc]
theorem splitTo_other (s : Tx) (k : Nat) (h : k < s.size) (hc : (s[k]'h).toNat ≠ 44) : splitTo s (k + 1) = splitTo s k := by
 rw [splitTo, getD_byte s k h, if_neg hc]
theorem splitTo_skip (s : Tx) (k : Nat) : ∀ d, k + d ≤ s.size → (∀ j (h : j < s.size), k ≤ j → j < k + d → (s[j]'h).toNat ≠ 44) → splitTo s (k + d) = splitTo s k := by
 intro d
 induction d with
 | zero => intro _ _; rfl
 | succ d ih =>
  intro hd hn
  rw [show k + (d + 1) = (k + d) + 1 by omega, splitTo_other s (k + d) (by omega) (hn _ _ (by omega) (by omega))]
  exact ih (by omega) (fun j h h1 h2 => hn j h h1 (by omega))
def RowIs (base : Nat) (xs : Ts) (w : World) (e : Ending) (w' : World) : Prop :=
 ∃ v, e = .returned v ∧ w'.ownsRow base 9 1 v xs.length (xs.map Value.string) ∧ Below base w w'
theorem RowIs.of {base : Nat} {xs ys : Ts} {w w' : World} {v : Value} {n : Nat} (h : ys = xs) (hn : n = ys.length) (hown : w'.ownsRow base 9 1 v n (ys.map Value.string)) (hb : Below base w w') : RowIs base xs w (.returned v) w' := by
 subst h; subst hn; exact ⟨v, rfl, hown, hb⟩
theorem owns_below {w w' : World} {base B : Nat} {e : TypeId} {size : Nat} {v : Value} {n : Nat} {xs : List Value} (h : w.ownsRow base e size v n xs) (hb : Below B w w') (hB : ∀ g, v.ownBlock = some g → g < B) : w'.ownsRow base e size v n xs := by
 refine ⟨h.1, ?_⟩
 rcases h.2 with h2 | ⟨g, cap, cur, rfl, h3, h4, h5⟩
 · exact .inl h2
 · exact .inr ⟨g, cap, cur, rfl, h3, by rw [hb.block g (hB g rfl)]; exact h4, h5⟩
theorem owns_lt {w : World} {base : Nat} {e : TypeId} {size : Nat} {v : Value} {n g : Nat} {xs : List Value} (h : w.ownsRow base e size v n xs) (hg : v.ownBlock = some g) : g < w.heap.size := by
 rcases h.2 with ⟨rfl, _⟩ | ⟨g', cap, cur, rfl, hb, hh, _⟩
 · simp [Value.ownBlock] at hg
 ·simp [Value.ownBlock] at hg
  subst hg
  exact (blt hh)
theorem owns_base {w : World} {base b : Nat} {e : TypeId} {size : Nat} {v : Value} {n : Nat} {xs : List Value} (h : w.ownsRow base e size v n xs) (hb : b ≤ base) : w.ownsRow b e size v n xs := by
 refine ⟨h.1, ?_⟩
 rcases h.2 with h2 | ⟨g, cap, cur, h3, h4, h5⟩
 · exact .inl h2
 · exact .inr ⟨g, cap, cur, h3, by omega, h5⟩
theorem one_text (t : Tx) : ∀ u ∈ [Value.string t], u.oneCell' = true := by intro u hu; simp at hu; subst hu; rfl
theorem info9 : (Tryz.prog.info? 9).map (fun i => (i.zero, i.size, i.bytes)) = some (some (.string ⟨#[]⟩), 1, 16) := by kernel_rfl
theorem addPart_no {l : Ts} {t : ByteArray} (h : t.toList.isEmpty = true) : addPart l t = l := by
 unfold addPart
 have : t.size = 0 := by
  rw [ByteArray.toList_eq] at h
  have := List.isEmpty_iff.1 h
  have h2 : t.data.toList.length = t.size := by simp
  rw [this] at h2; simpa using h2.symm
 rw [if_pos this]
theorem addPart_yes {l : Ts} {t : ByteArray} (h : t.toList.isEmpty = false) : addPart l t = l ++ [t] := by
 unfold addPart
 have : t.size ≠ 0 := by
  intro hc
  rw [isEmpty_yes hc] at h; cases h
 rw [if_neg this]
theorem appendPart_any (base : Nat) (v : Value) (n : Nat) (xs : Ts) (raw : Tx) (w : World) (hx : n = xs.length) (hown : w.ownsRow base 9 1 v n (xs.map Value.string)) (hbase : base ≤ w.heap.size) (hn : n ≤ 1048577) (hraw : raw.size ≤ 281474976710656) :
  Calls Tryz.prog 206 #[v, .string raw] w fun e w' => RowIs base (addPart xs (trimOf raw)) w e w' := by
 obtain ⟨i0, hi, hz0, hz1, hz2⟩ := info_parts info9
 have h63 : n + 1 ≤ maxLen := by unfold maxLen; omega
 have h47 : (n + 1) * 16 ≤ 140737488355328 := by omega
 have HX := hid hx
 clear hx
 cases he : (trimOf raw).toList.isEmpty
 ·have HE : Hid _ := addPart_yes (l := xs) he
  go_enter Tryz.func206, Tryz.ntmps206
  go_wp2_with fail
  refine (implTrim_any _ _ hraw).mono ?_
  rintro e w1 ⟨rfl, hb1⟩
  have hown1 := owns_below hown hb1 (fun g hg => owns_lt hown hg)
  have HBS : ∀ o, base ≤ (w1.alloc o).heap.size := fun o => by have := hb1.size; simp; omega
  go_wp2_with (at_builtin; refine wpList_append_own _ rfl _ _ 22 rfl base 9 i0 (.string ⟨#[]⟩) 1 16 Tryz.underlying22 hi hz0 hz1 hz2 rfl (by decide) _ _ _ rfl (hown1.alloc _) ⟨w1.heap.size, 0, none⟩ 1 1 [.string (trimOf raw)] rfl rfl (cell_one_new _ _ _) (one_text _) h63 h47 (HBS _) ?_)
  intro v1 w2 hown2 hgrow _
  have hb2 : Below base w w2 := (((hb1.mono hbase).alloc (Nat.le_trans hbase hb1.size) _).grown hgrow (HBS _) (fun g hg => owns_ge hown hg))
  clear hown hown1 HBS hgrow
  go_wp2
  go_ret
  refine RowIs.of (n := n + 1) (ys := xs ++ [trimOf raw]) HE.out.symm (by rw [HX.out]; simp) (by simpa using hown2) hb2
 ·have HE : Hid _ := addPart_no (l := xs) he
  go_enter Tryz.func206, Tryz.ntmps206
  go_wp2_with (go_at_call 231; refine (implTrim_any _ _ hraw).mono ?_; rintro e w1 ⟨rfl, hb1⟩)
  go_ret
  exact RowIs.of (ys := xs) HE.out.symm HX.out (owns_below hown hb1 (fun g hg => owns_lt hown hg)) (hb1.mono hbase)
theorem implSplit_any (s : Tx) (w : World) (hs : s.size ≤ 1048576) :
  Calls Tryz.prog 171 #[.string s] w fun e w' => RowIs w.heap.size (splitL s) w e w' := by
 go_enter Tryz.func171, Tryz.ntmps171
 go_wp2
 go_loopw [3, 4] (fun v i wr => ∃ pos f : Nat, pos ≤ s.size ∧ f ≤ pos ∧ i = .int .i64 (f : Int) ∧ wr.heap[w.heap.size]? = some (.stringIter s pos) ∧ Below w.heap.size w wr ∧
   Hid (f = (splitTo s pos).2) ∧ wr.ownsRow (w.heap.size + 1) 9 1 v (splitTo s pos).1.length ((splitTo s pos).1.map Value.string)) (fun _ _ wr => s.size - wr.iterPos w.heap.size)
 case atStart => exact ⟨0, 0, Nat.zero_le _, Nat.le_refl _, rfl, World.iter_heap _ _ _, (Below.refl _ _).alloc (Nat.le_refl _) _, rfl, World.ownsRow_nil _ _ _ _⟩
 case round =>
  obtain ⟨pos, f, hpos, hfp, rfl, hh, hbw, hf, hown⟩ := hrel
  have hlp := splitTo_le s pos
  have hNw : w.heap.size < wr.heap.size := (blt hh)
  by_cases hp : pos < s.size
  rotate_left
  ·have hnx := fun ty => run_next_end_at (P := Tryz.prog) wr w.heap.size s pos ty hh hp
   have hsp : pos = s.size := by omega
   have HL : Hid (addPart (splitTo s pos).1 (trimOf (s.extract f s.size)) = splitL s) := by
    show _ = _
    unfold splitL; rw [hf.out, hsp]
   clear hsp
   go_wp2_with fail
   refine (appendPart_any (w.heap.size + 1) _ _ _ _ _ rfl hown (by omega) (by omega) (by simp; omega)).mono ?_
   rintro e w2 ⟨v2, rfl, hown2, hb2⟩
   have hb3 : Below w.heap.size w w2 := hbw.trans (hb2.mono (by omega))
   clear hown hb2 hnx hh
   go_wp2
   go_ret
   exact RowIs.of HL.out rfl (owns_base hown2 (by omega)) hb3
  by_cases hc : (s[pos]'hp).toNat = 44
  rotate_left
  ·have hnx := fun ty => run_next_any_at (P := Tryz.prog) wr w.heap.size s pos ty hh hp
   obtain ⟨d1, d2, d3⟩ := decode_skip s pos hp
   have hcl : (cls ((Utf8.decode s pos).1 : Int) == 5) = false := by
    have := cls_spec ((Utf8.decode s pos).1 : Int)
    rw [beq_eq_false_iff_ne]
    by_cases ha : (s[pos]'hp).toNat < 128
    ·rw [decode_ascii s pos hp ha] at this ⊢
     dsimp only at this ⊢
     omega
    ·have := (decode_high s pos hp (by omega)).1
     omega
   have HS : Hid _ := splitTo_skip s pos (Utf8.decode s pos).2 d1 (fun j h h1 h2 => by
    by_cases e : j = pos
    · subst e; exact hc
    · have := d3 j h (by omega) h2; omega)
   clear hc d3
   go_wp2_with (go_at_call 205; refine (classOf_any _ _).mono ?_; rintro e w1 ⟨rfl, hb1⟩)
   obtain ⟨p1, p2⟩ := iter_step hh hbw hb1
   have hown1 : w1.ownsRow (w.heap.size + 1) 9 1 u3 (splitTo s pos).1.length ((splitTo s pos).1.map Value.string) :=
    owns_below (ownsRow_iterAt hown (Nat.lt_succ_self _) s _) hb1 (fun g hg => by rw [iterAt_size]; exact owns_lt hown hg)
   refine ⟨⟨_, f, d1, by omega, rfl, p1, p2, by rw [HS.out]; exact hf, by rw [HS.out]; exact hown1⟩, by rw [iterPos_of p1, iterPos_of hh]; omega⟩
  have hnx := fun ty => run_next_ascii_at (P := Tryz.prog) wr w.heap.size s pos ty hh hp (by omega)
  have hcl : (cls ((s[pos]'hp).toNat : Int) == 5) = true := by
   have := cls_spec ((s[pos]'hp).toNat : Int)
   rw [beq_iff_eq]; omega
  have HC : Hid _ := splitTo_comma s pos hp hc
  clear hc
  go_wp2_with fail
  refine (classOf_any _ _).mono ?_
  rintro e w1 ⟨rfl, hb1⟩
  obtain ⟨p1, p2⟩ := iter_step hh hbw hb1
  have hs1 : wr.heap.size ≤ w1.heap.size := by have := hb1.size; rw [iterAt_size] at this; exact this
  have hown1 : w1.ownsRow (w.heap.size + 1) 9 1 u3 (splitTo s pos).1.length ((splitTo s pos).1.map Value.string) :=
   owns_below (ownsRow_iterAt hown (Nat.lt_succ_self _) s (pos + 1)) hb1 (fun g hg => by rw [iterAt_size]; exact owns_lt hown hg)
  have HH := hid hh
  clear hown hb1 hnx hh
  go_wp2_with fail
  refine (appendPart_any (w.heap.size + 1) _ _ _ _ _ rfl hown1 (by omega) (by omega) (by simp; omega)).mono ?_
  rintro e w2 ⟨v2, rfl, hown2, hb2⟩
  have hit2 : w2.heap[w.heap.size]? = some (.stringIter s (pos + 1)) := by rw [hb2.block _ (Nat.lt_succ_self _)]; exact p1
  have hown3 : w2.ownsRow (w.heap.size + 1) 9 1 v2 (splitTo s (pos + 1)).1.length ((splitTo s (pos + 1)).1.map Value.string) := by
   rw [HC.out, ← hf.out]; exact hown2
  have H2 : Hid (pos + 1 = (splitTo s (pos + 1)).2) := by show _ = _; rw [HC.out]
  have hb3 : Below w.heap.size w w2 := p2.trans (hb2.mono (by omega))
  clear hown1 hown2 hb2 p1 p2 hlp
  go_wp2
  go_roundw
  case rel => exact ⟨pos + 1, pos + 1, by omega, by omega, by go_num, hit2, hb3, H2, hown3⟩
  case measure => rw [iterPos_of hit2, iterPos_of HH.out]; omega
def stTo (s : Tx) (k : Nat) : Ts × Nat := if k ≤ s.size then splitTo s k else (splitL s, k)
theorem stTo_part (s : Tx) (k : Nat) (h : (∃ h : k < s.size, (s[k]'h).toNat = 44) ∨ k = s.size) : stTo s (k + 1) = (addPart (stTo s k).1 (trimOf (s.extract (stTo s k).2 k)), k + 1) := by
 rcases h with ⟨h, hc⟩ | rfl
 ·unfold stTo
  rw [if_pos (by omega), if_pos (by omega), splitTo_comma s k h hc]
 ·unfold stTo
  rw [if_neg (by omega), if_pos (by omega)]; rfl
theorem stTo_other (s : Tx) (k : Nat) (h : k < s.size) (hc : (s[k]'h).toNat ≠ 44) : stTo s (k + 1) = stTo s k := by
 unfold stTo
 rw [if_pos (by omega), if_pos (by omega), splitTo_other s k h hc]
theorem stTo_end (s : Tx) (k : Nat) (h : ¬ k ≤ s.size) : (stTo s k).1 = splitL s := by
 unfold stTo; rw [if_neg h]
theorem stTo_le (s : Tx) (k : Nat) (h : k ≤ s.size) : (stTo s k).2 ≤ k ∧ (stTo s k).1.length ≤ k := by
 unfold stTo; rw [if_pos h]; exact splitTo_le s k
theorem specSplit_any (s : Tx) (w : World) (hs : s.size ≤ 1048576) :
  Calls Tryz.prog 134 #[.string s] w fun e w' => RowIs w.heap.size (splitL s) w e w' := by
 obtain ⟨i0, hi, hz0, hz1, hz2⟩ := info_parts info9
 go_enter Tryz.func134, Tryz.ntmps134
 go_wp2
 go_loopw [3, 4, 5] (fun v a i wr => ∃ (k f : Nat) (l : Ts), k ≤ s.size + 1 ∧ f ≤ k ∧ i = .int .i64 (k : Int) ∧ a = .int .i64 (f : Int) ∧ Below w.heap.size w wr ∧
   Hid (f = (stTo s k).2) ∧ Hid (l = (stTo s k).1) ∧ wr.ownsRow w.heap.size 9 1 v l.length (l.map Value.string)) (fun _ _ i _ => s.size + 1 - (intOf i).toNat)
 case atStart =>
  refine ⟨0, 0, [], Nat.zero_le _, Nat.le_refl _, rfl, rfl, (Below.refl _ _).alloc (Nat.le_refl _) _, ?_, ?_, ⟨rfl, .inr ⟨w.heap.size, 0, #[], rfl, Nat.le_refl _, heap_alloc_new w _, Nat.le_refl _, Nat.zero_le _, rfl, rfl⟩⟩⟩
  · show _ = _; simp [stTo, splitTo]
  · show _ = _; simp [stTo, splitTo]
 case round =>
  obtain ⟨k, f, l, hk, hfk, rfl, rfl, hbw, hf, hl, hown⟩ := hrel
  by_cases hks : k ≤ s.size
  rotate_left
  ·have HE : Hid (l = splitL s) := by show _ = _; rw [hl.out, stTo_end s k hks]
   go_wp2_with fail
   go_ret
   exact RowIs.of HE.out rfl hown hbw
  have hlk : l.length ≤ 1048577 := by have := (stTo_le s k hks).2; rw [← hl.out] at this; omega
  have h63 : l.length + 1 ≤ maxLen := by unfold maxLen; omega
  have h47 : (l.length + 1) * 16 ≤ 140737488355328 := by omega
  by_cases hlt : k < s.size
  rotate_left
  ·have HC0 := stTo_part s k (.inr (by omega))
   rw [← hl.out, ← hf.out] at HC0
   have HC : Hid _ := HC0
   have H2 : Hid (k + 1 = (stTo s (k + 1)).2) := by show _ = _; rw [HC0]
   clear HC0
   have hz : (s.extract f k).size ≤ maxLen := by unfold maxLen; simp; omega
   cases he : (trimOf (s.extract f k)).toList.isEmpty
   ·have HE : Hid _ := addPart_yes (l := l) he
    go_wp2_with fail
    refine (specTrim_any _ _ hz).mono ?_
    rintro e w1 ⟨rfl, hb1⟩
    have hown1 := owns_below hown hb1 (fun g hg => owns_lt hown hg)
    have HBS : ∀ o, w.heap.size ≤ (w1.alloc o).heap.size := fun o => by have := hb1.size; have := hbw.size; simp; omega
    go_wp2_with (at_builtin; refine wpList_append_own _ rfl _ _ 22 rfl w.heap.size 9 i0 (.string ⟨#[]⟩) 1 16 Tryz.underlying22 hi hz0 hz1 hz2 rfl (by decide) _ _ _ rfl (hown1.alloc _) ⟨w1.heap.size, 0, none⟩ 1 1 [.string (trimOf (s.extract f k))] rfl rfl (cell_one_new _ _ _) (one_text _) h63 h47 (HBS _) ?_)
    intro v1 w2 hown2 hgrow _
    have hb2 : Below w.heap.size w w2 := (((hbw.trans (hb1.mono hbw.size)).alloc (Nat.le_trans hbw.size hb1.size) _).grown hgrow (HBS _) (fun g hg => owns_ge hown hg))
    have hown3 : w2.ownsRow w.heap.size 9 1 v1 (stTo s (k + 1)).1.length ((stTo s (k + 1)).1.map Value.string) := by
     rw [HC.out, HE.out]; simpa using hown2
    clear hown hown1 HBS hgrow hown2
    go_wp2
    go_roundw
    case rel => exact ⟨k + 1, k + 1, _, by omega, by omega, by go_num, by go_num, hb2, H2, rfl, hown3⟩
    case measure => simp [intOf]; omega
   ·have HE : Hid _ := addPart_no (l := l) he
    go_wp2_with (go_at_call 132; refine (specTrim_any _ _ hz).mono ?_; rintro e w1 ⟨rfl, hb1⟩)
    have hown3 : w1.ownsRow w.heap.size 9 1 u3 (stTo s (k + 1)).1.length ((stTo s (k + 1)).1.map Value.string) := by
     rw [HC.out, HE.out]; exact owns_below hown hb1 (fun g hg => owns_lt hown hg)
    have hb2 : Below w.heap.size w w1 := hbw.trans (hb1.mono hbw.size)
    go_roundw
    case rel => exact ⟨k + 1, k + 1, _, by omega, by omega, by go_num, by go_num, hb2, H2, rfl, hown3⟩
    case measure => simp [intOf]; omega
  by_cases hc : (s[k]'hlt).toNat = 44
  rotate_left
  ·have ht : (((s[k]'hlt).toNat : Int) != 44) = true := by rw [bne_iff_ne]; omega
   have HO : Hid _ := stTo_other s k hlt hc
   clear hc
   go_wp2_with fail
   go_roundw
   case rel => exact ⟨k + 1, f, l, by omega, by omega, by go_num, rfl, hbw, by rw [HO.out]; exact hf, by rw [HO.out]; exact hl, hown⟩
   case measure => simp [intOf]; omega
  have ht : (((s[k]'hlt).toNat : Int) != 44) = false := by rw [bne_eq_false_iff_eq]; omega
  have HC0 := stTo_part s k (.inl ⟨hlt, hc⟩)
  rw [← hl.out, ← hf.out] at HC0
  have HC : Hid _ := HC0
  have H2 : Hid (k + 1 = (stTo s (k + 1)).2) := by show _ = _; rw [HC0]
  clear hc HC0
  have hz : (s.extract f k).size ≤ maxLen := by unfold maxLen; simp; omega
  cases he : (trimOf (s.extract f k)).toList.isEmpty
  ·have HE : Hid _ := addPart_yes (l := l) he
   go_wp2_with fail
   refine (specTrim_any _ _ hz).mono ?_
   rintro e w1 ⟨rfl, hb1⟩
   have hown1 := owns_below hown hb1 (fun g hg => owns_lt hown hg)
   have HBS : ∀ o, w.heap.size ≤ (w1.alloc o).heap.size := fun o => by have := hb1.size; have := hbw.size; simp; omega
   go_wp2_with (at_builtin; refine wpList_append_own _ rfl _ _ 22 rfl w.heap.size 9 i0 (.string ⟨#[]⟩) 1 16 Tryz.underlying22 hi hz0 hz1 hz2 rfl (by decide) _ _ _ rfl (hown1.alloc _) ⟨w1.heap.size, 0, none⟩ 1 1 [.string (trimOf (s.extract f k))] rfl rfl (cell_one_new _ _ _) (one_text _) h63 h47 (HBS _) ?_)
   intro v1 w2 hown2 hgrow _
   have hb2 : Below w.heap.size w w2 := (((hbw.trans (hb1.mono hbw.size)).alloc (Nat.le_trans hbw.size hb1.size) _).grown hgrow (HBS _) (fun g hg => owns_ge hown hg))
   have hown3 : w2.ownsRow w.heap.size 9 1 v1 (stTo s (k + 1)).1.length ((stTo s (k + 1)).1.map Value.string) := by
    rw [HC.out, HE.out]; simpa using hown2
   clear hown hown1 HBS hgrow hown2
   go_wp2
   go_roundw
   case rel => exact ⟨k + 1, k + 1, _, by omega, by omega, by go_num, by go_num, hb2, H2, rfl, hown3⟩
   case measure => simp [intOf]; omega
  ·have HE : Hid _ := addPart_no (l := l) he
   go_wp2_with (go_at_call 132; refine (specTrim_any _ _ hz).mono ?_; rintro e w1 ⟨rfl, hb1⟩)
   have hown3 : w1.ownsRow w.heap.size 9 1 u3 (stTo s (k + 1)).1.length ((stTo s (k + 1)).1.map Value.string) := by
    rw [HC.out, HE.out]; exact owns_below hown hb1 (fun g hg => owns_lt hown hg)
   have hb2 : Below w.heap.size w w1 := hbw.trans (hb1.mono hbw.size)
   go_roundw
   case rel => exact ⟨k + 1, k + 1, _, by omega, by omega, by go_num, by go_num, hb2, H2, rfl, hown3⟩
   case measure => simp [intOf]; omega
def textAt (xs : Ts) (i : Nat) : ByteArray := xs.getD i ⟨#[]⟩
structure TextRow (base : Nat) (w : World) (g n cap : Nat) (xs : Ts) : Prop where
 len : xs.length = n
 base : base ≤ g
 lt : g < w.heap.size
 le : n ≤ cap
 mx : cap ≤ maxLen
 heap : ∃ cur, w.heap[g]? = some (.cells cur 9 (0, 0)) ∧ cur.size = cap ∧ ∀ i, i < n → cur[i]? = some (.string (textAt xs i))
theorem TextRow.cell {base : Nat} {w : World} {g n cap : Nat} {xs : Ts} (h : TextRow base w g n cap xs) (i : Nat) (hi : i < n) : w.cell? ⟨g, i, none⟩ = some (.string (textAt xs i)) := by
 obtain ⟨cur, hg, _, hc⟩ := h.heap
 simp only [World.cell?, hg]
 simpa using hc i hi
theorem TextRow.frozen {base : Nat} {w : World} {g n cap : Nat} {xs : Ts} (h : TextRow base w g n cap xs) (i : Nat) : w.frozen? ⟨g, i, none⟩ = false := by
 obtain ⟨cur, hg, _⟩ := h.heap
 simp [World.frozen?, hg]
theorem TextRow.below {base B : Nat} {w w' : World} {g n cap : Nat} {xs : Ts} (h : TextRow base w g n cap xs) (hb : Below B w w') (hB : g < B) : TextRow base w' g n cap xs := by
 obtain ⟨cur, hg, hc⟩ := h.heap
 have := hb.size; have := h.lt
 exact ⟨h.len, h.base, by omega, h.le, h.mx, cur, by rw [hb.block g hB]; exact hg, hc⟩
theorem TextRow.set {base : Nat} {w : World} {g n cap : Nat} {xs : Ts} (h : TextRow base w g n cap xs) (i : Nat) (hi : i < n) (t : Tx) : TextRow base (w.setCell ⟨g, i, none⟩ (.string t)) g n cap (xs.set i t) := by
 obtain ⟨cur, hg, hs, hc⟩ := h.heap
 refine ⟨by simp [h.len], h.base, by simpa using h.lt, h.le, h.mx, cur.setIfInBounds i (.string t), ?_, by simpa using hs, ?_⟩
 · simp [World.setCell, Array.getElem?_modify, hg]
 ·intro j hj
  have hl := h.len
  have hle := h.le
  by_cases e : i = j
  rotate_left
  ·rw [Array.getElem?_setIfInBounds_ne (by exact e), hc j hj]
   simp [textAt, List.getD_eq_getElem?_getD, e]
  subst e
  have h1 : i < cur.size := by omega
  have h2 : i < xs.length := by omega
  simp [textAt, List.getD_eq_getElem?_getD, h1, h2]
theorem textAt_map (xs : Ts) (i : Nat) (h : i < xs.length) : (xs.map Value.string)[i]? = some (.string (textAt xs i)) := by
 simp [textAt, List.getD_eq_getElem?_getD, h]
theorem row_form {w : World} {base n : Nat} {v : Value} {xs : Ts} (h : w.ownsRow base 9 1 v n (xs.map Value.string)) :
  (∃ oa cap, v = .slice oa 0 cap ∧ n = 0 ∧ xs = []) ∨ ∃ g cap, v = .slice (some ⟨g, 0, none⟩) n cap ∧ 0 < n ∧ TextRow base w g n cap xs := by
 obtain ⟨hl, hv⟩ := h
 simp at hl
 rcases hv with ⟨rfl, h0⟩ | ⟨g, cap, cur, rfl, hb, hg, hn, hm, hcs, htk⟩
 · exact .inl ⟨none, 0, rfl, h0, List.length_eq_zero_iff.1 (by omega)⟩
 ·by_cases h0 : n = 0
  ·subst h0
   exact .inl ⟨_, _, rfl, rfl, List.length_eq_zero_iff.1 (by omega)⟩
  refine .inr ⟨g, cap, rfl, by omega, hl, hb, (blt hg), hn, hm, cur, hg, by simpa using hcs, ?_⟩
  intro i hi
  have h1 : (cur.toList.take (n * 1))[i]? = some (.string (textAt xs i)) := by rw [htk]; exact textAt_map xs i (by omega)
  rw [List.getElem?_take, if_pos (by omega)] at h1
  simpa using h1
theorem TextRow.owns {base : Nat} {w : World} {g n cap : Nat} {xs : Ts} (h : TextRow base w g n cap xs) : w.ownsRow base 9 1 (.slice (some ⟨g, 0, none⟩) n cap) n (xs.map Value.string) := by
 obtain ⟨cur, hg, hs, hc⟩ := h.heap
 refine ⟨by simp [h.len], .inr ⟨g, cap, cur, rfl, h.base, hg, h.le, h.mx, by simpa using hs, ?_⟩⟩
 apply List.ext_getElem?
 intro i
 have hl := h.len; have hle := h.le
 rw [List.getElem?_take, Nat.mul_one]
 by_cases hi : i < n
 rotate_left
 · rw [if_neg hi, List.getElem?_eq_none (by simp; omega)]
 rw [if_pos hi, textAt_map xs i (by omega)]
 simpa using hc i hi
theorem eqS_any (v1 v2 : Value) (n b1 b2 : Nat) (xs : Ts) (w : World) (h1 : w.ownsRow b1 9 1 v1 n (xs.map Value.string)) (h2 : w.ownsRow b2 9 1 v2 n (xs.map Value.string)) (hn : n ≤ 2000000) :
  Calls Tryz.prog 60 #[v1, v2] w fun e w' => e = .returned (.bool true) ∧ Below w.heap.size w w' := by
 rcases row_form h1 with ⟨oa, ca, rfl, rfl, rfl⟩ | ⟨g1, c1, rfl, hp, r1⟩
 ·rcases row_form h2 with ⟨ob, cb, rfl, _, _⟩ | ⟨g2, c2, rfl, hp2, _⟩
  ·clear h1 h2
   go_enter Tryz.func60, Tryz.ntmps60
   go_wp2
   refine wp_loop_rounds 1 ?_
   rw [rounds_succ]
   go_wp2
   go_ret
   exact ⟨rfl, Below.refl _ _⟩
  · omega
 ·rcases row_form h2 with ⟨ob, cb, rfl, h0, _⟩ | ⟨g2, c2, rfl, hp2, r2⟩
  · omega
  ·clear h1 h2
   go_enter Tryz.func60, Tryz.ntmps60
   go_wp2
   go_loopw [5] (fun i wr => ∃ k : Nat, k ≤ n ∧ i = .int .i64 (k : Int) ∧ Below w.heap.size w wr) (fun i _ => n - (intOf i).toNat)
   case atStart => exact ⟨0, Nat.zero_le _, rfl, Below.refl _ _⟩
   case round =>
    obtain ⟨k, hk, rfl, hbw⟩ := hrel
    by_cases hlt : k < n
    rotate_left
    ·go_wp2
     go_ret
     exact ⟨rfl, hbw⟩
    have hlt2 : (k : Int) < (n : Int) := by omega
    have hc1 := (r1.below hbw r1.lt).cell k hlt
    have hc2 := (r2.below hbw r2.lt).cell k hlt
    go_wp2
    go_quiet (fail)
    go_wp2
    go_roundw
    case rel => exact ⟨k + 1, by omega, by go_num, below_drewN hbw _⟩
    case measure => simp [intOf]; omega
def numTextI (n : Int) : ByteArray := if n < 0 then ⟨#[]⟩ else numText n.toNat
theorem decDigits_zero : Lib.decDigits 0 = [48] := by rw [Lib.decDigits, dif_pos (by omega)]; rfl
theorem dg_dec : ∀ (f n : Nat), n < 10 ^ f → n ≠ 0 → dgF f n = Lib.decDigits n := by
 intro f
 induction f with
 | zero => intro n h h0; simp at h; omega
 | succ f ih =>
  intro n h h0
  rw [dgF_pos f n h0]
  rw [Nat.pow_succ] at h
  by_cases hs : n < 10
  rotate_left
  · rw [Lib.decDigits, dif_neg hs, ih (n / 10) (by omega) (by omega)]
  rw [Lib.decDigits, dif_pos hs]
  have e1 : n / 10 = 0 := by omega
  have e2 : n % 10 = n := by omega
  rw [e1, dgF_zero, e2]; rfl
theorem itoa_num (n : Int) (h0 : 0 ≤ n) (h1 : n ≤ 1000000) : (⟨(Lib.itoa n).toArray⟩ : Tx) = numTextI n := by
 unfold numTextI
 rw [if_neg (by omega)]
 unfold numText numL Lib.itoa
 rw [if_neg (by omega), if_neg (by omega)]
 by_cases h : n.toNat = 0
 · rw [if_pos h, h, decDigits_zero]
 rw [if_neg h, dg_dec 8 n.toNat (by omega) h]
def TabOk (w : World) : Prop := Lib.TabIs Tryz.prog w "internal/strconv.uint64pow10" .u64 Lib.pow10Tab
theorem gTab : Tryz.prog.globalNamed "internal/strconv.uint64pow10" = some 1 := by kernel_rfl
theorem TabOk.lt {w : World} (h : TabOk w) : 1 < w.heap.size := by
 unfold TabOk Lib.TabIs World.var? at h
 rw [gTab] at h
 rcases Nat.lt_or_ge 1 w.heap.size with hl | hl
 · exact hl
 · simp [Array.getElem?_eq_none hl] at h
theorem TabOk.below {w w' : World} (h : TabOk w) (hb : Below w.heap.size w w') : TabOk w' := var?_below hb gTab h.lt h
theorem implNumText_any (n : Int) (w : World) (h0 : -9223372036854775808 ≤ n) (h1 : n ≤ 9223372036854775807) (htab : TabOk w) :
  Calls Tryz.prog 40 #[.int .i64 n] w fun e w' => TextIs (numTextI n) w e w' := by
 by_cases hn : n < 0
 ·have hT : Hid (⟨#[]⟩ = numTextI n) := by show _ = _; unfold numTextI; rw [if_pos hn]
  go_enter Tryz.func40, Tryz.ntmps40
  go_wp2_with fail
  go_ret
  exact TextIs.of hT.out (Below.refl _ _)
 by_cases hb : 1000000 < n
 ·have hT : Hid (⟨#[]⟩ = numTextI n) := by
   show _ = _
   unfold numTextI numText numL; rw [if_neg hn, if_pos (by omega)]
  go_enter Tryz.func40, Tryz.ntmps40
  go_wp2_with fail
  go_ret
  exact TextIs.of hT.out (Below.refl _ _)
 have hT : Hid _ := itoa_num n (by omega) (by omega)
 have HT := hid htab
 clear htab
 go_enter Tryz.func40, Tryz.ntmps40
 go_wp2_with fail
 refine (Tryz.strconv_Itoa n h0 h1 w HT.out).mono ?_
 rintro e w1 ⟨rfl, k, os, rfl⟩
 rw [hT.out]
 have hb1 := Lib.below_grow w.heap.size w (Nat.le_refl _) k os
 obtain ⟨w1, hw1⟩ := exq (Sort.grow (w.drewN k) os)
 rw [← hw1] at hb1 ⊢
 clear hw1
 go_wp2_with fail
 go_ret
 exact TextIs.of rfl hb1
theorem specNumText_int (n : Int) (w : World) (h0 : -9223372036854775808 ≤ n) (h1 : n ≤ 9223372036854775807) :
  Calls Tryz.prog 23 #[.int .i64 n] w fun e w' => TextIs (numTextI n) w e w' := by
 by_cases hn : n < 0
 ·have hT : Hid (⟨#[]⟩ = numTextI n) := by show _ = _; unfold numTextI; rw [if_pos hn]
  have hn2 : ¬ 0 ≤ n := by omega
  go_enter Tryz.func23, Tryz.ntmps23
  go_wp2
  go_ret
  exact TextIs.of hT.out (Below.refl _ _)
 by_cases hb : 1000000 < n
 rotate_left
 ·obtain ⟨m, rfl⟩ := Int.eq_ofNat_of_zero_le (Int.not_lt.1 hn)
  have hT : numTextI (m : Int) = numText m := by unfold numTextI; rw [if_neg hn]; simp
  rw [hT]
  exact specNumText_any m w (by omega)
 have hT : Hid (⟨#[]⟩ = numTextI n) := by
  show _ = _
  unfold numTextI numText numL; rw [if_neg hn, if_pos (by omega)]
 have hp : 0 ≤ n := by omega
 have hb2 : ¬ n ≤ 1000000 := by omega
 have hd : decide (n ≤ 1000000) = false := by simp; omega
 go_enter Tryz.func23, Tryz.ntmps23
 go_wp2
 go_ret
 exact TextIs.of hT.out (Below.refl _ _)
def nameAt (fs : Fs) (i : Nat) : ByteArray := (fs.getD i (⟨#[]⟩, ⟨#[]⟩)).1
def valAt (fs : Fs) (i : Nat) : ByteArray := (fs.getD i (⟨#[]⟩, ⟨#[]⟩)).2
def flatF (fs : Fs) : List Value := fs.flatMap (fun f => [Value.string f.1, Value.string f.2])
theorem flatF_len (fs : Fs) : (flatF fs).length = fs.length * 2 := by
 induction fs with
 | nil => rfl
 | cons f r ih => simp only [flatF, List.flatMap_cons, List.length_append, List.length_cons, List.length_nil] at ih ⊢; omega
theorem flatF_get : ∀ (fs : Fs) (i : Nat), i < fs.length → (flatF fs)[i * 2]? = some (.string (nameAt fs i)) ∧ (flatF fs)[i * 2 + 1]? = some (.string (valAt fs i))
 | [], i, h => by simp at h
 | f :: r, 0, _ => by simp [flatF, nameAt, valAt]
 | f :: r, i + 1, h => by
  have ih := flatF_get r i (by simpa using h)
  have e : flatF (f :: r) = Value.string f.1 :: Value.string f.2 :: flatF r := rfl
  rw [e, show (i + 1) * 2 = i * 2 + 2 by omega, show i * 2 + 2 + 1 = (i * 2 + 1) + 2 by omega]
  simp only [List.getElem?_cons_succ]
  exact ih
structure FieldRow (base : Nat) (w : World) (g n cap : Nat) (fs : Fs) : Prop where
 len : fs.length = n
 base : base ≤ g
 lt : g < w.heap.size
 le : n ≤ cap
 mx : cap ≤ maxLen
 heap : ∃ cur, w.heap[g]? = some (.cells cur 139 (0, 0)) ∧ cur.size = cap * 2 ∧ ∀ i, i < n → cur[i * 2]? = some (.string (nameAt fs i)) ∧ cur[i * 2 + 1]? = some (.string (valAt fs i))
theorem FieldRow.name {base : Nat} {w : World} {g n cap : Nat} {fs : Fs} (h : FieldRow base w g n cap fs) (i : Nat) (hi : i < n) : w.cell? ⟨g, i * 2, none⟩ = some (.string (nameAt fs i)) := by
 obtain ⟨cur, hg, _, hc⟩ := h.heap
 simp only [World.cell?, hg]
 simpa using (hc i hi).1
theorem FieldRow.val {base : Nat} {w : World} {g n cap : Nat} {fs : Fs} (h : FieldRow base w g n cap fs) (i : Nat) (hi : i < n) : w.cell? ⟨g, i * 2 + 1, none⟩ = some (.string (valAt fs i)) := by
 obtain ⟨cur, hg, _, hc⟩ := h.heap
 simp only [World.cell?, hg]
 simpa using (hc i hi).2
theorem FieldRow.below {base B : Nat} {w w' : World} {g n cap : Nat} {fs : Fs} (h : FieldRow base w g n cap fs) (hb : Below B w w') (hB : g < B) : FieldRow base w' g n cap fs := by
 obtain ⟨cur, hg, hc⟩ := h.heap
 have := hb.size; have := h.lt
 exact ⟨h.len, h.base, by omega, h.le, h.mx, cur, by rw [hb.block g hB]; exact hg, hc⟩
theorem frow_form {w : World} {base n : Nat} {v : Value} {fs : Fs} (h : w.ownsRow base 139 2 v n (flatF fs)) :
  (∃ oa cap, v = .slice oa 0 cap ∧ (oa = none → cap = 0) ∧ n = 0 ∧ fs = []) ∨ ∃ g cap, v = .slice (some ⟨g, 0, none⟩) n cap ∧ 0 < n ∧ FieldRow base w g n cap fs := by
 obtain ⟨hl, hv⟩ := h
 rw [flatF_len] at hl
 rcases hv with ⟨rfl, h0⟩ | ⟨g, cap, cur, rfl, hb, hg, hn, hm, hcs, htk⟩
 · exact .inl ⟨none, 0, rfl, fun _ => rfl, h0, List.length_eq_zero_iff.1 (by omega)⟩
 ·by_cases h0 : n = 0
  ·subst h0
   exact .inl ⟨_, _, rfl, (fun h => by cases h), rfl, List.length_eq_zero_iff.1 (by omega)⟩
  refine .inr ⟨g, cap, rfl, by omega, by omega, hb, (blt hg), hn, hm, cur, hg, hcs, ?_⟩
  intro i hi
  have hf := flatF_get fs i (by omega)
  rw [← htk, List.getElem?_take, List.getElem?_take, if_pos (by omega), if_pos (by omega)] at hf
  simpa using hf
theorem FieldRow.owns {base : Nat} {w : World} {g n cap : Nat} {fs : Fs} (h : FieldRow base w g n cap fs) : w.ownsRow base 139 2 (.slice (some ⟨g, 0, none⟩) n cap) n (flatF fs) := by
 obtain ⟨cur, hg, hs, hc⟩ := h.heap
 have hl := h.len; have hle := h.le
 refine ⟨by rw [flatF_len, hl], .inr ⟨g, cap, cur, rfl, h.base, hg, h.le, h.mx, hs, ?_⟩⟩
 apply List.ext_getElem?
 intro j
 rw [List.getElem?_take]
 by_cases hj : j < n * 2
 rotate_left
 · rw [if_neg hj, List.getElem?_eq_none (by rw [flatF_len]; omega)]
 rw [if_pos hj]
 have hf := flatF_get fs (j / 2) (by omega)
 have hcc := hc (j / 2) (by omega)
 rcases Nat.mod_two_eq_zero_or_one j with e | e
 ·have e2 : j / 2 * 2 = j := by omega
  rw [e2] at hf hcc
  rw [hf.1]; simpa using hcc.1
 ·have e2 : j / 2 * 2 + 1 = j := by omega
  rw [e2] at hf hcc
  rw [hf.2]; simpa using hcc.2
def FieldsV (w : World) (base : Nat) (v : Value) (n : Nat) (fs : Fs) : Prop :=
 (∃ oa cap, v = .slice oa 0 cap ∧ (oa = none → cap = 0) ∧ n = 0 ∧ fs = []) ∨ ∃ g cap, v = .slice (some ⟨g, 0, none⟩) n cap ∧ 0 < n ∧ FieldRow base w g n cap fs
def atF : Fs → ByteArray → Nat
 | [], _ => 0
 | f :: r, name => if f.1 = name then 0 else atF r name + 1
theorem atF_le : ∀ (fs : Fs) (name : Tx), atF fs name ≤ fs.length
 | [], _ => Nat.le_refl _
 | f :: r, name => by
  rw [atF]
  split
  · exact Nat.zero_le _
  · have := atF_le r name; simp; omega
theorem atF_before : ∀ (fs : Fs) (name : Tx) (j : Nat), j < atF fs name → nameAt fs j ≠ name
 | [], _, j, h => by simp [atF] at h
 | f :: r, name, j, h => by
  rw [atF] at h
  split at h
  · omega
  ·rename_i hne
   cases j with
   | zero => simpa [nameAt] using hne
   | succ j => have := atF_before r name j (by omega); simpa [nameAt] using this
theorem atF_here : ∀ (fs : Fs) (name : Tx), atF fs name < fs.length → nameAt fs (atF fs name) = name
 | [], _, h => by simp [atF] at h
 | f :: r, name, h => by
  rw [atF] at h ⊢
  split
  · rename_i he; simpa [nameAt] using he
  ·rename_i hne
   rw [if_neg hne] at h
   have := atF_here r name (by simpa using h)
   simpa [nameAt] using this
theorem atF_uniq {fs : Fs} {name : ByteArray} {k : Nat} (hk : k < fs.length) (hb : ∀ j, j < k → nameAt fs j ≠ name) (he : nameAt fs k = name) : atF fs name = k := by
 rcases Nat.lt_trichotomy (atF fs name) k with h | h | h
 · exact absurd (atF_here fs name (by omega)) (hb _ h)
 · exact h
 · exact absurd he (atF_before fs name k h)
theorem atF_none {fs : Fs} {name : ByteArray} (hb : ∀ j, j < fs.length → nameAt fs j ≠ name) : atF fs name = fs.length := by
 rcases Nat.lt_or_ge (atF fs name) fs.length with h | h
 · exact absurd (atF_here fs name h) (hb _ h)
 · have := atF_le fs name; omega
def atI (fs : Fs) (name : Tx) : Int := if atF fs name < fs.length then (atF fs name : Int) else -1
theorem l2At_any (v : Value) (n base : Nat) (fs : Fs) (name : Tx) (w : World) (hv : FieldsV w base v n fs) (hn : n ≤ 1073741824) :
  Calls Tryz.prog 79 #[v, .string name] w fun e w' => e = .returned (.int .i64 (atI fs name)) ∧ w' = w := by
 rcases hv with ⟨oa, ca, rfl, _, rfl, rfl⟩ | ⟨g, cap, rfl, hp, row⟩
 ·have hT : Hid (atI [] name = -1) := rfl
  go_enter Tryz.func79, Tryz.ntmps79
  go_wp2
  refine wp_loop_rounds 1 ?_
  rw [rounds_succ]
  go_wp2
  go_ret
  exact ⟨by rw [hT.out]; rfl, rfl⟩
 ·have hl := row.len
  go_enter Tryz.func79, Tryz.ntmps79
  go_wp2
  go_loop [5] (fun i => ∃ k : Nat, k ≤ n ∧ i = .int .i64 (k : Int) ∧ Hid (∀ j, j < k → nameAt fs j ≠ name)) (fun i => n - (intOf i).toNat)
  case atStart => exact ⟨0, Nat.zero_le _, rfl, fun j h => absurd h (by omega)⟩
  case round =>
   obtain ⟨k, hk, rfl, hb⟩ := hrel
   by_cases hlt : k < n
   rotate_left
   ·have hT : Hid (atI fs name = -1) := by
     have := atF_none (fs := fs) (name := name) (fun j hj => hb.out j (by omega))
     show _ = _
     unfold atI; rw [this, if_neg (by omega)]
    go_wp2
    go_ret
    exact ⟨by rw [hT.out]; rfl, rfl⟩
   have hc := row.name k hlt
   have hlt2 : (k : Int) < (n : Int) := by omega
   by_cases he : nameAt fs k = name
   ·have hT : Hid (atI fs name = (k : Int)) := by
     have := atF_uniq (by omega) hb.out he
     show _ = _
     unfold atI; rw [this, if_pos (by omega)]
    have ht : ((nameAt fs k).toList == name.toList) = true := (text_beq _ _).2 he
    clear he
    go_wp2
    go_ret
    exact ⟨by rw [hT.out]; rfl, rfl⟩
   have ht : ((nameAt fs k).toList == name.toList) = false := by
    rcases Bool.eq_false_or_eq_true ((nameAt fs k).toList == name.toList) with h | h
    · exact absurd ((text_beq _ _).1 h) he
    · exact h
   have HE := hid he
   clear he
   go_wp2
   go_round
   case rel =>
    refine ⟨k + 1, by omega, by go_num, ?_⟩
    intro j hj
    by_cases e : j = k
    · subst e; exact HE.out
    exact hb.out j (by omega)
   case measure => simp [intOf]; omega
theorem FieldsV.of_owns {w : World} {base n : Nat} {v : Value} {fs : Fs} (h : w.ownsRow base 139 2 v n (flatF fs)) : FieldsV w base v n fs := frow_form h
theorem FieldsV.below {w w' : World} {base n : Nat} {v : Value} {fs : Fs} (h : FieldsV w base v n fs) (hb : Below w.heap.size w w') : FieldsV w' base v n fs := by
 rcases h with h | ⟨g, cap, h1, h2, h3⟩
 · exact .inl h
 · exact .inr ⟨g, cap, h1, h2, h3.below hb h3.lt⟩
theorem FieldsV.len {w : World} {base n : Nat} {v : Value} {fs : Fs} (h : FieldsV w base v n fs) : fs.length = n := by
 rcases h with ⟨_, _, _, _, rfl, rfl⟩ | ⟨_, _, _, _, h⟩
 · rfl
 · exact h.len
theorem FieldsV.slice {w : World} {base n : Nat} {v : Value} {fs : Fs} (h : FieldsV w base v n fs) :
  ∃ oa cap, v = .slice oa n cap ∧ ∀ k, k < n → ∃ g, oa = some ⟨g, 0, none⟩ ∧ FieldRow base w g n cap fs := by
 rcases h with ⟨oa, ca, rfl, _, rfl, rfl⟩ | ⟨g, cap, rfl, hp, row⟩
 · exact ⟨oa, ca, rfl, fun k hk => absurd hk (by omega)⟩
 · exact ⟨_, cap, rfl, fun k _ => ⟨g, rfl, row⟩⟩
def getV (fs : Fs) (name : Tx) : ByteArray := if atF fs name < fs.length then valAt fs (atF fs name) else ⟨#[]⟩
def getB (fs : Fs) (name : Tx) : Bool := decide (atF fs name < fs.length)
theorem specGet_any (v : Value) (n base : Nat) (fs : Fs) (name : Tx) (w : World) (hv : FieldsV w base v n fs) (hn : n ≤ 1073741824) :
  Calls Tryz.prog 43 #[v, .string name] w fun e w' => e = .returned (.tuple #[.string (getV fs name), .bool (getB fs name)]) ∧ w' = w := by
 have hl := hv.len
 by_cases hin : atF fs name < fs.length
 rotate_left
 ·have hI : Hid (atI fs name = -1) := by show _ = _; unfold atI; rw [if_neg hin]
  have hV : Hid (getV fs name = ⟨#[]⟩) := by show _ = _; unfold getV; rw [if_neg hin]
  have hB : Hid (getB fs name = false) := by show _ = _; unfold getB; simpa using hin
  go_enter Tryz.func43, Tryz.ntmps43
  go_wp2_with fail
  refine (l2At_any v n base fs name _ hv hn).mono ?_
  rintro e w1 ⟨rfl, rfl⟩
  rw [hI.out]
  clear hv
  go_wp2
  go_ret2
  exact ⟨by rw [hV.out, hB.out]; rfl, rfl⟩
 have hI : Hid (atI fs name = (atF fs name : Int)) := by show _ = _; unfold atI; rw [if_pos hin]
 have hV : Hid (getV fs name = valAt fs (atF fs name)) := by show _ = _; unfold getV; rw [if_pos hin]
 have hB : Hid (getB fs name = true) := by show _ = _; unfold getB; simpa using hin
 have hv0 := hv
 rcases hv0 with ⟨oa, ca, rfl, _, rfl, rfl⟩ | ⟨g, cap, rfl, hp, row⟩
 · simp at hin
 ·obtain ⟨k, hk⟩ := exq (atF fs name)
  rw [← hk] at hI hV hin
  have hc := row.val k (by omega)
  have hlt : (k : Int) < (n : Int) := by omega
  clear hk
  go_enter Tryz.func43, Tryz.ntmps43
  go_wp2_with fail
  refine (l2At_any _ n base fs name _ hv hn).mono ?_
  rintro e w1 ⟨rfl, rfl⟩
  rw [hI.out]
  clear hv
  go_wp2
  go_ret2
  exact ⟨by rw [hV.out, hB.out]; rfl, rfl⟩
def FldsOk (fs : Fs) : Prop :=
 fs.length ≤ 8 ∧ ∀ i, i < fs.length → TokOk (nameAt fs i) ∧ ValOk (valAt fs i) ∧ atF fs (nameAt fs i) = i ∧ nameAt fs i ≠ ⟨#[99, 111, 110, 116, 101, 110, 116, 45, 108, 101, 110, 103, 116, 104]⟩
def clen : ByteArray := ⟨#[99, 111, 110, 116, 101, 110, 116, 45, 108, 101, 110, 103, 116, 104]⟩
def FldOk (fs : Fs) (i : Nat) : Prop := TokOk (nameAt fs i) ∧ ValOk (valAt fs i) ∧ atF fs (nameAt fs i) = i ∧ nameAt fs i ≠ clen
theorem clen_list : clen.toList = [99, 111, 110, 116, 101, 110, 116, 45, 108, 101, 110, 103, 116, 104] := by rw [ByteArray.toList_eq]; rfl
theorem text_beq_no {a b : ByteArray} (h : a ≠ b) : (a.toList == b.toList) = false := by
 rcases Bool.eq_false_or_eq_true (a.toList == b.toList) with h1 | h1
 · exact absurd ((text_beq _ _).1 h1) h
 · exact h1
theorem specFieldsOk_any (v : Value) (n base : Nat) (fs : Fs) (w : World) (hv : FieldsV w base v n fs) (hn : n ≤ 1073741824) (hsz : ∀ i, i < n → (nameAt fs i).size ≤ maxLen ∧ (valAt fs i).size ≤ maxLen) :
  Calls Tryz.prog 133 #[v] w fun e w' => BoolIs (FldsOk fs) w e w' := by
 have hl := hv.len
 have HV := hid hv
 have HS := hid hsz
 clear hsz
 rcases hv with ⟨oa, ca, rfl, _, rfl, rfl⟩ | ⟨g, cap, rfl, hp, row⟩
 ·have hT : Hid (FldsOk []) := ⟨by simp, fun i hi => absurd hi (by simp)⟩
  clear HV HS
  go_enter Tryz.func133, Tryz.ntmps133
  go_wp2
  refine wp_loop_rounds 1 ?_
  rw [rounds_succ]
  go_wp2
  go_ret
  exact BoolIs.yes hT.out (Below.refl _ _)
 ·go_enter Tryz.func133, Tryz.ntmps133
  go_wp2
  go_loopw [3] (fun i wr => ∃ k : Nat, k ≤ n ∧ i = .int .i64 (k : Int) ∧ Hid (∀ j, j < k → FldOk fs j) ∧ Below w.heap.size w wr) (fun i _ => n - (intOf i).toNat)
  case atStart => exact ⟨0, Nat.zero_le _, rfl, fun j h => absurd h (by omega), Below.refl _ _⟩
  case round =>
   obtain ⟨k, hk, rfl, hall, hbw⟩ := hrel
   by_cases hlt : k < n
   rotate_left
   ·by_cases h8 : (n : Int) ≤ 8
    rotate_left
    ·have HF : Hid (¬ FldsOk fs) := fun h => by have := h.1; omega
     go_wp2
     go_ret
     exact BoolIs.no HF.out hbw
    have HF : Hid (FldsOk fs) := ⟨by omega, fun i hi => hall.out i (by omega)⟩
    go_wp2
    go_ret
    exact BoolIs.yes HF.out hbw
   have hlt2 : (k : Int) < (n : Int) := by omega
   obtain ⟨hs1, hs2⟩ := HS.out k hlt
   obtain ⟨nm, hnm⟩ := exq (nameAt fs k)
   obtain ⟨vl, hvl⟩ := exq (valAt fs k)
   have HR : Hid (∀ W, Below w.heap.size w W → W.cell? ⟨g, k * 2, none⟩ = some (.string nm) ∧ W.cell? ⟨g, k * 2 + 1, none⟩ = some (.string vl)) := fun W h => by
    rw [hnm, hvl]; exact ⟨(row.below h row.lt).name k hlt, (row.below h row.lt).val k hlt⟩
   have HO : Hid (FldOk fs k ↔ TokOk nm ∧ ValOk vl ∧ atF fs nm = k ∧ nm ≠ clen) := by rw [hnm, hvl]; exact Iff.rfl
   have HNO : Hid (¬ (TokOk nm ∧ ValOk vl ∧ atF fs nm = k ∧ nm ≠ clen) → ¬ FldsOk fs) := fun h hf => h (HO.out.1 (hf.2 k (by omega)))
   have hatle : atF fs nm ≤ k := by
    rcases Nat.lt_or_ge k (atF fs nm) with h | h
    · exact absurd hnm.symm (atF_before fs nm k h)
    · exact h
   have hI : Hid (atI fs nm = (atF fs nm : Int)) := by show _ = _; unfold atI; rw [if_pos (by omega)]
   rw [← hnm] at hs1
   rw [← hvl] at hs2
   obtain ⟨c1, c2⟩ := HR.out wr hbw
   clear hnm hvl
   go_wp2_with fail
   refine (specTokenOk_any nm _ hs1).mono ?_
   rintro e w1 ⟨b1, rfl, kb1, bb1⟩
   have hb1 : Below w.heap.size w w1 := hbw.trans (bb1.mono hbw.size)
   obtain ⟨c1a, c2a⟩ := HR.out w1 hb1
   cases b1
   ·have HF : Hid (¬ FldsOk fs) := HNO.out (fun h => by have := kb1.2 h.1; cases this)
    clear kb1 c1 c2 bb1
    go_wp2_with fail
    go_ret
    exact BoolIs.no HF.out hb1
   ·have HT : Hid (TokOk nm) := kb1.1 rfl
    clear kb1 c1 c2 bb1
    go_wp2_with fail
    refine (specValueOk_any vl _ hs2).mono ?_
    rintro e w2 ⟨b2, rfl, kb2, bb2⟩
    have hb2 : Below w.heap.size w w2 := hb1.trans (bb2.mono hb1.size)
    obtain ⟨c1b, c2b⟩ := HR.out w2 hb2
    cases b2
    ·have HF : Hid (¬ FldsOk fs) := HNO.out (fun h => by have := kb2.2 h.2.1; cases this)
     clear kb2 c1a c2a bb2
     go_wp2_with fail
     go_ret
     exact BoolIs.no HF.out hb2
    ·have HT2 : Hid (ValOk vl) := kb2.1 rfl
     clear kb2 c1a c2a bb2
     go_wp2_with fail
     refine (l2At_any _ n base fs nm _ (HV.out.below hb2) hn).mono ?_
     rintro e w3 ⟨rfl, rfl⟩
     rw [hI.out]
     by_cases hat : atF fs nm = k
     rotate_left
     ·have hne : ((atF fs nm : Int) != (k : Int)) = true := by rw [bne_iff_ne]; omega
      have HF : Hid (¬ FldsOk fs) := HNO.out (fun h => hat h.2.2.1)
      clear hat
      go_wp2
      go_ret
      exact BoolIs.no HF.out hb2
     have hne : ((atF fs nm : Int) != (k : Int)) = false := by rw [bne_eq_false_iff_eq]; omega
     have HAT := hid hat
     clear hat
     by_cases hcl : nm = clen
     ·have ht := (text_beq _ _).2 hcl
      rw [clen_list] at ht
      have HF : Hid (¬ FldsOk fs) := HNO.out (fun h => h.2.2.2 hcl)
      clear hcl
      go_wp2
      go_ret
      exact BoolIs.no HF.out hb2
     have ht := text_beq_no hcl
     rw [clen_list] at ht
     have HY : Hid (FldOk fs k) := HO.out.2 ⟨HT.out, HT2.out, HAT.out, hcl⟩
     clear hcl
     go_wp2
     go_roundw
     case rel =>
      refine ⟨k + 1, by omega, by go_num, ?_, hb2⟩
      intro j hj
      by_cases e : j = k
      · subst e; exact HY.out
      exact hall.out j (by omega)
     case measure => simp [intOf]; omega
def blankB : ByteArray := ⟨#[32]⟩
def joinS (xs : Ts) : ByteArray := ⟨(Lib.join (xs.map (fun x => x.data.toList)) [32]).toArray⟩
theorem joinS_one (x : Tx) : joinS [x] = x := by
 unfold joinS
 rw [List.map_cons, List.map_nil, Lib.join_one]
theorem join_snoc (sep : List UInt8) (a : List UInt8) (r : List (List UInt8)) (x : List UInt8) : Lib.join ((a :: r) ++ [x]) sep = Lib.join (a :: r) sep ++ sep ++ x := by
 rw [List.cons_append, Lib.join_cons, Lib.join_cons, Lib.joinTail, Lib.joinTail, List.map_append, List.flatten_append, List.map_cons, List.map_nil]
 simp
theorem joinS_snoc (xs : Ts) (x : Tx) (h : xs ≠ []) : joinS (xs ++ [x]) = joinS xs ++ blankB ++ x := by
 cases xs with
 | nil => exact absurd rfl h
 | cons a r =>
  unfold joinS
  rw [List.map_append, List.map_cons, List.map_cons, List.map_nil, join_snoc]
  apply ByteArray.ext
  simp [blankB]
theorem lens_sz : ∀ (xs : Ts) (M : Nat), (∀ x ∈ xs, x.size ≤ M) → Lib.lens (xs.map (fun x => x.data.toList)) ≤ M * xs.length
 | [], _, _ => by simp [Lib.lens]
 | x :: l, M, h => by
  have h1 := lens_sz l M (fun y hy => h y (List.mem_cons_of_mem _ hy))
  have h2 := h x (List.mem_cons_self ..)
  simp only [Lib.lens, List.map_cons, List.sum_cons, List.length_cons] at h1 ⊢
  have e : x.data.toList.length = x.size := by simp
  rw [e, Nat.mul_succ]
  omega
theorem joinS_size (xs : Ts) (M : Nat) (h : ∀ x ∈ xs, x.size ≤ M) : (joinS xs).size ≤ (M + 1) * xs.length := by
 unfold joinS
 show (Lib.join _ _).toArray.size ≤ _
 rw [List.size_toArray]
 cases xs with
 | nil => simp [Lib.join_nil]
 | cons a r =>
  have h1 := lens_sz (a :: r) M h
  rw [List.map_cons] at h1 ⊢
  rw [Lib.join_length, List.length_map]
  have e1 : (M + 1) * (a :: r).length = M * (a :: r).length + (r.length + 1) := by rw [Nat.add_mul, Nat.one_mul, List.length_cons]
  have e2 : [(32 : UInt8)].length * r.length = r.length := by rw [List.length_singleton, Nat.one_mul]
  rw [e1, e2]
  omega
attribute [local go_sem ↓] Go.wp_at_zero Go.wp_at_succ
structure ArgF (w : World) (B : Nat) (a : Oa) (n : Nat) (fs : Fs) : Prop where
 len : fs.length = n
 get : ∀ i, i < n → ∃ b off, a = some ⟨b, off, none⟩ ∧ b < B ∧ w.cell? ⟨b, off + i * 2, none⟩ = some (.string (nameAt fs i)) ∧ w.cell? ⟨b, off + i * 2 + 1, none⟩ = some (.string (valAt fs i))
theorem ArgF.below {w w' : World} {B : Nat} {a : Oa} {n : Nat} {fs : Fs} (h : ArgF w B a n fs) (hb : Below B w w') : ArgF w' B a n fs :=
 ⟨h.len, fun i hi => by
  obtain ⟨b, off, h1, h2, h3, h4⟩ := h.get i hi
  exact ⟨b, off, h1, h2, by rw [hb.cell (p := ⟨b, off + i * 2, none⟩) h2]; exact h3, by rw [hb.cell (p := ⟨b, off + i * 2 + 1, none⟩) h2]; exact h4⟩⟩
def szTo (fs : Fs) : Nat → Nat
 | 0 => 0
 | k + 1 => szTo fs k + (nameAt fs k).size + (valAt fs k).size
theorem szField_any (nm vl : Tx) (left : Int) (w : World) (h0 : 0 ≤ left) (h1 : left ≤ 1073741824) (hn : nm.size ≤ maxLen) (hv : vl.size ≤ maxLen) :
  Calls Tryz.prog 209 #[.agg #[.string nm, .string vl], .int .i64 left] w fun e w' => e = .returned (.int .i64 (if left - nm.size < 0 then -1 else if left - nm.size - vl.size < 0 then -1 else left - nm.size - vl.size)) ∧ Below w.heap.size w w' := by
 unfold maxLen at hn hv
 by_cases c1 : left - (nm.size : Int) < 0
 ·rw [if_pos c1]
  go_enter Tryz.func209, Tryz.ntmps209
  go_wp2
  go_ret
  exact ⟨rfl, (Below.refl _ _).alloc (Nat.le_refl _) _⟩
 rw [if_neg c1]
 by_cases c2 : left - (nm.size : Int) - (vl.size : Int) < 0
 ·rw [if_pos c2]
  go_enter Tryz.func209, Tryz.ntmps209
  go_wp2
  go_ret
  exact ⟨rfl, (Below.refl _ _).alloc (Nat.le_refl _) _⟩
 rw [if_neg c2]
 go_enter Tryz.func209, Tryz.ntmps209
 go_wp2
 go_ret
 exact ⟨rfl, (Below.refl _ _).alloc (Nat.le_refl _) _⟩
theorem toField_any (nm vl : Tx) (w : World) :
  Calls Tryz.prog 210 #[.agg #[.string nm, .string vl]] w fun e w' => e = .returned (.agg #[.string nm, .string vl]) ∧ Below w.heap.size w w' := by
 go_enter Tryz.func210, Tryz.ntmps210
 go_wp2
 exact bodyPost_ret (v := .agg #[.string nm, .string vl]) (by simp [results, Tryz.results210, go_sem]) rfl ⟨rfl, (((Below.refl _ _).alloc (Nat.le_refl _) _).alloc (by simp) _).alloc (by simp; omega) _⟩
theorem info33 : (Tryz.prog.info? 139).map (fun i => (i.zero, i.size, i.bytes)) = some (some (.agg #[.string ⟨#[]⟩, .string ⟨#[]⟩]), 2, 32) := by kernel_rfl
theorem heap_set (w : World) (c o : Nat) (cs : Array Value) (t : TypeId) (fz : Nat × Nat) (v : Value) (h : w.heap[c]? = some (.cells cs t fz)) : (w.setCell ⟨c, o, none⟩ v).heap[c]? = some (.cells (cs.setIfInBounds o v) t fz) := by
 simp [World.setCell, Array.getElem?_modify, h]
theorem hput {W W' : World} {q i : Nat} {T : TypeId} {v : Value} {l l' : List Value} (hW : W' = W.setCell ⟨q, i, none⟩ v) (h : Hid (W.heap[q]? = some (.cells l.toArray T))) (hl : l.set i v = l' := by simp only [List.set_cons_zero, List.set_cons_succ]; rfl) : Hid (W'.heap[q]? = some (.cells l'.toArray T)) := by
  show _ = _
  rw [hW, ← hl]
  have h2 := heap_set _ q i _ _ _ v h.out
  simpa using h2
def PartRow (w : World) (g n k : Nat) (fs : Fs) : Prop :=
 ∃ cur, w.heap[g]? = some (.cells cur 139 (0, 0)) ∧ cur.size = n * 2 ∧ ∀ i, i < k → cur[i * 2]? = some (.string (nameAt fs i)) ∧ cur[i * 2 + 1]? = some (.string (valAt fs i))
theorem PartRow.below {w w' : World} {g n k B : Nat} {fs : Fs} (h : PartRow w g n k fs) (hb : Below B w w') (hB : g < B) : PartRow w' g n k fs := by
 obtain ⟨cur, h1, h2⟩ := h
 exact ⟨cur, by rw [hb.block g hB]; exact h1, h2⟩
theorem PartRow.lt {w : World} {g n k : Nat} {fs : Fs} (h : PartRow w g n k fs) : g < w.heap.size := by
 obtain ⟨cur, h1, _⟩ := h
 exact (blt h1)
theorem PartRow.cell {w : World} {g n k : Nat} {fs : Fs} (h : PartRow w g n k fs) (j : Nat) (hj : j < n * 2) : ∃ u, w.cell? ⟨g, j, none⟩ = some u := by
 obtain ⟨cur, h1, h2, _⟩ := h
 refine ⟨cur[j]'(by omega), ?_⟩
 simp only [World.cell?, h1]
 simp [show j < cur.size by omega]
theorem PartRow.frozen {w : World} {g n k : Nat} {fs : Fs} (h : PartRow w g n k fs) (j : Nat) : w.frozen? ⟨g, j, none⟩ = false := by
 obtain ⟨cur, h1, _⟩ := h
 simp [World.frozen?, h1]
theorem PartRow.put {w : World} {g n k : Nat} {fs : Fs} (h : PartRow w g n k fs) (hk : k < n) : PartRow ((w.setCell ⟨g, k * 2, none⟩ (.string (nameAt fs k))).setCell ⟨g, k * 2 + 1, none⟩ (.string (valAt fs k))) g n (k + 1) fs := by
 obtain ⟨cur, h1, h2, h3⟩ := h
 refine ⟨_, heap_set _ g (k * 2 + 1) _ _ _ _ (heap_set w g (k * 2) _ _ _ _ h1), by simpa using h2, ?_⟩
 intro i hi
 by_cases e : i = k
 ·subst e
  refine ⟨?_, ?_⟩
  · rw [Array.getElem?_setIfInBounds_ne (by omega), Array.getElem?_setIfInBounds_self_of_lt (by omega)]
  · rw [Array.getElem?_setIfInBounds_self_of_lt (by simp; omega)]
 have := h3 i (by omega)
 refine ⟨?_, ?_⟩
 · rw [Array.getElem?_setIfInBounds_ne (by omega), Array.getElem?_setIfInBounds_ne (by omega)]; exact this.1
 · rw [Array.getElem?_setIfInBounds_ne (by omega), Array.getElem?_setIfInBounds_ne (by omega)]; exact this.2
theorem PartRow.owns {w : World} {g n : Nat} {fs : Fs} (h : PartRow w g n n fs) (hl : fs.length = n) (hm : n ≤ maxLen) {base : Nat} (hb : base ≤ g) : w.ownsRow base 139 2 (.slice (some ⟨g, 0, none⟩) n n) n (flatF fs) :=
 FieldRow.owns ⟨hl, hb, h.lt, Nat.le_refl _, hm, h⟩
theorem toFieldS_any (B : Nat) (a : Oa) (n cap : Nat) (fs : Fs) (w : World) (harg : ArgF w B a n fs) (hB : B ≤ w.heap.size) (hn : n ≤ 1048576) :
  Calls Tryz.prog 176 #[.slice a n cap] w fun e w' => ∃ v, e = .returned v ∧ w'.ownsRow w.heap.size 139 2 v n (flatF fs) ∧ Below w.heap.size w w' := by
 obtain ⟨i0, hi, hz0, hz1, hz2⟩ := info_parts info33
 obtain ⟨M, hM⟩ : ∃ M, M = madeCells (Value.agg #[.string ⟨#[]⟩, .string ⟨#[]⟩]).cells (((n : Nat) : Int).toNat * i0.size) := ⟨_, rfl⟩
 have hmk : ∀ W : World, (Instr.makeSlice 45 (.int .i64 (n : Int)) (.int .i64 (n : Int))).run Tryz.prog W = .ok (.slice (some ⟨W.heap.size, 0, none⟩) n n) (W.alloc (.cells M 139)) := fun W => by
  have h := run_make (P := Tryz.prog) W 45 139 i0 (.agg #[.string ⟨#[]⟩, .string ⟨#[]⟩]) Tryz.underlying45 hi hz0 .i64 .i64 (n : Int) (n : Int) (by omega) (by omega) (by rw [hz2]; omega) (by omega)
  rw [← hM] at h
  simpa using h
 have hMs : M.size = n * 2 := by rw [hM, size_madeCells, hz1]; simp
 have hlen := harg.len
 clear hM
 have HP : Hid (PartRow (w.alloc (.cells M 139)) w.heap.size n 0 fs) := ⟨M, heap_alloc_new w _, hMs, fun i h => absurd h (by omega)⟩
 go_enter Tryz.func176, Tryz.ntmps176
 go_wp2
 go_loopw [4] (fun i wr => ∃ k : Nat, k ≤ n ∧ i = .int .i64 (k : Int) ∧ Hid (PartRow wr w.heap.size n k fs) ∧ Below w.heap.size w wr) (fun i _ => n - (intOf i).toNat)
 case atStart => exact ⟨0, Nat.zero_le _, rfl, HP, (Below.refl _ _).alloc (Nat.le_refl _) _⟩
 case round =>
  obtain ⟨k, hk, rfl, hpr, hbw⟩ := hrel
  by_cases hlt : k < n
  rotate_left
  ·obtain rfl : k = n := by omega
   go_wp2
   go_ret
   exact ⟨_, rfl, hpr.out.owns hlen (by unfold maxLen; omega) (Nat.le_refl _), hbw⟩
  have hlt2 : (k : Int) < (n : Int) := by omega
  obtain ⟨b, off, rfl, hbB, hc1, hc2⟩ := (harg.below (hbw.mono hB)).get k hlt
  obtain ⟨nm, hnm⟩ := exq (nameAt fs k)
  obtain ⟨vl, hvl⟩ := exq (valAt fs k)
  rw [← hnm] at hc1
  rw [← hvl] at hc2
  have HNM := hid hnm
  have HVL := hid hvl
  clear hnm hvl
  go_wp2_with fail
  refine (toField_any nm vl _).mono ?_
  rintro e w1 ⟨rfl, hb1⟩
  have hpr1 := hpr.out.below hb1 hpr.out.lt
  have hb2 : Below w.heap.size w w1 := hbw.trans (hb1.mono hbw.size)
  obtain ⟨u0, hu0⟩ := hpr1.cell (k * 2) (by omega)
  obtain ⟨u1, hu1⟩ := hpr1.cell (k * 2 + 1) (by omega)
  have f0 := hpr1.frozen (k * 2)
  have f1 := hpr1.frozen (k * 2 + 1)
  have hput := hpr1.put hlt
  rw [← HNM.out, ← HVL.out] at hput
  have HPUT : Hid _ := hput
  clear hput hc1 hc2 hb1
  go_wp2
  go_roundw
  case rel => exact ⟨k + 1, by omega, by go_num, HPUT, (hb2.setCell (Nat.le_refl _) _).setCell (Nat.le_refl _) _⟩
  case measure => simp [intOf]; omega
theorem eqField_any (nm vl : Tx) (w : World) :
  Calls Tryz.prog 211 #[.agg #[.string nm, .string vl], .agg #[.string nm, .string vl]] w fun e w' => e = .returned (.bool true) ∧ Below w.heap.size w w' := by
 go_enter Tryz.func211, Tryz.ntmps211
 go_wp2
 go_ret
 exact ⟨rfl, ((Below.refl _ _).alloc (Nat.le_refl _) _).alloc (by simp) _⟩
theorem eqFieldS_any (v1 v2 : Value) (n b1 b2 : Nat) (fs : Fs) (w : World) (h1 : FieldsV w b1 v1 n fs) (h2 : FieldsV w b2 v2 n fs) (hn : n ≤ 2000000) :
  Calls Tryz.prog 179 #[v1, v2] w fun e w' => e = .returned (.bool true) ∧ Below w.heap.size w w' := by
 rcases h1 with ⟨oa, ca, rfl, _, rfl, rfl⟩ | ⟨g1, c1, rfl, hp, r1⟩
 ·rcases h2 with ⟨ob, cb, rfl, _, _, _⟩ | ⟨g2, c2, rfl, hp2, _⟩
  ·go_enter Tryz.func179, Tryz.ntmps179
   go_wp2
   refine wp_loop_rounds 1 ?_
   rw [rounds_succ]
   go_wp2
   go_ret
   exact ⟨rfl, Below.refl _ _⟩
  · omega
 ·rcases h2 with ⟨ob, cb, rfl, _, h0, _⟩ | ⟨g2, c2, rfl, hp2, r2⟩
  · omega
  ·go_enter Tryz.func179, Tryz.ntmps179
   go_wp2
   go_loopw [5] (fun i wr => ∃ k : Nat, k ≤ n ∧ i = .int .i64 (k : Int) ∧ Below w.heap.size w wr) (fun i _ => n - (intOf i).toNat)
   case atStart => exact ⟨0, Nat.zero_le _, rfl, Below.refl _ _⟩
   case round =>
    obtain ⟨k, hk, rfl, hbw⟩ := hrel
    by_cases hlt : k < n
    rotate_left
    ·go_wp2
     go_ret
     exact ⟨rfl, hbw⟩
    have hlt2 : (k : Int) < (n : Int) := by omega
    obtain ⟨nm, hnm⟩ := exq (nameAt fs k)
    obtain ⟨vl, hvl⟩ := exq (valAt fs k)
    have ha := (r1.below hbw r1.lt).name k hlt
    have hb := (r1.below hbw r1.lt).val k hlt
    have hc := (r2.below hbw r2.lt).name k hlt
    have hd := (r2.below hbw r2.lt).val k hlt
    rw [← hnm] at ha hc
    rw [← hvl] at hb hd
    have HA : Hid (∀ w0 w1, Below wr.heap.size wr w0 → Below w0.heap.size w0 w1 → (w1.cell? ⟨g1, k * 2, none⟩ = some (.string nm) ∧ w1.cell? ⟨g1, k * 2 + 1, none⟩ = some (.string vl) ∧ w1.cell? ⟨g2, k * 2, none⟩ = some (.string nm) ∧ w1.cell? ⟨g2, k * 2 + 1, none⟩ = some (.string vl)) ∧ Below wr.heap.size wr w1) := fun w0 w1 h h' => by
     have hx := h.trans (h'.mono h.size)
     have hy := hbw.trans (hx.mono hbw.size)
     have a1 := (r1.below hy r1.lt).name k hlt
     have a2 := (r1.below hy r1.lt).val k hlt
     have a3 := (r2.below hy r2.lt).name k hlt
     have a4 := (r2.below hy r2.lt).val k hlt
     rw [← hnm] at a1 a3
     rw [← hvl] at a2 a4
     exact ⟨⟨a1, a2, a3, a4⟩, hx⟩
    clear hnm hvl
    go_wp2
    go_region_held3 (fun w' => w'.cell? ⟨g1, k * 2, none⟩ = some (.string nm) ∧ w'.cell? ⟨g1, k * 2 + 1, none⟩ = some (.string vl) ∧ w'.cell? ⟨g2, k * 2, none⟩ = some (.string nm) ∧ w'.cell? ⟨g2, k * 2 + 1, none⟩ = some (.string vl)) (first | assumption | go_keep) (first | (go_at_call 211; refine (eqField_any _ _ _).mono ?_; rintro e w1 ⟨rfl, hb1⟩; obtain ⟨hcc, hbx⟩ := HA.out _ w1 ((Below.refl _ wr).drew) hb1))
    go_wp2
    go_roundw
    case rel => exact ⟨k + 1, by omega, by go_num, hbw.trans (hbx.mono hbw.size)⟩
    case measure => simp [intOf]; omega
theorem place_any (v : Value) (n base : Nat) (fs : Fs) (name : Tx) (w : World) (hv : FieldsV w base v n fs) (hn : n ≤ 1073741824) :
  Calls Tryz.prog 119 #[v, .string name] w fun e w' => e = .returned (.int .i64 (atF fs name : Int)) ∧ w' = w := by
 have hl := hv.len
 obtain ⟨oa, cap, rfl, hrow⟩ := hv.slice
 clear hv
 go_enter Tryz.func119, Tryz.ntmps119
 go_wp2
 go_loop [8] (fun i => ∃ k : Nat, k ≤ n ∧ i = .int .i64 (k : Int) ∧ Hid (∀ j, j < k → nameAt fs j ≠ name)) (fun i => n - (intOf i).toNat)
 case atStart => exact ⟨0, Nat.zero_le _, rfl, fun j h => absurd h (by omega)⟩
 case round =>
  obtain ⟨k, hk, rfl, hb⟩ := hrel
  by_cases hlt : k < n
  rotate_left
  ·have hT : Hid (atF fs name = n) := by
    have := atF_none (fs := fs) (name := name) (fun j hj => hb.out j (by omega))
    show _ = _
    omega
   clear hrow
   go_wp2
   go_ret
   exact ⟨by rw [hT.out]; rfl, rfl⟩
  obtain ⟨g, rfl, row⟩ := hrow k hlt
  have hc := row.name k hlt
  have hlt2 : (k : Int) < (n : Int) := by omega
  clear hrow row
  by_cases he : nameAt fs k = name
  ·have hT : Hid (atF fs name = k) := atF_uniq (by omega) hb.out he
   have ht : ((nameAt fs k).toList == name.toList) = true := (text_beq _ _).2 he
   clear he
   go_wp2
   go_ret
   exact ⟨by rw [hT.out]; rfl, rfl⟩
  have ht := text_beq_no he
  have HE := hid he
  clear he
  go_wp2
  go_round
  case rel =>
   refine ⟨k + 1, by omega, by go_num, ?_⟩
   intro j hj
   by_cases e : j = k
   · subst e; exact HE.out
   exact hb.out j (by omega)
  case measure => simp [intOf]; omega
def CopyF (fs : Fs) : Prop := ∀ i, i < fs.length → (nameAt fs i).size ≤ 281474976710656 ∧ (valAt fs i).size ≤ 281474976710656
theorem implGet_any (v : Value) (n base : Nat) (fs : Fs) (name : Tx) (w : World) (hv : FieldsV w base v n fs) (hn : n ≤ 1073741824) (hsz : CopyF fs) :
  Calls Tryz.prog 78 #[v, .string name] w fun e w' => e = .returned (.tuple #[.string (getV fs name), .bool (getB fs name)]) ∧ Below w.heap.size w w' := by
 have hl := hv.len
 have hv0 := hv
 obtain ⟨oa, cap, rfl, hrow⟩ := hv0.slice
 clear hv0
 obtain ⟨k, hk⟩ := exq (atF fs name)
 have hle := atF_le fs name
 by_cases hin : atF fs name < fs.length
 rotate_left
 ·have hV : Hid (getV fs name = ⟨#[]⟩) := by show _ = _; unfold getV; rw [if_neg hin]
  have hB : Hid (getB fs name = false) := by show _ = _; unfold getB; simpa using hin
  have hkn : k = n := by omega
  go_enter Tryz.func78, Tryz.ntmps78
  go_wp2_with fail
  refine (place_any _ n base fs name _ hv hn).mono ?_
  rintro e w1 ⟨rfl, rfl⟩
  rw [← hk, hkn]
  clear hv hrow hk hle hin hsz hkn
  go_wp2
  go_ret2
  exact ⟨by rw [hV.out, hB.out]; rfl, Below.refl _ _⟩
 have hV : Hid (getV fs name = valAt fs k) := by show _ = _; unfold getV; rw [if_pos hin, hk]
 have hB : Hid (getB fs name = true) := by show _ = _; unfold getB; simpa using hin
 obtain ⟨g, rfl, row⟩ := hrow k (by omega)
 have hc := row.val k (by omega)
 have hlt : (k : Int) < (n : Int) := by omega
 have hne : ((k : Int) == (n : Int)) = false := by rw [beq_eq_false_iff_ne]; omega
 obtain ⟨_, hz⟩ := hsz k (by omega)
 obtain ⟨vl, hvl⟩ := exq (valAt fs k)
 rw [← hvl] at hV hc hz
 go_enter Tryz.func78, Tryz.ntmps78
 go_wp2_with fail
 refine (place_any _ n base fs name _ hv hn).mono ?_
 rintro e w1 ⟨rfl, rfl⟩
 rw [← hk]
 clear hv hrow row hk hvl hle hin hsz
 go_wp2_with fail
 refine (clone_any vl _ hz).mono ?_
 rintro e w2 ⟨rfl, hb2⟩
 go_wp2
 go_ret2
 exact ⟨by rw [hV.out, hB.out]; rfl, hb2⟩
end Go.Proofs.YtopeegjmpphjnaaGreatDoor
namespace Go.Proofs.YtopeegjmpphjnaaGreatDoor
open Go.RowKit
def PathB (n : Int) : Prop := 33 ≤ n ∧ n ≤ 126
def PathOk (s : Tx) : Prop := AllB PathB s ∧ 1 ≤ s.size ∧ s.size ≤ 60 ∧ ∃ h : 0 < s.size, (s[0]'h).toNat = 47
def RespP (st : Int) (fs : Fs) (body : Tx) : Prop := (100 ≤ st ∧ st ≤ 599) ∧ FldsOk fs ∧ body.size ≤ 120
def bs (s : Tx) : List UInt8 := s.data.toList
theorem bs_len (a : Tx) : (bs a).length = a.size := by simp [bs]
end Go.Proofs.YtopeegjmpphjnaaGreatDoor
namespace Go.Proofs.YtopeegjmpphjnaaGreatDoor
open Go.RowKit
open Go.Lib hiding intOf
theorem l3Path_any (s : Tx) (w : World) (hs : s.size ≤ maxLen) :
    Calls Tryz.prog 87 #[.string s] w fun e w' => BoolIs (PathOk s) w e w' := by
  unfold maxLen at hs
  go_enter Tryz.func87, Tryz.ntmps87
  go_wp2
  go_loop [3] (fun i => ∃ k : Nat, k ≤ s.size ∧ i = .int .i64 k ∧ Hid (AllTo PathB s k)) (fun i => s.size - (intOf i).toNat)
  case atStart => exact ⟨0, Nat.zero_le _, rfl, allTo_zero _ _⟩
  case round =>
    obtain ⟨k, hk, rfl, hall⟩ := hrel
    by_cases hlt : k < s.size
    · go_wp2
      all_goals first
        | (go_ret
           have hno : ¬ PathB ((s[k]'hlt).toNat : Int) := by
             unfold PathB
             omega
           exact BoolIs.no (fun h => hno (h.1 k hlt)) (Below.refl _ _))
        | (go_round
           case rel =>
             have hy : PathB ((s[k]'hlt).toNat : Int) := by
               unfold PathB
               omega
             exact ⟨k + 1, by omega, by go_num, allTo_succ hall.out hlt hy⟩
           case measure => simp [intOf]; omega)
    have hend : Hid (AllB PathB s) := allTo_end hall.out hlt
    by_cases h1 : (1 : Int) ≤ (s.size : Int)
    rotate_left
    · go_wp2
      go_ret
      exact BoolIs.no (fun h => by obtain ⟨_, h5, _⟩ := h; omega) (Below.refl _ _)
    have h0 : 0 < s.size := by omega
    by_cases h2 : (s.size : Int) ≤ 60
    rotate_left
    · go_wp2
      go_ret
      exact BoolIs.no (fun h => by obtain ⟨_, _, h5, _⟩ := h; omega) (Below.refl _ _)
    by_cases h3 : ((s[0]'h0).toNat : Int) = 47
    · go_wp2
      go_ret
      exact BoolIs.yes ⟨hend.out, by omega, by omega, h0, by omega⟩ (Below.refl _ _)
    have h4 : (((s[0]'h0).toNat : Int) == 47) = false := by rw [beq_eq_false_iff_ne]; exact h3
    go_wp2
    go_ret
    exact BoolIs.no (fun h => by obtain ⟨_, _, _, _, h5⟩ := h; omega) (Below.refl _ _)
def WalkF (n : Nat) (fs : Fs) : Prop := ∀ i, i < n → (nameAt fs i).size ≤ maxLen ∧ (valAt fs i).size ≤ maxLen
theorem kept_new {w W : World} {o : Obj} (h : Below (w.alloc o).heap.size (w.alloc o) W) : W.heap[w.heap.size]? = some o := by
 rw [h.block _ (by simp)]; exact heap_alloc_new w _
theorem below_new {w W : World} {o : Obj} (h : Below (w.alloc o).heap.size (w.alloc o) W) : Below w.heap.size w W :=
 ((Below.refl _ w).alloc (Nat.le_refl _) o).trans (h.mono (by simp))
theorem l1In_any (x lo hi : Int) (w : World) :
  Calls Tryz.prog 42 #[.int .i64 x, .int .i64 lo, .int .i64 hi] w fun e w' => e = .returned (.bool (decide (lo ≤ x ∧ x ≤ hi))) ∧ w' = w := by
 by_cases h1 : lo ≤ x
 rotate_left
 ·go_enter Tryz.func42, Tryz.ntmps42
  go_wp2
  go_ret
  exact ⟨by simp; omega, rfl⟩
 by_cases h2 : x ≤ hi
 rotate_left
 ·go_enter Tryz.func42, Tryz.ntmps42
  go_wp2
  go_ret
  exact ⟨by simp [h2], rfl⟩
 go_enter Tryz.func42, Tryz.ntmps42
 go_wp2
 go_ret
 exact ⟨by simp [h1, h2], rfl⟩
theorem specRespOk_any (st : Int) (v : Value) (b : Tx) (n base : Nat) (fs : Fs) (w : World) (hv : FieldsV w base v n fs) (hn : n ≤ 1073741824) (hsz : WalkF n fs) (hb : b.size ≤ maxLen) :
  Calls Tryz.prog 90 #[.agg #[.int .i64 st, v, .string b]] w fun e w' => BoolIs (RespP st fs b) w e w' := by
 obtain ⟨oa, cap, rfl, _⟩ := hv.slice
 obtain ⟨r, hr⟩ := exq (w.heap.size)
 have HR : Hid (∀ W, Below (w.alloc (.cells #[.int .i64 st, .slice oa n cap, .string b] 49)).heap.size (w.alloc (.cells #[.int .i64 st, .slice oa n cap, .string b] 49)) W → (W.cell? ⟨r, 1, none⟩ = some (.slice oa n cap) ∧ W.cell? ⟨r, 2, none⟩ = some (.string b)) ∧ FieldsV W base (.slice oa n cap) n fs ∧ Below w.heap.size w W) := fun W h => by
  have hh := kept_new h
  rw [← hr] at hh
  exact ⟨⟨by simp [World.cell?, hh], by simp [World.cell?, hh]⟩, hv.below (below_new h), below_new h⟩
 have HSZ := hid hsz
 unfold maxLen at hb
 clear hv hsz
 go_enter Tryz.func90, Tryz.ntmps90
 go_wp2_with fail
 refine (l1In_any st 100 599 _).mono ?_
 rintro e w1 ⟨rfl, hw1⟩
 have hb1 : Below (w.alloc (.cells #[.int .i64 st, .slice oa n cap, .string b] 49)).heap.size (w.alloc (.cells #[.int .i64 st, .slice oa n cap, .string b] 49)) w1 := by rw [hw1]; exact Below.refl _ _
 clear hw1
 rw [← hr]
 obtain ⟨⟨c2, c3⟩, hv1, hbw1⟩ := HR.out w1 hb1
 have HV1 := hid hv1
 clear hv1
 by_cases hm : 100 ≤ st ∧ st ≤ 599
 rotate_left
 ·have e1 : decide (100 ≤ st ∧ st ≤ 599) = false := by simpa using hm
  have HF : Hid (¬ RespP st fs b) := fun h => hm h.1
  rw [e1]
  clear hr hm e1
  go_wp2_with fail
  go_ret
  exact BoolIs.no HF.out hbw1
 have e1 : decide (100 ≤ st ∧ st ≤ 599) = true := by simpa using hm
 have HM := hid hm
 rw [e1]
 clear hr hm e1
 go_wp2_with fail
 refine (specFieldsOk_any _ n base fs _ HV1.out hn HSZ.out).mono ?_
 rintro e w3 ⟨b2, rfl, kb2, bb3⟩
 have hb3 := hb1.trans (bb3.mono hb1.size)
 clear c2 c3 bb3 hb1 hbw1
 obtain ⟨⟨c2, c3⟩, _, hbw3⟩ := HR.out w3 hb3
 cases b2
 ·have HF : Hid (¬ RespP st fs b) := fun h => by have := kb2.2 h.2.1; cases this
  clear kb2
  go_wp2_with fail
  go_ret
  exact BoolIs.no HF.out hbw3
 ·have HT2 : Hid (FldsOk fs) := kb2.1 rfl
  clear kb2
  by_cases h120 : (b.size : Int) ≤ 120
  ·have HY : Hid (RespP st fs b) := ⟨HM.out, HT2.out, by omega⟩
   go_wp2_with fail
   go_ret
   exact BoolIs.yes HY.out hbw3
  have HF : Hid (¬ RespP st fs b) := fun h => by have := h.2.2; omega
  have hd : decide ((b.size : Int) ≤ 120) = false := by simpa using h120
  go_wp2_with fail
  go_ret
  exact BoolIs.no HF.out hbw3
theorem dgF_len : ∀ (f n : Nat), (dgF f n).length ≤ f
 | 0, n => by simp [dgF]
 | f + 1, n => by
  by_cases h : n = 0
  · rw [h, dgF_zero]; simp
  ·rw [dgF_pos f n h]
   have := dgF_len f (n / 10)
   simp; omega
theorem numText_size (n : Nat) : (numText n).size ≤ 8 := by
 have : (numText n).size = (numL n).length := by simp [numText, ByteArray.size]
 rw [this]
 unfold numL
 split
 · simp
 ·split
  · simp
  · exact dgF_len 8 n
theorem empty_text {b : ByteArray} (h : b.size = 0) : b = ⟨#[]⟩ := by
 apply ByteArray.ext
 exact Array.eq_empty_of_size_eq_zero h
end Go.Proofs.YtopeegjmpphjnaaGreatDoor
namespace Go.Proofs.YtopeegjmpphjnaaGreatDoor
open Go.RowKit
theorem bs_extract (s : Tx) (f j : Nat) : bs (s.extract f j) = ((bs s).take j).drop f := by
 simp [bs, List.drop_take]
end Go.Proofs.YtopeegjmpphjnaaGreatDoor
namespace Go.Proofs.YtopeegjmpphjnaaGreatDoor
open Go.RowKit
open Go.Lib hiding intOf
theorem slice_of_owns {w : World} {base : Nat} {t : TypeId} {size : Nat} {v : Value} {n : Nat} {xs : List Value} (h : w.ownsRow base t size v n xs) : ∃ oa cp, v = .slice oa n cp := by
 rcases h.2 with ⟨rfl, rfl⟩ | ⟨g, cap, cur, rfl, _⟩
 · exact ⟨none, 0, rfl⟩
 · exact ⟨_, cap, rfl⟩
theorem owns_wide {w : World} {B base : Nat} {e : TypeId} {size : Nat} {v : Value} {n : Nat} {xs : List Value} (h : w.ownsRow base e size v n xs) (hB : B ≤ base) : w.ownsRow B e size v n xs := by
 obtain ⟨hl, hv⟩ := h
 refine ⟨hl, ?_⟩
 rcases hv with h0 | ⟨g, cap, cur, h1, h2, h3⟩
 · exact .inl h0
 · exact .inr ⟨g, cap, cur, h1, Nat.le_trans hB h2, h3⟩
theorem owns_same {w w' : World} {base : Nat} {e : TypeId} {size : Nat} {v : Value} {n : Nat} {xs : List Value} (h : w.ownsRow base e size v n xs) (hs : ∀ j, v.ownBlock = some j → w'.heap[j]? = w.heap[j]?) : w'.ownsRow base e size v n xs := by
 obtain ⟨hl, hv⟩ := h
 refine ⟨hl, ?_⟩
 rcases hv with h0 | ⟨g, cap, cur, rfl, h2, h3, h4⟩
 · exact .inl h0
 · exact .inr ⟨g, cap, cur, rfl, h2, by rw [hs g rfl]; exact h3, h4⟩
theorem szTo_mono (fs : Fs) (k : Nat) : ∀ d, szTo fs k ≤ szTo fs (k + d) := by
 intro d
 induction d with
 | zero => exact Nat.le_refl _
 | succ d ih => rw [show k + (d + 1) = (k + d) + 1 by omega, szTo]; omega
theorem szTo_get (fs : Fs) (n i : Nat) (hi : i < n) : (nameAt fs i).size ≤ szTo fs n ∧ (valAt fs i).size ≤ szTo fs n := by
 have h := szTo_mono fs (i + 1) (n - (i + 1))
 rw [show i + 1 + (n - (i + 1)) = n by omega, szTo] at h
 omega
theorem addr_add (b off y : Nat) : (⟨b, off, none⟩ : Addr).add y = ⟨b, off + y, none⟩ := by
 unfold Addr.add; split <;> simp_all
def txt : Value → ByteArray
 | .string s => s
 | _ => ⟨#[]⟩
theorem nameAt_range (f g : Nat → ByteArray) (n i : Nat) (hi : i < n) : nameAt ((List.range n).map fun j => (f j, g j)) i = f i ∧ valAt ((List.range n).map fun j => (f j, g j)) i = g i := by
 unfold nameAt valAt
 rw [List.getD_eq_getElem?_getD, List.getElem?_map, List.getElem?_range hi]
 exact ⟨rfl, rfl⟩
theorem openFields {H : Type} {enc : TypeId × Value → H} {W : World} {fuel : Nat} {a : Oa} {n cap : Nat} {x : DataW H × List MemPlace} (h : DataW.trod enc Tryz.prog W 0 (fun _ => true) true fuel 100 [.slice a n cap] = some x) :
  ∃ fs, ArgF W W.heap.size a n fs ∧ n ≤ maxLen ∧ ∀ i, i < n → (nameAt fs i).size ≤ maxLen ∧ (valAt fs i).size ≤ maxLen := by
 rcases Go.Deep.open_slice_pairs Tryz.underlying100 Tryz.underlying280 (by kernel_rfl) rfl rfl (by kernel_rfl) (by kernel_rfl) h with ⟨hcs, _⟩ | ⟨ad, len, c, m, q, V0, V1, D0, D1, P0, P1, hcs, _, hl, hm, hmm, _, hx⟩
 ·simp at hcs
  obtain ⟨rfl, rfl, rfl⟩ := hcs
  exact ⟨[], ⟨rfl, fun i hi => absurd hi (by omega)⟩, Nat.zero_le _, fun i hi => absurd hi (by omega)⟩
 ·simp at hcs
  obtain ⟨rfl, rfl, rfl⟩ := hcs
  have hm2 : m = cap := by simpa using hmm
  have each : ∀ i, i < n → V0 i = .string (txt (V0 i)) ∧ V1 i = .string (txt (V1 i)) ∧ (txt (V0 i)).size ≤ maxLen ∧ (txt (V1 i)).size ≤ maxLen := fun i hi => by
   obtain ⟨_, _, h3, h4⟩ := hx i (by omega)
   obtain ⟨s, e1, _, e3⟩ := DataW.trod_string Tryz.underlying9 h3
   obtain ⟨t, f1, _, f3⟩ := DataW.trod_string Tryz.underlying9 h4
   have e1' : V0 i = .string s := by simpa using e1
   have f1' : V1 i = .string t := by simpa using f1
   rw [e1', f1']
   exact ⟨rfl, rfl, e3, f3⟩
  refine ⟨(List.range n).map fun j => (txt (V0 j), txt (V1 j)), ⟨by simp, fun i hi => ?_⟩, by omega, fun i hi => ?_⟩
  ·obtain ⟨c1, c2, _, _⟩ := hx i (by omega)
   obtain ⟨c3, _, _, _⟩ := hx 0 (by omega)
   have hsp : ad.spot = none := by
    have := World.cell?_spot c3
    simpa [Addr.add] using this
   obtain ⟨b, off, sp⟩ := ad
   simp only at hsp
   subst hsp
   rw [addr_add] at c1 c2
   obtain ⟨v0, v1, _, _⟩ := each i hi
   obtain ⟨r0, r1⟩ := nameAt_range (fun j => txt (V0 j)) (fun j => txt (V1 j)) n i hi
   rw [r0, r1]
   have hlt := World.block_lt_of_cell? W _ c1
   rw [v0] at c1
   rw [v1] at c2
   exact ⟨b, off, rfl, hlt, c1, c2⟩
  ·obtain ⟨r0, r1⟩ := nameAt_range (fun j => txt (V0 j)) (fun j => txt (V1 j)) n i hi
   rw [r0, r1]
   exact (each i hi).2.2
end Go.Proofs.YtopeegjmpphjnaaGreatDoor
