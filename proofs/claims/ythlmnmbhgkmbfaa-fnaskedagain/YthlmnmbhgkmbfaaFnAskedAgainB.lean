/- What the proof of FnAskedAgain leans on: contracts of the program's and the specification's functions, and plain facts (part 2 of 3). -/
import Derived.Test.YthlmnmbhgkmbfaaFnAskedAgainA
namespace Go.Proofs.Ythlmnmbhgkmbfaa
open Go.RowKit
open Go.Lib hiding intOf

/-- A pick out of texts that the caller has just laid. -/
theorem pick_new (c B : Nat) (xs : List ByteArray) (m : Nat) (hm : ∀ j, j < xs.length → (textAt xs j).size ≤ m) (a : Option Addr) (len cap : Nat) (zs : List Int) (w : World) (hcur : CurAt w c a len cap) (hcode : CodeAt w B a len zs) (hB : B ≤ c) (hn : 1 ≤ xs.length) (hn2 : xs.length ≤ 256) :
    Calls Try.prog 102 #[.pointer (some ⟨c, 0, none⟩), .slice (some ⟨w.heap.size, 0, none⟩) xs.length xs.length] (w.alloc (.cells (xs.map Value.string).toArray 9)) fun e w' => TextDrawn m w c a len cap e w' := by
  have hc := hcur.lt
  refine (l1Pick_any c B w.heap.size xs.length (textAt xs) a len cap zs _ (hcur.below ((Below.refl _ _).alloc (Nat.le_refl _) _) hc) (hcode.grown (World.grownBy_alloc w _ _) hB) hB hn hn2 (listAt_alloc w xs) (by omega)).mono ?_
  rintro e w1 ⟨j, hj, rfl, hcu, hg⟩
  exact ⟨_, rfl, hm j hj, hcu, grownBy_trans (World.grownBy_alloc w _ _) hg⟩

/-- A call on the cursor answers a field of short texts, and turns the cursor alone of what was there. -/
def FieldDrawn (w : World) (c : Nat) (a : Option Addr) (len cap : Nat) (e : Ending) (w' : World) : Prop :=
  ∃ nm vl : ByteArray, e = .returned (.agg #[.string nm, .string vl]) ∧ nm.size ≤ 64 ∧ vl.size ≤ 64 ∧ CurAt w' c a len cap ∧ w.grownBy w' (some c)

/-- The two cells of a field's memory, written. -/
def twoSet (w : World) (r : Nat) (nm vl : ByteArray) : World := (w.setCell ⟨r, 0, none⟩ (.string nm)).setCell ⟨r, 1, none⟩ (.string vl)
theorem twoSet_heap {w : World} {r : Nat} (nm vl : ByteArray) (h : w.heap[r]? = some (.cells #[.string ⟨#[]⟩, .string ⟨#[]⟩] 68)) : (twoSet w r nm vl).heap[r]? = some (.cells #[.string nm, .string vl] 68) := by
  have := heap_set _ r 1 _ _ _ (.string vl) (heap_set w r 0 _ _ _ (.string nm) h)
  simpa [twoSet] using this
theorem twoSet_grown (w : World) (r : Nat) (nm vl : ByteArray) : w.grownBy (twoSet w r nm vl) (some r) :=
  ⟨rfl, rfl, rfl, by simp [twoSet], fun k _ hk => by
    have hne : k ≠ r := fun e => hk (by rw [e])
    unfold twoSet
    rw [heap_setCell_other _ _ k _ (fun e => hne e), heap_setCell_other _ _ k _ (fun e => hne e)]⟩
theorem FieldDrawn.of {w w2 : World} {c r : Nat} {a : Option Addr} {len cap : Nat} {nm vl : ByteArray} (h1 : nm.size ≤ 64) (h2 : vl.size ≤ 64) (hcu : CurAt w2 c a len cap) (hg : w.grownBy w2 (some c)) (hrc : r ≠ c) (hrw : w.heap.size ≤ r) : FieldDrawn w c a len cap (.returned (.agg #[.string nm, .string vl])) (twoSet w2 r nm vl) :=
  ⟨nm, vl, rfl, h1, h2, hcu.grown (twoSet_grown w2 r nm vl) (fun e => hrc (Option.some.inj e)), grown_later hg (twoSet_grown w2 r nm vl) (fun g e => by cases e; exact hrw)⟩

set_option maxHeartbeats 2000000 in
theorem l2DrawField_any (c B : Nat) (a : Option Addr) (len cap : Nat) (zs : List Int) (w : World) (hcur : CurAt w c a len cap) (hcode : CodeAt w B a len zs) (hB : B ≤ c) :
    Calls Try.prog 107 #[.pointer (some ⟨c, 0, none⟩)] w fun e w' => FieldDrawn w c a len cap e w' := by
  go_enter Try.func107, Try.ntmps107
  go_wp2_with fail
  have hcw := hcur.lt
  have hg0 : w.grownBy (w.alloc (.cells #[.string ⟨#[]⟩, .string ⟨#[]⟩] 68)) (some c) := World.grownBy_alloc w _ _
  refine (l1Below_any c B 9 a len cap zs _ (hcur.below ((Below.refl _ _).alloc (Nat.le_refl _) _) hcw) (hcode.grown hg0 hB) hB (by omega) (by omega)).mono ?_
  rintro e w1 ⟨x, rfl, hx0, hx1, hcu1, hg1⟩
  obtain ⟨r, hr⟩ : ∃ r, r = w.heap.size := ⟨_, rfl⟩
  have hs1 : r < w1.heap.size := by have := hg1.size; simp at this; omega
  have hco1 := (hcode.grown hg0 hB).grown hg1 hB
  have hre1 : w1.heap[r]? = some (.cells #[.string ⟨#[]⟩, .string ⟨#[]⟩] 68) := by rw [hr, hg1.block _ (by simp) (fun e => by cases e; omega)]; exact heap_alloc_new w _
  have hgw1 := grownBy_trans hg0 hg1
  have hrc : r ≠ c := by omega
  have hrw : w.heap.size ≤ r := by omega
  rw [← hr]
  clear hcode hcur hg0 hg1 hr
  obtain rfl | rfl | rfl | rfl | rfl | rfl | rfl | rfl | rfl : x = 0 ∨ x = 1 ∨ x = 2 ∨ x = 3 ∨ x = 4 ∨ x = 5 ∨ x = 6 ∨ x = 7 ∨ x = 8 := by omega
  all_goals clear hx0 hx1
  · go_wp2_with fail
    refine (pick_new c B [⟨#[109, 97, 120, 45, 97, 103, 101, 61, 53]⟩, ⟨#[109, 97, 120, 45, 97, 103, 101, 61, 50, 48]⟩, ⟨#[110, 111, 45, 115, 116, 111, 114, 101]⟩, ⟨#[110, 111, 45, 99, 97, 99, 104, 101]⟩, ⟨#[112, 114, 105, 118, 97, 116, 101]⟩, ⟨#[109, 97, 120, 45, 97, 103, 101, 61, 57, 44, 32, 109, 117, 115, 116, 45, 114, 101, 118, 97, 108, 105, 100, 97, 116, 101]⟩, ⟨#[109, 97, 120, 45, 97, 103, 101, 61, 120]⟩, ⟨#[77, 65, 88, 45, 65, 71, 69, 61, 51]⟩] 64 (by decide) a len cap zs w1 hcu1 hco1 hB (by decide) (by decide)).mono ?_
    rintro e w2 ⟨t, rfl, ht, hcu2, hg2⟩
    have hgw2 := grownBy_trans hgw1 hg2
    have hre2 : w2.heap[r]? = some (.cells #[.string ⟨#[]⟩, .string ⟨#[]⟩] 68) := by rw [hg2.block _ hs1 (fun e => by cases e; omega)]; exact hre1
    have hc0 : w2.cell? ⟨r, 0, none⟩ = some (.string ⟨#[]⟩) := by simp [World.cell?, hre2]
    have hc1 : w2.cell? ⟨r, 1, none⟩ = some (.string ⟨#[]⟩) := by simp [World.cell?, hre2]
    have hf0 : w2.frozen? ⟨r, 0, none⟩ = false := by simp [World.frozen?, hre2]
    have hf1 : w2.frozen? ⟨r, 1, none⟩ = false := by simp [World.frozen?, hre2]
    clear hcu1 hco1 hre1 hgw1 hg2
    have hre3 := twoSet_heap ⟨#[99, 97, 99, 104, 101, 45, 99, 111, 110, 116, 114, 111, 108]⟩ t hre2
    have k0 : (twoSet w2 r ⟨#[99, 97, 99, 104, 101, 45, 99, 111, 110, 116, 114, 111, 108]⟩ t).cell? ⟨r, 0, none⟩ = some (.string ⟨#[99, 97, 99, 104, 101, 45, 99, 111, 110, 116, 114, 111, 108]⟩) := by simp [World.cell?, hre3]
    have k1 : (twoSet w2 r ⟨#[99, 97, 99, 104, 101, 45, 99, 111, 110, 116, 114, 111, 108]⟩ t).cell? ⟨r, 1, none⟩ = some (.string t) := by simp [World.cell?, hre3]
    unfold twoSet at k0 k1
    clear hre3
    go_wp2
    exact bodyPost_ret (v := .agg #[.string ⟨#[99, 97, 99, 104, 101, 45, 99, 111, 110, 116, 114, 111, 108]⟩, .string t]) (by simp [results, Try.results107, go_sem, k0, k1]) rfl (FieldDrawn.of (by decide) ht hcu2 hgw2 hrc hrw)
  · go_wp2_with fail
    refine (pick_new c B [⟨#[97]⟩, ⟨#[98]⟩] 64 (by decide) a len cap zs w1 hcu1 hco1 hB (by decide) (by decide)).mono ?_
    rintro e w2 ⟨t, rfl, ht, hcu2, hg2⟩
    have hgw2 := grownBy_trans hgw1 hg2
    have hre2 : w2.heap[r]? = some (.cells #[.string ⟨#[]⟩, .string ⟨#[]⟩] 68) := by rw [hg2.block _ hs1 (fun e => by cases e; omega)]; exact hre1
    have hc0 : w2.cell? ⟨r, 0, none⟩ = some (.string ⟨#[]⟩) := by simp [World.cell?, hre2]
    have hc1 : w2.cell? ⟨r, 1, none⟩ = some (.string ⟨#[]⟩) := by simp [World.cell?, hre2]
    have hf0 : w2.frozen? ⟨r, 0, none⟩ = false := by simp [World.frozen?, hre2]
    have hf1 : w2.frozen? ⟨r, 1, none⟩ = false := by simp [World.frozen?, hre2]
    clear hcu1 hco1 hre1 hgw1 hg2
    have hre3 := twoSet_heap ⟨#[101, 116, 97, 103]⟩ t hre2
    have k0 : (twoSet w2 r ⟨#[101, 116, 97, 103]⟩ t).cell? ⟨r, 0, none⟩ = some (.string ⟨#[101, 116, 97, 103]⟩) := by simp [World.cell?, hre3]
    have k1 : (twoSet w2 r ⟨#[101, 116, 97, 103]⟩ t).cell? ⟨r, 1, none⟩ = some (.string t) := by simp [World.cell?, hre3]
    unfold twoSet at k0 k1
    clear hre3
    go_wp2
    exact bodyPost_ret (v := .agg #[.string ⟨#[101, 116, 97, 103]⟩, .string t]) (by simp [results, Try.results107, go_sem, k0, k1]) rfl (FieldDrawn.of (by decide) ht hcu2 hgw2 hrc hrw)
  · go_wp2_with fail
    refine (pick_new c B [⟨#[108, 97, 110, 103]⟩, ⟨#[108, 97, 110, 103, 44, 32, 107, 105, 110, 100]⟩, ⟨#[42]⟩] 64 (by decide) a len cap zs w1 hcu1 hco1 hB (by decide) (by decide)).mono ?_
    rintro e w2 ⟨t, rfl, ht, hcu2, hg2⟩
    have hgw2 := grownBy_trans hgw1 hg2
    have hre2 : w2.heap[r]? = some (.cells #[.string ⟨#[]⟩, .string ⟨#[]⟩] 68) := by rw [hg2.block _ hs1 (fun e => by cases e; omega)]; exact hre1
    have hc0 : w2.cell? ⟨r, 0, none⟩ = some (.string ⟨#[]⟩) := by simp [World.cell?, hre2]
    have hc1 : w2.cell? ⟨r, 1, none⟩ = some (.string ⟨#[]⟩) := by simp [World.cell?, hre2]
    have hf0 : w2.frozen? ⟨r, 0, none⟩ = false := by simp [World.frozen?, hre2]
    have hf1 : w2.frozen? ⟨r, 1, none⟩ = false := by simp [World.frozen?, hre2]
    clear hcu1 hco1 hre1 hgw1 hg2
    have hre3 := twoSet_heap ⟨#[118, 97, 114, 121]⟩ t hre2
    have k0 : (twoSet w2 r ⟨#[118, 97, 114, 121]⟩ t).cell? ⟨r, 0, none⟩ = some (.string ⟨#[118, 97, 114, 121]⟩) := by simp [World.cell?, hre3]
    have k1 : (twoSet w2 r ⟨#[118, 97, 114, 121]⟩ t).cell? ⟨r, 1, none⟩ = some (.string t) := by simp [World.cell?, hre3]
    unfold twoSet at k0 k1
    clear hre3
    go_wp2
    exact bodyPost_ret (v := .agg #[.string ⟨#[118, 97, 114, 121]⟩, .string t]) (by simp [results, Try.results107, go_sem, k0, k1]) rfl (FieldDrawn.of (by decide) ht hcu2 hgw2 hrc hrw)
  · go_wp2_with fail
    refine (pick_new c B [⟨#[100, 101]⟩, ⟨#[101, 110]⟩] 64 (by decide) a len cap zs w1 hcu1 hco1 hB (by decide) (by decide)).mono ?_
    rintro e w2 ⟨t, rfl, ht, hcu2, hg2⟩
    have hgw2 := grownBy_trans hgw1 hg2
    have hre2 : w2.heap[r]? = some (.cells #[.string ⟨#[]⟩, .string ⟨#[]⟩] 68) := by rw [hg2.block _ hs1 (fun e => by cases e; omega)]; exact hre1
    have hc0 : w2.cell? ⟨r, 0, none⟩ = some (.string ⟨#[]⟩) := by simp [World.cell?, hre2]
    have hc1 : w2.cell? ⟨r, 1, none⟩ = some (.string ⟨#[]⟩) := by simp [World.cell?, hre2]
    have hf0 : w2.frozen? ⟨r, 0, none⟩ = false := by simp [World.frozen?, hre2]
    have hf1 : w2.frozen? ⟨r, 1, none⟩ = false := by simp [World.frozen?, hre2]
    clear hcu1 hco1 hre1 hgw1 hg2
    have hre3 := twoSet_heap ⟨#[108, 97, 110, 103]⟩ t hre2
    have k0 : (twoSet w2 r ⟨#[108, 97, 110, 103]⟩ t).cell? ⟨r, 0, none⟩ = some (.string ⟨#[108, 97, 110, 103]⟩) := by simp [World.cell?, hre3]
    have k1 : (twoSet w2 r ⟨#[108, 97, 110, 103]⟩ t).cell? ⟨r, 1, none⟩ = some (.string t) := by simp [World.cell?, hre3]
    unfold twoSet at k0 k1
    clear hre3
    go_wp2
    exact bodyPost_ret (v := .agg #[.string ⟨#[108, 97, 110, 103]⟩, .string t]) (by simp [results, Try.results107, go_sem, k0, k1]) rfl (FieldDrawn.of (by decide) ht hcu2 hgw2 hrc hrw)
  · go_wp2_with fail
    refine (pick_new c B [⟨#[120]⟩, ⟨#[121]⟩] 64 (by decide) a len cap zs w1 hcu1 hco1 hB (by decide) (by decide)).mono ?_
    rintro e w2 ⟨t, rfl, ht, hcu2, hg2⟩
    have hgw2 := grownBy_trans hgw1 hg2
    have hre2 : w2.heap[r]? = some (.cells #[.string ⟨#[]⟩, .string ⟨#[]⟩] 68) := by rw [hg2.block _ hs1 (fun e => by cases e; omega)]; exact hre1
    have hc0 : w2.cell? ⟨r, 0, none⟩ = some (.string ⟨#[]⟩) := by simp [World.cell?, hre2]
    have hc1 : w2.cell? ⟨r, 1, none⟩ = some (.string ⟨#[]⟩) := by simp [World.cell?, hre2]
    have hf0 : w2.frozen? ⟨r, 0, none⟩ = false := by simp [World.frozen?, hre2]
    have hf1 : w2.frozen? ⟨r, 1, none⟩ = false := by simp [World.frozen?, hre2]
    clear hcu1 hco1 hre1 hgw1 hg2
    have hre3 := twoSet_heap ⟨#[107, 105, 110, 100]⟩ t hre2
    have k0 : (twoSet w2 r ⟨#[107, 105, 110, 100]⟩ t).cell? ⟨r, 0, none⟩ = some (.string ⟨#[107, 105, 110, 100]⟩) := by simp [World.cell?, hre3]
    have k1 : (twoSet w2 r ⟨#[107, 105, 110, 100]⟩ t).cell? ⟨r, 1, none⟩ = some (.string t) := by simp [World.cell?, hre3]
    unfold twoSet at k0 k1
    clear hre3
    go_wp2
    exact bodyPost_ret (v := .agg #[.string ⟨#[107, 105, 110, 100]⟩, .string t]) (by simp [results, Try.results107, go_sem, k0, k1]) rfl (FieldDrawn.of (by decide) ht hcu2 hgw2 hrc hrw)
  · go_wp2_with fail
    refine (pick_new c B [⟨#[48]⟩, ⟨#[51]⟩, ⟨#[57, 48]⟩, ⟨#[120]⟩] 64 (by decide) a len cap zs w1 hcu1 hco1 hB (by decide) (by decide)).mono ?_
    rintro e w2 ⟨t, rfl, ht, hcu2, hg2⟩
    have hgw2 := grownBy_trans hgw1 hg2
    have hre2 : w2.heap[r]? = some (.cells #[.string ⟨#[]⟩, .string ⟨#[]⟩] 68) := by rw [hg2.block _ hs1 (fun e => by cases e; omega)]; exact hre1
    have hc0 : w2.cell? ⟨r, 0, none⟩ = some (.string ⟨#[]⟩) := by simp [World.cell?, hre2]
    have hc1 : w2.cell? ⟨r, 1, none⟩ = some (.string ⟨#[]⟩) := by simp [World.cell?, hre2]
    have hf0 : w2.frozen? ⟨r, 0, none⟩ = false := by simp [World.frozen?, hre2]
    have hf1 : w2.frozen? ⟨r, 1, none⟩ = false := by simp [World.frozen?, hre2]
    clear hcu1 hco1 hre1 hgw1 hg2
    have hre3 := twoSet_heap ⟨#[97, 103, 101]⟩ t hre2
    have k0 : (twoSet w2 r ⟨#[97, 103, 101]⟩ t).cell? ⟨r, 0, none⟩ = some (.string ⟨#[97, 103, 101]⟩) := by simp [World.cell?, hre3]
    have k1 : (twoSet w2 r ⟨#[97, 103, 101]⟩ t).cell? ⟨r, 1, none⟩ = some (.string t) := by simp [World.cell?, hre3]
    unfold twoSet at k0 k1
    clear hre3
    go_wp2
    exact bodyPost_ret (v := .agg #[.string ⟨#[97, 103, 101]⟩, .string t]) (by simp [results, Try.results107, go_sem, k0, k1]) rfl (FieldDrawn.of (by decide) ht hcu2 hgw2 hrc hrw)
  · go_wp2_with fail
    refine (pick_new c B [⟨#[97]⟩, ⟨#[98]⟩] 64 (by decide) a len cap zs w1 hcu1 hco1 hB (by decide) (by decide)).mono ?_
    rintro e w2 ⟨t, rfl, ht, hcu2, hg2⟩
    have hgw2 := grownBy_trans hgw1 hg2
    have hre2 : w2.heap[r]? = some (.cells #[.string ⟨#[]⟩, .string ⟨#[]⟩] 68) := by rw [hg2.block _ hs1 (fun e => by cases e; omega)]; exact hre1
    have hc0 : w2.cell? ⟨r, 0, none⟩ = some (.string ⟨#[]⟩) := by simp [World.cell?, hre2]
    have hc1 : w2.cell? ⟨r, 1, none⟩ = some (.string ⟨#[]⟩) := by simp [World.cell?, hre2]
    have hf0 : w2.frozen? ⟨r, 0, none⟩ = false := by simp [World.frozen?, hre2]
    have hf1 : w2.frozen? ⟨r, 1, none⟩ = false := by simp [World.frozen?, hre2]
    clear hcu1 hco1 hre1 hgw1 hg2
    have hre3 := twoSet_heap ⟨#[105, 102, 45, 110, 111, 110, 101, 45, 109, 97, 116, 99, 104]⟩ t hre2
    have k0 : (twoSet w2 r ⟨#[105, 102, 45, 110, 111, 110, 101, 45, 109, 97, 116, 99, 104]⟩ t).cell? ⟨r, 0, none⟩ = some (.string ⟨#[105, 102, 45, 110, 111, 110, 101, 45, 109, 97, 116, 99, 104]⟩) := by simp [World.cell?, hre3]
    have k1 : (twoSet w2 r ⟨#[105, 102, 45, 110, 111, 110, 101, 45, 109, 97, 116, 99, 104]⟩ t).cell? ⟨r, 1, none⟩ = some (.string t) := by simp [World.cell?, hre3]
    unfold twoSet at k0 k1
    clear hre3
    go_wp2
    exact bodyPost_ret (v := .agg #[.string ⟨#[105, 102, 45, 110, 111, 110, 101, 45, 109, 97, 116, 99, 104]⟩, .string t]) (by simp [results, Try.results107, go_sem, k0, k1]) rfl (FieldDrawn.of (by decide) ht hcu2 hgw2 hrc hrw)
  · go_wp2_with fail
    refine (pick_new c B [⟨#[120, 45, 97]⟩, ⟨#[120, 45, 98]⟩, ⟨#[100, 97, 116, 101]⟩] 64 (by decide) a len cap zs w1 hcu1 hco1 hB (by decide) (by decide)).mono ?_
    rintro e w2 ⟨t, rfl, ht, hcu2, hg2⟩
    have hco2 := hco1.grown hg2 hB
    have hgw2 := grownBy_trans hgw1 hg2
    have hs2 : r < w2.heap.size := by have := hg2.size; omega
    have hre2 : w2.heap[r]? = some (.cells #[.string ⟨#[]⟩, .string ⟨#[]⟩] 68) := by rw [hg2.block _ hs1 (fun e => by cases e; omega)]; exact hre1
    clear hcu1 hco1 hre1 hgw1 hg2
    go_wp2_with fail
    refine (pick_new c B [⟨#[49]⟩, ⟨#[116, 119, 111, 32, 119, 111, 114, 100, 115]⟩, ⟨#[113]⟩] 64 (by decide) a len cap zs w2 hcu2 hco2 hB (by decide) (by decide)).mono ?_
    rintro e w3 ⟨u, rfl, hu, hcu3, hg3⟩
    have hgw3 := grownBy_trans hgw2 hg3
    have hre3 : w3.heap[r]? = some (.cells #[.string ⟨#[]⟩, .string ⟨#[]⟩] 68) := by rw [hg3.block _ hs2 (fun e => by cases e; omega)]; exact hre2
    have hc0 : w3.cell? ⟨r, 0, none⟩ = some (.string ⟨#[]⟩) := by simp [World.cell?, hre3]
    have hc1 : w3.cell? ⟨r, 1, none⟩ = some (.string ⟨#[]⟩) := by simp [World.cell?, hre3]
    have hf0 : w3.frozen? ⟨r, 0, none⟩ = false := by simp [World.frozen?, hre3]
    have hf1 : w3.frozen? ⟨r, 1, none⟩ = false := by simp [World.frozen?, hre3]
    have hre4 := twoSet_heap t u hre3
    have k0 : (twoSet w3 r t u).cell? ⟨r, 0, none⟩ = some (.string t) := by simp [World.cell?, hre4]
    have k1 : (twoSet w3 r t u).cell? ⟨r, 1, none⟩ = some (.string u) := by simp [World.cell?, hre4]
    unfold twoSet at k0 k1
    clear hcu2 hco2 hre2 hgw2 hg3 hre4
    go_wp2
    exact bodyPost_ret (v := .agg #[.string t, .string u]) (by simp [results, Try.results107, go_sem, k0, k1]) rfl (FieldDrawn.of ht hu hcu3 hgw3 hrc hrw)
  · go_wp2_with fail
    refine (pick_new c B [⟨#[120, 45, 97]⟩, ⟨#[120, 45, 98]⟩, ⟨#[100, 97, 116, 101]⟩] 64 (by decide) a len cap zs w1 hcu1 hco1 hB (by decide) (by decide)).mono ?_
    rintro e w2 ⟨t, rfl, ht, hcu2, hg2⟩
    have hco2 := hco1.grown hg2 hB
    have hgw2 := grownBy_trans hgw1 hg2
    have hs2 : r < w2.heap.size := by have := hg2.size; omega
    have hre2 : w2.heap[r]? = some (.cells #[.string ⟨#[]⟩, .string ⟨#[]⟩] 68) := by rw [hg2.block _ hs1 (fun e => by cases e; omega)]; exact hre1
    clear hcu1 hco1 hre1 hgw1 hg2
    go_wp2_with fail
    refine (pick_new c B [⟨#[49]⟩, ⟨#[116, 119, 111, 32, 119, 111, 114, 100, 115]⟩, ⟨#[113]⟩] 64 (by decide) a len cap zs w2 hcu2 hco2 hB (by decide) (by decide)).mono ?_
    rintro e w3 ⟨u, rfl, hu, hcu3, hg3⟩
    have hgw3 := grownBy_trans hgw2 hg3
    have hre3 : w3.heap[r]? = some (.cells #[.string ⟨#[]⟩, .string ⟨#[]⟩] 68) := by rw [hg3.block _ hs2 (fun e => by cases e; omega)]; exact hre2
    have hc0 : w3.cell? ⟨r, 0, none⟩ = some (.string ⟨#[]⟩) := by simp [World.cell?, hre3]
    have hc1 : w3.cell? ⟨r, 1, none⟩ = some (.string ⟨#[]⟩) := by simp [World.cell?, hre3]
    have hf0 : w3.frozen? ⟨r, 0, none⟩ = false := by simp [World.frozen?, hre3]
    have hf1 : w3.frozen? ⟨r, 1, none⟩ = false := by simp [World.frozen?, hre3]
    have hre4 := twoSet_heap t u hre3
    have k0 : (twoSet w3 r t u).cell? ⟨r, 0, none⟩ = some (.string t) := by simp [World.cell?, hre4]
    have k1 : (twoSet w3 r t u).cell? ⟨r, 1, none⟩ = some (.string u) := by simp [World.cell?, hre4]
    unfold twoSet at k0 k1
    clear hcu2 hco2 hre2 hgw2 hg3 hre4
    go_wp2
    exact bodyPost_ret (v := .agg #[.string t, .string u]) (by simp [results, Try.results107, go_sem, k0, k1]) rfl (FieldDrawn.of ht hu hcu3 hgw3 hrc hrw)

end Go.Proofs.Ythlmnmbhgkmbfaa

namespace Go.Proofs.Ythlmnmbhgkmbfaa
open Go.RowKit
open Go.Lib hiding intOf

set_option maxHeartbeats 1000000 in
theorem place_any (v : Value) (n base : Nat) (fs : List (ByteArray × ByteArray)) (name : ByteArray) (w : World) (hv : FieldsV w base v n fs) (hn : n ≤ 1073741824) :
    Calls Try.prog 53 #[v, .string name] w fun e w' => e = .returned (.int .i64 (atF fs name : Int)) ∧ w' = w := by
  have hl := hv.len
  obtain ⟨oa, cap, rfl, hrow⟩ := hv.slice
  clear hv
  go_enter Try.func53, Try.ntmps53
  go_wp2
  go_loop [8] (fun i => ∃ k : Nat, k ≤ n ∧ i = .int .i64 (k : Int) ∧ Hid (∀ j, j < k → nameAt fs j ≠ name)) (fun i => n - (intOf i).toNat)
  case atStart => exact ⟨0, Nat.zero_le _, rfl, fun j h => absurd h (by omega)⟩
  case round =>
    obtain ⟨k, hk, rfl, hb⟩ := hrel
    by_cases hlt : k < n
    · obtain ⟨g, rfl, row⟩ := hrow k hlt
      have hc := row.name k hlt
      have hlt2 : (k : Int) < (n : Int) := by omega
      clear hrow row
      by_cases he : nameAt fs k = name
      · have hT : Hid (atF fs name = k) := atF_uniq (by omega) hb.out he
        have ht : ((nameAt fs k).toList == name.toList) = true := (text_beq _ _).2 he
        clear he
        go_wp2
        go_ret
        exact ⟨by rw [hT.out]; rfl, rfl⟩
      · have ht := text_beq_no he
        have HE : Hid (nameAt fs k ≠ name) := he
        clear he
        go_wp2
        go_round
        case rel =>
          refine ⟨k + 1, by omega, by go_num, ?_⟩
          intro j hj
          by_cases e : j = k
          · subst e; exact HE.out
          · exact hb.out j (by omega)
        case measure => simp [intOf]; omega
    · have hT : Hid (atF fs name = n) := by
        have := atF_none (fs := fs) (name := name) (fun j hj => hb.out j (by omega))
        show _ = _
        omega
      clear hrow
      go_wp2
      go_ret
      exact ⟨by rw [hT.out]; rfl, rfl⟩

set_option maxHeartbeats 1000000 in
theorem newField_any (nm vl : ByteArray) (w : World) (h1 : nm.size ≤ 281474976710656) (h2 : vl.size ≤ 281474976710656) :
    Calls Try.prog 79 #[.string nm, .string vl] w fun e w' => e = .returned (.agg #[.string nm, .string vl]) ∧ Below w.heap.size w w' := by
  go_enter Try.func79, Try.ntmps79
  go_wp2_with fail
  refine (clone_any nm _ h1).mono ?_
  rintro e w1 ⟨rfl, hb1⟩
  go_wp2_with fail
  refine (clone_any vl _ h2).mono ?_
  rintro e w2 ⟨rfl, hb2⟩
  obtain ⟨r, hr⟩ : ∃ r, r = w.heap.size := ⟨_, rfl⟩
  have h0 : (w.alloc (.cells #[.string ⟨#[]⟩, .string ⟨#[]⟩] 68)).heap.size = w.heap.size + 1 := by simp
  have hb : Below w.heap.size w w2 := ((Below.refl _ w).alloc (Nat.le_refl _) _).trans ((hb1.trans (hb2.mono hb1.size)).mono (by omega))
  have hre2 : w2.heap[r]? = some (.cells #[.string ⟨#[]⟩, .string ⟨#[]⟩] 68) := by
    rw [hr, (hb1.trans (hb2.mono hb1.size)).block _ (by omega)]; exact heap_alloc_new w _
  have hc0 : w2.cell? ⟨r, 0, none⟩ = some (.string ⟨#[]⟩) := by simp [World.cell?, hre2]
  have hc1 : w2.cell? ⟨r, 1, none⟩ = some (.string ⟨#[]⟩) := by simp [World.cell?, hre2]
  have hf0 : w2.frozen? ⟨r, 0, none⟩ = false := by simp [World.frozen?, hre2]
  have hf1 : w2.frozen? ⟨r, 1, none⟩ = false := by simp [World.frozen?, hre2]
  have hre3 := twoSet_heap nm vl hre2
  have k0 : (twoSet w2 r nm vl).cell? ⟨r, 0, none⟩ = some (.string nm) := by simp [World.cell?, hre3]
  have k1 : (twoSet w2 r nm vl).cell? ⟨r, 1, none⟩ = some (.string vl) := by simp [World.cell?, hre3]
  have hb3 : Below w.heap.size w (twoSet w2 r nm vl) := (hb.setCell (p := ⟨r, 0, none⟩) (by simp [hr]) _).setCell (p := ⟨r, 1, none⟩) (by simp [hr]) _
  have HB3 : Hid (Below w.heap.size w (twoSet w2 r nm vl)) := hb3
  rw [← hr]
  unfold twoSet at k0 k1
  clear hre3 hre2 hb hb3 hb1 hb2 hr h0
  go_wp2
  exact bodyPost_ret (v := .agg #[.string nm, .string vl]) (by simp [results, Try.results79, go_sem, k0, k1]) rfl ⟨rfl, HB3.out⟩

theorem cell_set_other (w : World) (r o g p : Nat) (v : Value) (h : g ≠ r) : (w.setCell ⟨r, o, none⟩ v).cell? ⟨g, p, none⟩ = w.cell? ⟨g, p, none⟩ := by
  unfold World.cell?
  rw [heap_setCell_other _ _ g _ (fun e => h e)]
/-- Every text of the fields is short enough to be copied. -/
def CopyF (fs : List (ByteArray × ByteArray)) : Prop := ∀ i, i < fs.length → (nameAt fs i).size ≤ 281474976710656 ∧ (valAt fs i).size ≤ 281474976710656

set_option maxHeartbeats 1000000 in
theorem copied_any (v : Value) (n base : Nat) (fs : List (ByteArray × ByteArray)) (w : World) (hv : FieldsV w base v n fs) (hn : n ≤ 2000000) (hsz : CopyF fs) :
    Calls Try.prog 78 #[v] w fun e w' => RowF fs w e w' := by
  obtain ⟨i0, hi, hz0, hz1, hz2⟩ := info_parts info33
  obtain ⟨M, hM⟩ : ∃ M, M = madeCells (Value.agg #[.string ⟨#[]⟩, .string ⟨#[]⟩]).cells (((n : Nat) : Int).toNat * i0.size) := ⟨_, rfl⟩
  have hmk : ∀ W : World, (Instr.makeSlice 75 (.int .i64 (n : Int)) (.int .i64 (n : Int))).run Try.prog W = .ok (.slice (some ⟨W.heap.size, 0, none⟩) n n) (W.alloc (.cells M 68)) := fun W => by
    have h := run_make (P := Try.prog) W 75 68 i0 (.agg #[.string ⟨#[]⟩, .string ⟨#[]⟩]) Try.underlying75 hi hz0 .i64 .i64 (n : Int) (n : Int) (by omega) (by omega) (by rw [hz2]; omega) (by omega)
    rw [← hM] at h
    simpa using h
  have hMs : M.size = n * 2 := by rw [hM, size_madeCells, hz1]; simp
  have hlen := hv.len
  obtain ⟨oa, cap, rfl, hrow⟩ := hv.slice
  have HROW : Hid (∀ k, k < n → ∃ g, oa = some ⟨g, 0, none⟩ ∧ FieldRow base w g n cap fs) := hrow
  have HSZ : Hid (CopyF fs) := hsz
  clear hM hv hrow hsz
  have HP : Hid (PartRow (w.alloc (.cells M 68)) w.heap.size n 0 fs) := ⟨M, heap_alloc_new w _, hMs, fun i h => absurd h (by omega)⟩
  go_enter Try.func78, Try.ntmps78
  go_wp2
  go_loopw [10] (fun i wr => ∃ k : Nat, k ≤ n ∧ i = .int .i64 (k : Int) ∧ Hid (PartRow wr w.heap.size n k fs) ∧ Below w.heap.size w wr) (fun i _ => n - (intOf i).toNat)
  case atStart => exact ⟨0, Nat.zero_le _, rfl, HP, (Below.refl _ _).alloc (Nat.le_refl _) _⟩
  case round =>
    obtain ⟨k, hk, rfl, hpr, hbw⟩ := hrel
    by_cases hlt : k < n
    · have hlt2 : (k : Int) < (n : Int) := by omega
      obtain ⟨g, rfl, row⟩ := HROW.out k hlt
      have hrowlt := row.lt
      have HRW : Hid (FieldRow base w g n cap fs) := row
      have row1 := row.below hbw row.lt
      have hc1 := row1.name k hlt
      have hc2 := row1.val k hlt
      obtain ⟨z1, z2⟩ := HSZ.out k (by omega)
      obtain ⟨nm, hnm⟩ : ∃ y, y = nameAt fs k := ⟨_, rfl⟩
      obtain ⟨vl, hvl⟩ : ∃ y, y = valAt fs k := ⟨_, rfl⟩
      rw [← hnm] at hc1 z1
      rw [← hvl] at hc2 z2
      have HNM : Hid (nm = nameAt fs k) := hnm
      have HVL : Hid (vl = valAt fs k) := hvl
      clear hnm hvl row row1
      have hgr : g < w.heap.size := hrowlt
      have HA : Hid (∀ w0 w1, Below wr.heap.size wr w0 → Below w0.heap.size w0 w1 → (w1.cell? ⟨g, k * 2, none⟩ = some (.string nm) ∧ w1.cell? ⟨g, k * 2 + 1, none⟩ = some (.string vl)) ∧ (∃ u, w1.cell? ⟨w.heap.size, k * 2, none⟩ = some u) ∧ (∃ u, w1.cell? ⟨w.heap.size, k * 2 + 1, none⟩ = some u) ∧ w1.frozen? ⟨w.heap.size, k * 2, none⟩ = false ∧ w1.frozen? ⟨w.heap.size, k * 2 + 1, none⟩ = false ∧ Hid (PartRow ((w1.setCell ⟨w.heap.size, k * 2, none⟩ (.string nm)).setCell ⟨w.heap.size, k * 2 + 1, none⟩ (.string vl)) w.heap.size n (k + 1) fs) ∧ Below w.heap.size w w1 ∧ (((w1.setCell ⟨w.heap.size, k * 2, none⟩ (.string nm)).setCell ⟨w.heap.size, k * 2 + 1, none⟩ (.string vl)).cell? ⟨g, k * 2, none⟩ = some (.string nm) ∧ ((w1.setCell ⟨w.heap.size, k * 2, none⟩ (.string nm)).setCell ⟨w.heap.size, k * 2 + 1, none⟩ (.string vl)).cell? ⟨g, k * 2 + 1, none⟩ = some (.string vl))) := fun w0 w1 h h' => by
        have hx := h.trans (h'.mono h.size)
        have hy := hbw.trans (hx.mono hbw.size)
        have row1 := HRW.out.below hy hgr
        have a1 := row1.name k hlt
        have a2 := row1.val k hlt
        rw [← HNM.out] at a1
        rw [← HVL.out] at a2
        have hpr1 := hpr.out.below hx hpr.out.lt
        have hput := hpr1.put hlt
        rw [← HNM.out, ← HVL.out] at hput
        exact ⟨⟨a1, a2⟩, hpr1.cell (k * 2) (by omega), hpr1.cell (k * 2 + 1) (by omega), hpr1.frozen _, hpr1.frozen _, hput, hy, by rw [cell_set_other _ _ _ _ _ _ (by omega), cell_set_other _ _ _ _ _ _ (by omega)]; exact a1, by rw [cell_set_other _ _ _ _ _ _ (by omega), cell_set_other _ _ _ _ _ _ (by omega)]; exact a2⟩
      go_wp2
      go_region_held3 (fun w' => w'.cell? ⟨g, k * 2, none⟩ = some (.string nm) ∧ w'.cell? ⟨g, k * 2 + 1, none⟩ = some (.string vl)) (first | assumption | go_keep) (first | (go_at_call 79; refine (newField_any nm vl _ z1 z2).mono ?_; rintro e w1 ⟨rfl, hb1⟩; obtain ⟨hcc, ⟨u0, hu0⟩, ⟨u1, hu1⟩, f0, f1, HPUT, hb2, hs1, hs2⟩ := HA.out _ w1 ((Below.refl _ wr).drew) hb1))
      go_wp2
      go_roundw
      case rel => exact ⟨k + 1, by omega, by go_num, HPUT, (hb2.setCell (Nat.le_refl _) _).setCell (Nat.le_refl _) _⟩
      case measure => simp [intOf]; omega
    · obtain rfl : k = n := by omega
      go_wp2
      go_ret
      exact ⟨_, rfl, by rw [hlen]; exact hpr.out.owns hlen (by unfold maxLen; omega) (Nat.le_refl _), hbw⟩

set_option maxHeartbeats 1000000 in
theorem implGet_any (v : Value) (n base : Nat) (fs : List (ByteArray × ByteArray)) (name : ByteArray) (w : World) (hv : FieldsV w base v n fs) (hn : n ≤ 1073741824) (hsz : CopyF fs) :
    Calls Try.prog 20 #[v, .string name] w fun e w' => e = .returned (.tuple #[.string (getV fs name), .bool (getB fs name)]) ∧ Below w.heap.size w w' := by
  have hl := hv.len
  have hv0 := hv
  obtain ⟨oa, cap, rfl, hrow⟩ := hv0.slice
  clear hv0
  obtain ⟨k, hk⟩ : ∃ k, k = atF fs name := ⟨_, rfl⟩
  have hle := atF_le fs name
  by_cases hin : atF fs name < fs.length
  · have hV : Hid (getV fs name = valAt fs k) := by show _ = _; unfold getV; rw [if_pos hin, hk]
    have hB : Hid (getB fs name = true) := by show _ = _; unfold getB; simpa using hin
    obtain ⟨g, rfl, row⟩ := hrow k (by omega)
    have hc := row.val k (by omega)
    have hlt : (k : Int) < (n : Int) := by omega
    have hne : ((k : Int) == (n : Int)) = false := by rw [beq_eq_false_iff_ne]; omega
    obtain ⟨_, hz⟩ := hsz k (by omega)
    obtain ⟨vl, hvl⟩ : ∃ y, y = valAt fs k := ⟨_, rfl⟩
    rw [← hvl] at hV hc hz
    go_enter Try.func20, Try.ntmps20
    go_wp2_with fail
    refine (place_any _ n base fs name _ hv hn).mono ?_
    rintro e w1 ⟨rfl, rfl⟩
    rw [← hk]
    clear hv hrow row hk hvl hle hin hsz
    go_wp2_with fail
    refine (clone_any vl _ hz).mono ?_
    rintro e w2 ⟨rfl, hb2⟩
    go_wp2
    go_ret2
    exact ⟨by rw [hV.out, hB.out]; rfl, hb2⟩
  · have hV : Hid (getV fs name = ⟨#[]⟩) := by show _ = _; unfold getV; rw [if_neg hin]
    have hB : Hid (getB fs name = false) := by show _ = _; unfold getB; simpa using hin
    have hkn : k = n := by omega
    go_enter Try.func20, Try.ntmps20
    go_wp2_with fail
    refine (place_any _ n base fs name _ hv hn).mono ?_
    rintro e w1 ⟨rfl, rfl⟩
    rw [← hk, hkn]
    clear hv hrow hk hle hin hsz hkn
    go_wp2
    go_ret2
    exact ⟨by rw [hV.out, hB.out]; rfl, Below.refl _ _⟩

end Go.Proofs.Ythlmnmbhgkmbfaa

namespace Go.Proofs.Ythlmnmbhgkmbfaa
open Go.RowKit
open Go.Lib hiding intOf

theorem heap_setCells (b : Nat) : ∀ (vs : List Value) (o : Nat) (w : World) (cur : Array Value) (t : TypeId) (fz : Nat × Nat), w.heap[b]? = some (.cells cur t fz) → ∃ cur', (w.setCells b o vs).heap[b]? = some (.cells cur' t fz) ∧ cur'.size = cur.size
  | [], _, _, cur, _, _, h => ⟨cur, h, rfl⟩
  | v :: r, o, w, cur, t, fz, h => by
    obtain ⟨c, h1, h2⟩ := heap_setCells b r (o + 1) (w.setCell ⟨b, o, none⟩ v) _ t fz (heap_set w b o cur t fz v h)
    exact ⟨c, h1, by simpa using h2⟩
theorem below_cells {B g : Nat} (hg : B ≤ g) : ∀ (vs : List Value) (o : Nat) (w : World), Below B w (w.setCells g o vs)
  | [], _, w => Below.refl B w
  | v :: r, o, w => ((Below.refl B w).setCell (p := ⟨g, o, none⟩) hg v).trans (below_cells hg r (o + 1) _)
theorem nameAt_erase (fs : List (ByteArray × ByteArray)) (i m : Nat) : nameAt (fs.eraseIdx i) m = (if m < i then nameAt fs m else nameAt fs (m + 1)) ∧ valAt (fs.eraseIdx i) m = (if m < i then valAt fs m else valAt fs (m + 1)) := by
  have h := List.getElem?_eraseIdx (l := fs) (i := i) (j := m)
  unfold nameAt valAt
  rw [List.getD_eq_getElem?_getD, List.getD_eq_getElem?_getD, List.getD_eq_getElem?_getD, h]
  split <;> exact ⟨rfl, rfl⟩
/-- The two cells of an empty field, laid by 'clear'. -/
theorem run_clear_two (w : World) (t e ty : TypeId) (ht : Try.prog.underlying t = some (.slice e)) (hv : ∀ w, (zeroValue e).run Try.prog w = .ok (.agg #[.string ⟨#[]⟩, .string ⟨#[]⟩]) w) (b o c : Nat)
    (hc : ∀ j, j < 2 → (w.cell? ⟨b, o + j, none⟩).isSome = true) (hf : ∀ j, j < 2 → w.frozen? ⟨b, o + j, none⟩ = false) :
    (Builtin.clear_ #[t] ty #[.slice (some ⟨b, o, none⟩) 1 c]).run Try.prog w = .ok (.tuple #[]) (w.setCells b o [.string ⟨#[]⟩, .string ⟨#[]⟩]) := by
  have hzc : (Builtin.zeroCells (Value.agg #[.string ⟨#[]⟩, .string ⟨#[]⟩]).cells 1).toList = [.string ⟨#[]⟩, .string ⟨#[]⟩] := by simp [Builtin.zeroCells, Value.cells, List.range_succ]
  have hst := run_storeCells_cells (P := Try.prog) b o [.string ⟨#[]⟩, .string ⟨#[]⟩] 0 w (by simpa using hc) (by simpa using hf) (two_text _ _)
  simp only [Nat.add_zero] at hst
  simp [Builtin.clear_, run_underlying ht, hv, hzc, hst]

/-- The row behind the two writings. -/
theorem FieldRow.erased {base : Nat} {w : World} {g n cap : Nat} {fs : List (ByteArray × ByteArray)} (h : FieldRow base w g n cap fs) (i : Nat) (hi : i < n) : FieldRow base ((w.setCells g (i * 2) ((flatF fs).drop ((i + 1) * 2))).setCells g ((n - 1) * 2) [.string ⟨#[]⟩, .string ⟨#[]⟩]) g (n - 1) cap (fs.eraseIdx i) := by
  have hl := h.len; have hle := h.le
  obtain ⟨cur, h1, h2, h3⟩ := h.heap
  obtain ⟨c1, k1, k2⟩ := heap_setCells g ((flatF fs).drop ((i + 1) * 2)) (i * 2) w cur _ _ h1
  obtain ⟨c2, k3, k4⟩ := heap_setCells g [.string ⟨#[]⟩, .string ⟨#[]⟩] ((n - 1) * 2) _ c1 _ _ k1
  have hcell : ∀ j, c2[j]? = (((w.setCells g (i * 2) ((flatF fs).drop ((i + 1) * 2))).setCells g ((n - 1) * 2) [.string ⟨#[]⟩, .string ⟨#[]⟩]).cell? ⟨g, j, none⟩) := fun j => by
    simp only [World.cell?, k3]
    simp
  have hlen : ((flatF fs).drop ((i + 1) * 2)).length = (n - (i + 1)) * 2 := by rw [List.length_drop, flatF_len, hl]; omega
  have hold : ∀ j, j < n * 2 → w.cell? ⟨g, j, none⟩ = (flatF fs)[j]? := fun j hj => by
    have hs : j < (flatF fs).length := by rw [flatF_len, hl]; exact hj
    have := h.cells j _ (List.getElem?_eq_getElem hs)
    rw [List.getElem?_eq_getElem hs, ← this]
    congr 1
    unfold Addr.add; split <;> simp_all
  have hnew : ∀ j, j < (n - 1) * 2 → c2[j]? = (if j < i * 2 then (flatF fs)[j]? else (flatF fs)[j + 2]?) := fun j hj => by
    rw [hcell, World.cell?_setCells_out g _ _ _ _ (fun _ _ => .inl hj)]
    split
    · rename_i hlt
      rw [World.cell?_setCells_out g _ _ _ _ (fun _ _ => .inl hlt)]
      exact hold j (by omega)
    · rename_i hge
      have hin := World.cell?_setCells_in g ((flatF fs).drop ((i + 1) * 2)) (i * 2) w (fun t ht => by rw [hold _ (by omega), List.getElem?_eq_getElem (by rw [flatF_len]; omega)]; rfl) (j - i * 2) (by omega)
      rw [show i * 2 + (j - i * 2) = j by omega] at hin
      rw [hin, List.getElem_drop, ← List.getElem?_eq_getElem]
      congr 1
      omega
  have hsz : ((w.setCells g (i * 2) ((flatF fs).drop ((i + 1) * 2))).setCells g ((n - 1) * 2) [.string ⟨#[]⟩, .string ⟨#[]⟩]).heap.size ≥ w.heap.size := ((below_cells (Nat.zero_le g) _ _ _).trans (below_cells (Nat.zero_le g) _ _ _)).size
  have hlt := h.lt
  refine ⟨by rw [List.length_eraseIdx, if_pos (by omega)]; omega, h.base, by omega, by omega, h.mx, c2, k3, by omega, ?_⟩
  intro m hm
  have he := nameAt_erase fs i m
  rw [he.1, he.2, hnew _ (by omega), hnew _ (by omega)]
  by_cases c : m < i
  · rw [if_pos c, if_pos c, if_pos (show m * 2 < i * 2 by omega), if_pos (show m * 2 + 1 < i * 2 by omega)]
    exact flatF_get fs m (by omega)
  · rw [if_neg c, if_neg c, if_neg (show ¬ m * 2 < i * 2 by omega), if_neg (show ¬ m * 2 + 1 < i * 2 by omega)]
    have := flatF_get fs (m + 1) (by omega)
    rw [show (m + 1) * 2 = m * 2 + 2 by omega, show m * 2 + 2 + 1 = m * 2 + 1 + 2 by omega] at this
    exact this

set_option maxHeartbeats 2000000 in
set_option maxRecDepth 100000 in
theorem del_at (base g n cap : Nat) (fs : List (ByteArray × ByteArray)) (i j : Nat) (w : World) (row : FieldRow base w g n cap fs) (hi : i < n) (hij : j = i + 1) :
    Calls Try.prog 80 #[.slice (some ⟨g, 0, none⟩) n cap, .int .i64 (i : Int), .int .i64 (j : Int)] w fun e w' => e = .returned (.slice (some ⟨g, 0, none⟩) (n - 1) cap) ∧ FieldRow base w' g (n - 1) cap (fs.eraseIdx i) ∧ Below base w w' := by
  obtain ⟨i0, hi0, hz0, hz1, hz2⟩ := info_parts info33
  have hl := row.len; have hle := row.le; have hmx := row.mx
  unfold maxLen at hmx
  obtain ⟨news, hnews⟩ : ∃ news, news = (flatF fs).drop (j * 2) := ⟨_, rfl⟩
  have hlen : news.length = (n - j) * 2 := by rw [hnews, List.length_drop, flatF_len, hl]; omega
  have hcs := row.cells
  obtain ⟨A, hA, hsrc⟩ : ∃ A : Addr, (if cap = j then some (⟨g, 0, none⟩ : Addr) else some ⟨g, j * 2, none⟩) = some A ∧ Hid (∀ t u, news[t]? = some u → w.drew.cell? (A.add t) = some u) := by
    by_cases h : cap = j
    · refine ⟨⟨g, 0, none⟩, by simp [h], fun t u hu => ?_⟩
      have h0 : news.length = 0 := by rw [hlen]; omega
      rw [List.length_eq_zero_iff.1 h0] at hu
      simp at hu
    · refine ⟨⟨g, j * 2, none⟩, by simp [h], fun t u hu => ?_⟩
      rw [hnews, List.getElem?_drop] at hu
      have := hcs _ u hu
      have e0 : ∀ x y : Nat, (⟨g, x, none⟩ : Addr).add y = ⟨g, x + y, none⟩ := fun x y => by unfold Addr.add; split <;> simp_all
      rw [e0] at this ⊢
      rw [Nat.zero_add] at this
      exact this
  have s1 : Hid (news.length = (n - j) * 2) := hlen
  have s2 : Hid (∀ u ∈ news, u.oneCell' = true) := fun u hu => flat_one fs u (List.mem_of_mem_drop (by rw [← hnews]; exact hu))
  have s3 : Hid (∀ t, t < news.length → (w.drew.cell? ⟨g, 0 + i * 2 + t, none⟩).isSome = true ∧ w.drew.frozen? ⟨g, 0 + i * 2 + t, none⟩ = false) := fun t ht => by
    rw [hlen] at ht
    refine ⟨?_, row.frozen _⟩
    have hs : 0 + i * 2 + t < (flatF fs).length := by rw [flatF_len, hl]; omega
    have := hcs _ _ (List.getElem?_eq_getElem hs)
    have e0 : (⟨g, 0, none⟩ : Addr).add (0 + i * 2 + t) = ⟨g, 0 + i * 2 + t, none⟩ := by unfold Addr.add; split <;> simp_all
    rw [e0] at this
    show (w.cell? _).isSome = true
    rw [this]; rfl
  obtain ⟨W1, hW1⟩ : ∃ W1, W1 = w.drew.setCells g (0 + i * 2) news := ⟨_, rfl⟩
  have hrow := (row.below ((Below.refl _ w).drew) row.lt).erased i hi
  rw [← hij, ← hnews, show i * 2 = 0 + i * 2 by omega, ← hW1] at hrow
  have hb1 : Below base w W1 := by rw [hW1]; exact ((Below.refl base w).drew).trans (below_cells row.base _ _ _)
  have HB : Hid (Below base w (W1.setCells g ((n - 1) * 2) [.string ⟨#[]⟩, .string ⟨#[]⟩])) := hb1.trans (below_cells row.base _ _ _)
  have HROW : Hid (FieldRow base (W1.setCells g ((n - 1) * 2) [.string ⟨#[]⟩, .string ⟨#[]⟩]) g (n - 1) cap (fs.eraseIdx i)) := hrow
  have hcell : ∀ j, j < 2 → (W1.cell? ⟨g, (n - 1) * 2 + j, none⟩).isSome = true := fun j hj => by
    rw [hW1]
    have hs : (n - 1) * 2 + j < (flatF fs).length := by rw [flatF_len, hl]; omega
    have := hcs _ _ (List.getElem?_eq_getElem hs)
    have e0 : (⟨g, 0, none⟩ : Addr).add ((n - 1) * 2 + j) = ⟨g, (n - 1) * 2 + j, none⟩ := by unfold Addr.add; split <;> simp_all
    rw [e0] at this
    rw [World.cell?_setCells_out g _ _ _ _ (fun _ _ => .inr (by simp only []; omega))]
    show (w.cell? _).isSome = true
    rw [this]; rfl
  have hfr : ∀ j, j < 2 → W1.frozen? ⟨g, (n - 1) * 2 + j, none⟩ = false := fun j _ => by
    rw [hW1, World.frozen?_setCells]; exact row.frozen _
  have hcl : ∀ ty c, (Builtin.clear_ #[75] ty #[.slice (some ⟨g, (i + (n - j)) * 2, none⟩) (n - (i + (n - j))) c]).run Try.prog W1 = .ok (.tuple #[]) (W1.setCells g ((n - 1) * 2) [.string ⟨#[]⟩, .string ⟨#[]⟩]) :=
    fun ty c => by
      rw [show i + (n - j) = n - 1 by omega, show n - (n - 1) = 1 by omega]
      exact run_clear_two W1 75 68 ty Try.underlying75 Try.zeroValue68 g _ c hcell hfr
  have hne1 : ¬ cap = i + (n - j) := by omega
  have hle1 : i + (n - j) ≤ n := by omega
  have hL : Hid (i + (n - j) = n - 1) := by show _ = _; omega
  have hW : Hid (W1 = w.drew.setCells g (0 + i * 2) news) := hW1
  clear hW1 hb1 hrow hcell hfr hcs hlen hnews row
  have hic : i ≤ cap := by omega
  have hjc : j ≤ cap := by omega
  have hjn : (j : Int) ≤ (n : Int) := by omega
  have hij2 : (i : Int) < (j : Int) := by omega
  clear hij
  go_enter Try.func80, Try.ntmps80
  go_wp2_with fail
  go_region_law (refine step_append_room rfl (.tmp 22) (.tmp 25) 75 rfl 68 i0 2 Try.underlying75 hi0 hz1 g 0 i cap (by simp [Act.eval, Act.put]) A (n - j) (cap - j) news (by simp [Act.eval, Act.put]) s1.out hsrc.out s2.out (by omega) s3.out ?_; rw [← hW.out])
  go_wp2
  go_ret
  exact ⟨by rw [← hL.out]; rfl, HROW.out, HB.out⟩

theorem del_any (base g n cap : Nat) (fs : List (ByteArray × ByteArray)) (i : Nat) (w : World) (row : FieldRow base w g n cap fs) (hi : i < n) :
    Calls Try.prog 80 #[.slice (some ⟨g, 0, none⟩) n cap, .int .i64 (i : Int), .int .i64 ((i : Int) + 1)] w fun e w' => e = .returned (.slice (some ⟨g, 0, none⟩) (n - 1) cap) ∧ FieldRow base w' g (n - 1) cap (fs.eraseIdx i) ∧ Below base w w' :=
  del_at base g n cap fs i (i + 1) w row hi rfl

end Go.Proofs.Ythlmnmbhgkmbfaa

namespace Go.Proofs.Ythlmnmbhgkmbfaa
open Go.RowKit
open Go.Lib hiding intOf

theorem pair_at (fs : List (ByteArray × ByteArray)) (k : Nat) (h : k < fs.length) : (nameAt fs k, valAt fs k) = fs[k] := by
  unfold nameAt valAt
  rw [List.getD_eq_getElem?_getD, List.getElem?_eq_getElem h]
  rfl
theorem dropTo_none (fs : List (ByteArray × ByteArray)) : ∀ k, k ≤ fs.length → dropTo fs (-1) k = fs.take k := by
  intro k
  induction k with
  | zero => intro _; rfl
  | succ k ih =>
    intro hk
    rw [dropTo, if_neg (by omega), ih (by omega), pair_at fs k (by omega), List.take_append_getElem (by omega)]
theorem dropTo_at (fs : List (ByteArray × ByteArray)) (a : Nat) : ∀ k, k ≤ fs.length → dropTo fs (a : Int) k = (if a < k then (fs.take k).eraseIdx a else fs.take k) := by
  intro k
  induction k with
  | zero => intro _; rfl
  | succ k ih =>
    intro hk
    have ht : fs.take (k + 1) = fs.take k ++ [fs[k]] := (List.take_append_getElem (by omega)).symm
    have hl : (fs.take k).length = k := by rw [List.length_take]; omega
    rw [dropTo, ih (by omega), pair_at fs k (by omega), ht]
    by_cases e : k = a
    · subst e
      rw [if_pos rfl, if_neg (by omega), if_pos (by omega), List.eraseIdx_append_of_length_le (by omega), hl, Nat.sub_self]
      simp
    · rw [if_neg (by omega)]
      by_cases c : a < k
      · rw [if_pos c, if_pos (by omega), List.eraseIdx_append_of_lt_length (by omega)]
      · rw [if_neg c, if_neg (by omega)]
theorem dropF_eq (fs : List (ByteArray × ByteArray)) (name : ByteArray) : dropF fs name = (if atF fs name < fs.length then fs.eraseIdx (atF fs name) else fs) := by
  unfold dropF atI
  by_cases h : atF fs name < fs.length
  · rw [if_pos h, if_pos h, dropTo_at fs _ _ (Nat.le_refl _), if_pos h, List.take_length]
  · rw [if_neg h, if_neg h, dropTo_none fs _ (Nat.le_refl _), List.take_length]
theorem putF_eq (fs : List (ByteArray × ByteArray)) (name value : ByteArray) (h : atF fs name < fs.length) : putF fs name value = fs.set (atF fs name) (name, value) := by
  unfold putF
  rw [if_pos h, atF_here fs name h]

set_option maxHeartbeats 400000 in
theorem implDrop_any (v : Value) (n base : Nat) (fs : List (ByteArray × ByteArray)) (name : ByteArray) (w : World) (hv : FieldsV w base v n fs) (hn : n ≤ 2000000) (hsz : CopyF fs) :
    Calls Try.prog 47 #[v, .string name] w fun e w' => RowF (dropF fs name) w e w' := by
  have hl := hv.len
  have hle := atF_le fs name
  obtain ⟨oa, cap, rfl, _⟩ := hv.slice
  go_enter Try.func47, Try.ntmps47
  go_wp2_with fail
  refine (copied_any _ n base fs _ hv hn hsz).mono ?_
  rintro e w1 ⟨out, rfl, hown, hb1⟩
  rw [hl] at hown
  have hv1 := FieldsV.of_owns hown
  clear hv hsz
  obtain ⟨k, hk⟩ : ∃ k, k = atF fs name := ⟨_, rfl⟩
  by_cases hin : atF fs name < fs.length
  · have hD : Hid (dropF fs name = fs.eraseIdx k) := by show _ = _; rw [dropF_eq, if_pos hin, hk]
    rcases frow_form hown with ⟨_, _, _, _, h0, _⟩ | ⟨g1, c1, rfl, _, row1⟩
    · omega
    have HROW : Hid (FieldRow w.heap.size w1 g1 n c1 fs) := row1
    have hlt : (k : Int) < (n : Int) := by omega
    have hne : ((k : Int) == (n : Int)) = false := by rw [beq_eq_false_iff_ne]; omega
    have hkn : k < n := by omega
    go_wp2_with fail
    refine (place_any _ n w.heap.size fs name _ hv1 (by omega)).mono ?_
    rintro e w2 ⟨rfl, rfl⟩
    rw [← hk]
    clear hv1 hown row1 hk hle hin
    go_wp2_with fail
    refine (del_any w.heap.size g1 n c1 fs k _ HROW.out hkn).mono ?_
    rintro e w3 ⟨rfl, hrow3, hb3⟩
    have hb4 := hb1.trans hb3
    have HR3 : Hid (FieldRow w.heap.size w3 g1 (n - 1) c1 (fs.eraseIdx k)) := hrow3
    clear hb1 hb3 hrow3 HROW
    go_wp2
    go_ret
    refine ⟨_, rfl, ?_, hb4⟩
    rw [hD.out, HR3.out.len]
    exact HR3.out.owns
  · have hD : Hid (dropF fs name = fs) := by show _ = _; rw [dropF_eq, if_neg hin]
    have hkn : k = n := by omega
    have HOWN : Hid (w1.ownsRow w.heap.size 68 2 out n (flatF fs)) := hown
    obtain ⟨oa1, cp1, rfl, _⟩ := hv1.slice
    clear hown
    go_wp2_with fail
    refine (place_any _ n w.heap.size fs name _ hv1 (by omega)).mono ?_
    rintro e w2 ⟨rfl, rfl⟩
    rw [← hk, hkn]
    clear hv1 hk hle hin hkn
    go_wp2
    go_ret
    exact ⟨_, rfl, by rw [hD.out, hl]; exact HOWN.out, hb1⟩

end Go.Proofs.Ythlmnmbhgkmbfaa

namespace Go.Proofs.Ythlmnmbhgkmbfaa
open Go.RowKit
open Go.Lib hiding intOf

attribute [local go_sem] Oper.semAt_some

/-- What a round keeps: all below a block, and the one block that holds the fields. -/
def KeepL (n₀ b : Nat) (W W' : World) : Prop := Below n₀ W W' ∧ W'.heap[b]? = W.heap[b]?
theorem KeepL.trans {n₀ b : Nat} {A B C : World} (h : KeepL n₀ b A B) (k : KeepL n₀ b B C) : KeepL n₀ b A C := ⟨h.1.trans k.1, k.2.trans h.2⟩
end Go.Proofs.Ythlmnmbhgkmbfaa

namespace Go.Proofs.Ythlmnmbhgkmbfaa
open Go.RowKit
open Go.Lib hiding intOf

attribute [local go_sem] Oper.semAt_some

theorem TextRow.kept {base : Nat} {W W' : World} {row : Option Nat} {g n cap B0 : Nat} {xs : List ByteArray} (h : TextRow base W g n cap xs) (hg : W.grownBy W' row) (hr : ∀ r, row = some r → B0 ≤ r ∧ ∃ o : Obj, W.heap[r]? = some o ∧ o.isCells = false) : TextRow base W' g n cap xs := by
  obtain ⟨cur, hh, hc⟩ := h.heap
  have := hg.size; have := h.lt
  refine ⟨h.len, h.base, by omega, h.le, h.mx, cur, ?_, hc⟩
  rw [hg.block g h.lt (fun e => by
    obtain ⟨_, o, ho, hc⟩ := hr g e.symm
    rw [hh] at ho
    cases ho
    cases hc)]
  exact hh
open Classical in
theorem contains_any (oa : Option Addr) (m cm : Nat) (xs : List ByteArray) (x : ByteArray) (w : World) (hx : TextsA w oa m xs) (hm : m ≤ 2000000) :
    Calls Try.prog 86 #[.slice oa m cm, .string x] w fun e w' => e = .returned (.bool (decide (x ∈ xs))) ∧ w' = w := by
  by_cases h0 : m = 0
  · subst h0
    refine (Try.slices_Contains_string_empty oa cm x w).mono ?_
    rintro e w1 ⟨rfl, rfl⟩
    refine ⟨?_, rfl⟩
    rw [List.length_eq_zero_iff.1 hx.1]
    simp
  · obtain ⟨g, rfl, _, _⟩ := hx.2 0 (by omega)
    refine (Try.slices_Contains_string g 0 m cm xs x w (by rw [hx.1]; exact Nat.le_refl _) (by omega) (fun j hj => ?_)).mono ?_
    · obtain ⟨g2, e2, _, h3⟩ := hx.2 j (by rw [← hx.1]; exact hj)
      cases e2
      rw [Nat.zero_add]
      exact h3
    · rintro e w1 ⟨rfl, rfl⟩
      refine ⟨?_, rfl⟩
      rw [List.take_of_length_le (by rw [hx.1]; exact Nat.le_refl _)]
      by_cases h : x ∈ xs
      · rw [(Go.Lib.containsS_iff xs x).2 h, decide_eq_true h]
      · rw [decide_eq_false h, Bool.eq_false_iff.2 (fun hc => h ((Go.Lib.containsS_iff xs x).1 hc))]

end Go.Proofs.Ythlmnmbhgkmbfaa

namespace Go.Proofs.Ythlmnmbhgkmbfaa
open Go.RowKit
open Go.Lib hiding intOf

theorem two_facts {W : World} {R : Nat} {a b : Value} {t : TypeId} (h : W.heap[R]? = some (.cells #[a, b] t)) : W.cell? ⟨R, 0, none⟩ = some a ∧ W.cell? ⟨R, 1, none⟩ = some b := by
  simp [World.cell?, h]

set_option maxHeartbeats 2000000 in
set_option maxRecDepth 100000 in
theorem putTogether_any (v : Value) (n base : Nat) (fs : List (ByteArray × ByteArray)) (u : Value) (k base2 : Nat) (gs : List (ByteArray × ByteArray)) (w : World) (hv : FieldsV w base v n fs) (hu : FieldsV w base2 u k gs) (hnk : n + k ≤ 1999999) (hsz : CopyF fs) (hsz2 : CopyF gs) :
    Calls Try.prog 46 #[v, u] w fun e w' => RowF (putAll fs gs) w e w' := by
  obtain ⟨i0, hi, hz0, hz1, hz2⟩ := info_parts info33
  have HLA : Hid (fs.length = n) := hv.len
  have HLB : Hid (gs.length = k) := hu.len
  obtain ⟨oa, cap, rfl, _⟩ := hv.slice
  obtain ⟨ob, cb, rfl, hrow⟩ := hu.slice
  have HROW : Hid (∀ j, j < k → ∃ g, ob = some ⟨g, 0, none⟩ ∧ FieldRow base2 w g k cb gs) := hrow
  have HSZ : Hid (CopyF gs) := hsz2
  clear hu hrow hsz2
  go_enter Try.func46, Try.ntmps46
  go_wp2_with fail
  refine (copied_any _ n base fs _ hv (by omega) hsz).mono ?_
  rintro e w1 ⟨out, rfl, hown, hb1⟩
  obtain ⟨o1, c1, rfl⟩ := slice_of_owns hown
  have HO1 : Hid (w1.ownsRow w.heap.size 68 2 (.slice o1 fs.length c1) fs.length (flatF fs)) := hown
  have HB1 : Hid (Below w.heap.size w w1) := hb1
  clear hv hsz hown hb1
  go_wp2_with fail
  go_loopw [5, 13] (fun s i wr => ∃ (j : Nat) (o : Option Addr) (c np : Nat) (P : List (ByteArray × ByteArray)), j ≤ k ∧ i = .int .i64 (j : Int) ∧ s = .slice o np c ∧ Hid (P = putAll fs (gs.take j) ∧ P.length = np ∧ np ≤ n + j) ∧ Hid (wr.ownsRow w.heap.size 68 2 (.slice o np c) np (flatF P)) ∧ Hid (Below w.heap.size w wr)) (fun _ i _ => k - (intOf i).toNat)
  case atStart => exact ⟨0, o1, c1, fs.length, fs, Nat.zero_le _, rfl, rfl, ⟨by simp [putAll], rfl, by rw [HLA.out]; omega⟩, HO1, HB1⟩
  case round =>
    obtain ⟨j, o, c, np, P, hj, rfl, rfl, HP, HO, HB⟩ := hrel
    by_cases hlt : j < k
    · have hlt2 : (j : Int) < (k : Int) := by omega
      obtain ⟨g, rfl, row⟩ := HROW.out j hlt
      have hgr : g < w.heap.size := row.lt
      have row1 := row.below HB.out row.lt
      have hc1 := row1.name j hlt
      have hc2 := row1.val j hlt
      obtain ⟨z1, z2⟩ := HSZ.out j (by rw [HLB.out]; exact hlt)
      have HTK : Hid (gs.take (j + 1) = gs.take j ++ [(nameAt gs j, valAt gs j)]) := take_field gs j (by rw [HLB.out]; exact hlt)
      obtain ⟨nm, hnm⟩ : ∃ y, y = nameAt gs j := ⟨_, rfl⟩
      obtain ⟨vl, hvl⟩ : ∃ y, y = valAt gs j := ⟨_, rfl⟩
      rw [← hnm] at hc1 z1 HTK
      rw [← hvl] at hc2 z2 HTK
      clear hnm hvl row row1
      go_upto_region 5 with fail
      obtain ⟨q, hq⟩ : ∃ q, q = wr.heap.size := ⟨_, rfl⟩
      obtain ⟨W2, hW2⟩ : ∃ W, W = wr.alloc (.cells #[.string nm, .string vl] 68) := ⟨_, rfl⟩
      rw [← hW2, ← hq]
      have HQ2 : Hid (W2.heap[q]? = some (.cells #[.string nm, .string vl] 68)) := by show _ = _; rw [hW2, hq]; exact heap_alloc_new wr _
      have HB2 : Hid (Below w.heap.size w W2) := by show Below _ _ _; rw [hW2]; exact HB.out.alloc HB.out.size _
      have HO2 : Hid (W2.ownsRow w.heap.size 68 2 (.slice o np c) np (flatF P)) := by show World.ownsRow _ _ _ _ _ _ _; rw [hW2]; exact HO.out.alloc _
      have HNE : Hid (∀ x, (Value.slice o np c).ownBlock = some x → x ≠ q) := fun x hx => by have := owns_lt HO.out hx; omega
      obtain ⟨hq0, hq1⟩ := two_facts HQ2.out
      have hvp := FieldsV.of_owns HO2.out
      have hnp : np ≤ 1999999 := by have := HP.out.2.2; omega
      clear hW2 hq HO HB hc1 hc2
      go_wp2_with fail
      refine (place_any _ np _ P nm _ hvp (by omega)).mono ?_
      rintro e w3 ⟨rfl, rfl⟩
      clear hvp hq0 hq1
      have hle := atF_le P nm
      have HL2 := HP.out.2.1
      obtain ⟨a, ha⟩ : ∃ a, a = atF P nm := ⟨_, rfl⟩
      rw [← ha] at hle ⊢
      by_cases hin : a < P.length
      · have HPE : Hid (putF P nm vl = P.set a (nm, vl)) := by show _ = _; rw [putF_eq P nm vl (by rw [← ha]; exact hin), ha]
        have hlt3 : a < np := by omega
        have hne : ((a : Int) == (np : Int)) = false := by rw [beq_eq_false_iff_ne]; omega
        have HL3 : Hid (P.length = np) := HL2
        clear ha hle hin HL2 HNE
        have HO3 := HO2
        have HQ3 := HQ2
        have HB3 := HB2
        clear HO2 HQ2 HB2
        rcases frow_form HO3.out with ⟨_, _, _, _, h0, _⟩ | ⟨g1, cc, he, _, row3⟩
        · exact absurd h0 (by omega)
        cases he
        have HROW3 : Hid (FieldRow w.heap.size w3 g1 np c P) := row3
        have hat : ((a : Nat) : Int) < ((np : Nat) : Int) := by omega
        clear row3 HO3
        obtain ⟨hq0, hq1⟩ := two_facts HQ3.out
        go_wp2_with fail
        refine (newField_any nm vl _ z1 z2).mono ?_
        rintro e w5 ⟨rfl, hb5⟩
        have row5 := HROW3.out.below hb5 HROW3.out.lt
        have hb6 : Below w.heap.size w w5 := HB3.out.trans (hb5.mono HB3.out.size)
        have hset := row5.set a (by omega) nm vl _ rfl (by simp)
        have k0 := row5.name a (by omega)
        have k1 := row5.val a (by omega)
        have hf0 := row5.frozen (a * 2)
        have hf1 := row5.frozen (a * 2 + 1)
        have HSET : Hid (((w5.setCell ⟨g1, a * 2, none⟩ (.string nm)).setCell ⟨g1, a * 2 + 1, none⟩ (.string vl)).ownsRow w.heap.size 68 2 (.slice (some ⟨g1, 0, none⟩) (np) c) (np) (flatF (P.set a (nm, vl)))) := hset.owns
        have HB6 : Hid (Below w.heap.size w ((w5.setCell ⟨g1, a * 2, none⟩ (.string nm)).setCell ⟨g1, a * 2 + 1, none⟩ (.string vl))) := (hb6.setCell (p := ⟨g1, a * 2, none⟩) row5.base _).setCell (p := ⟨g1, a * 2 + 1, none⟩) row5.base _
        have HE : Hid (P.set a (nm, vl) = putAll fs (gs.take (j + 1)) ∧ (P.set a (nm, vl)).length = np ∧ np ≤ n + (j + 1)) := by
          show _ ∧ _ ∧ _
          rw [HTK.out, putAll_snoc, ← HP.out.1]
          exact ⟨HPE.out.symm, by rw [List.length_set]; exact HL3.out, by have := HP.out.2.2; omega⟩
        clear hb5 hb6 row5 hset HROW3 HB3 HQ3 hq0 hq1 HP HTK
        go_wp2_with fail
        go_roundw
        case rel => exact ⟨j + 1, _, _, _, _, by omega, by go_num, rfl, HE, HSET, HB6⟩
        case measure => simp [intOf]; omega
      · have han : a = np := by omega
        have HPE : Hid (putF P nm vl = P ++ [(nm, vl)]) := by show _ = _; unfold putF; rw [if_neg (by rw [← ha]; exact hin)]
        have HL4 : Hid (P.length = np) := HL2
        clear ha hle hin HL2
        subst han
        have h63 : a + 1 ≤ maxLen := by unfold maxLen; omega
        have h47 : (a + 1) * 32 ≤ 140737488355328 := by omega
        have HBS : ∀ o, w.heap.size ≤ (w3.alloc o).heap.size := fun o => by have := HB2.out.size; simp; omega
        go_wp2_with (at_builtin; refine wpList_append_own _ rfl _ _ 75 rfl w.heap.size 68 i0 (.agg #[.string ⟨#[]⟩, .string ⟨#[]⟩]) 2 32 Try.underlying75 hi hz0 hz1 hz2 rfl (by decide) _ _ _ rfl (HO2.out.alloc _) ⟨w3.heap.size, 0, none⟩ 1 1 [.string ⟨#[]⟩, .string ⟨#[]⟩] rfl rfl (cell_two_new _ _ _ _) (two_text _ _) h63 h47 (HBS _) ?_)
        intro v4 w4 hown4 hgrow4 _
        have HB3 : Hid (Below w.heap.size w w4) := (HB2.out.alloc HB2.out.size _).grown hgrow4 (HBS _) (fun g hg => owns_ge HO2.out hg)
        have HO3 : Hid (w4.ownsRow w.heap.size 68 2 v4 (a + 1) (flatF (P ++ [((⟨#[]⟩ : ByteArray), (⟨#[]⟩ : ByteArray))]))) := by
          show World.ownsRow _ _ _ _ _ _ _
          rw [flatF_append, flatF_one]
          exact hown4
        have HQ3 : Hid (w4.heap[q]? = some (.cells #[.string nm, .string vl] 68)) := by
          show _ = _
          have hlt := (Array.getElem?_eq_some_iff.1 HQ2.out).1
          rw [hgrow4.block q (by simp; omega) (fun e => HNE.out q e.symm rfl), Below.heap_alloc _ _ _ hlt]
          exact HQ2.out
        obtain ⟨o4, c4, rfl⟩ := slice_of_owns HO3.out
        have HL3 : Hid ((P ++ [((⟨#[]⟩ : ByteArray), (⟨#[]⟩ : ByteArray))]).length = a + 1) := by show _ = _; rw [List.length_append, HL4.out]; rfl
        have HSE : Hid ((P ++ [((⟨#[]⟩ : ByteArray), (⟨#[]⟩ : ByteArray))]).set a (nm, vl) = putF P nm vl) := by
          show _ = _
          rw [HPE.out, List.set_append_right _ _ (by rw [HL4.out]; exact Nat.le_refl _), HL4.out, Nat.sub_self, List.set_cons_zero]
        obtain ⟨P1, hP1⟩ : ∃ x, x = P ++ [((⟨#[]⟩ : ByteArray), (⟨#[]⟩ : ByteArray))] := ⟨_, rfl⟩
        rw [← hP1] at HO3 HL3 HSE
        clear hgrow4 hown4 HBS HO2 HQ2 HB2 HNE hP1 h63 h47
        rcases frow_form HO3.out with ⟨_, _, _, _, h0, _⟩ | ⟨g1, cc, he, _, row3⟩
        · exact absurd h0 (by omega)
        cases he
        have HROW3 : Hid (FieldRow w.heap.size w4 g1 (a + 1) c4 P1) := row3
        have hat : ((a : Nat) : Int) < (((a + 1) : Nat) : Int) := by omega
        clear row3 HO3
        obtain ⟨hq0, hq1⟩ := two_facts HQ3.out
        go_wp2_with fail
        refine (newField_any nm vl _ z1 z2).mono ?_
        rintro e w5 ⟨rfl, hb5⟩
        have row5 := HROW3.out.below hb5 HROW3.out.lt
        have hb6 : Below w.heap.size w w5 := HB3.out.trans (hb5.mono HB3.out.size)
        have hset := row5.set a (by omega) nm vl _ rfl (by simp)
        have k0 := row5.name a (by omega)
        have k1 := row5.val a (by omega)
        have hf0 := row5.frozen (a * 2)
        have hf1 := row5.frozen (a * 2 + 1)
        have HSET : Hid (((w5.setCell ⟨g1, a * 2, none⟩ (.string nm)).setCell ⟨g1, a * 2 + 1, none⟩ (.string vl)).ownsRow w.heap.size 68 2 (.slice (some ⟨g1, 0, none⟩) ((a + 1)) c4) ((a + 1)) (flatF (P1.set a (nm, vl)))) := hset.owns
        have HB6 : Hid (Below w.heap.size w ((w5.setCell ⟨g1, a * 2, none⟩ (.string nm)).setCell ⟨g1, a * 2 + 1, none⟩ (.string vl))) := (hb6.setCell (p := ⟨g1, a * 2, none⟩) row5.base _).setCell (p := ⟨g1, a * 2 + 1, none⟩) row5.base _
        have HE : Hid (P1.set a (nm, vl) = putAll fs (gs.take (j + 1)) ∧ (P1.set a (nm, vl)).length = (a + 1) ∧ (a + 1) ≤ n + (j + 1)) := by
          show _ ∧ _ ∧ _
          rw [HTK.out, putAll_snoc, ← HP.out.1]
          exact ⟨HSE.out, by rw [List.length_set]; exact HL3.out, by have := HP.out.2.2; omega⟩
        clear hb5 hb6 row5 hset HROW3 HB3 HQ3 hq0 hq1 HP HTK
        go_wp2_with fail
        go_roundw
        case rel => exact ⟨j + 1, _, _, _, _, by omega, by go_num, rfl, HE, HSET, HB6⟩
        case measure => simp [intOf]; omega
    · have hjk : j = k := by omega
      have HE : Hid (P = putAll fs gs ∧ P.length = np) := ⟨by rw [HP.out.1, List.take_of_length_le (by rw [HLB.out]; omega)], HP.out.2.1⟩
      clear HP
      go_wp2_with fail
      go_ret
      exact ⟨_, rfl, by rw [← HE.out.1, HE.out.2]; exact HO.out, HB.out⟩

open Classical in
/-- The fields whose name is one of these. -/
noncomputable def namedF (xs : List ByteArray) (gs : List (ByteArray × ByteArray)) : List (ByteArray × ByteArray) := gs.filter fun f => decide (f.1 ∈ xs)
open Classical in
theorem namedF_snoc (xs : List ByteArray) (gs : List (ByteArray × ByteArray)) (f : ByteArray × ByteArray) : namedF xs (gs ++ [f]) = if f.1 ∈ xs then namedF xs gs ++ [f] else namedF xs gs := by
  unfold namedF
  rw [List.filter_append]
  by_cases h : f.1 ∈ xs
  · rw [if_pos h]; simp [h]
  · rw [if_neg h]; simp [h]
set_option maxHeartbeats 2000000 in
set_option maxRecDepth 100000 in
theorem onlyNamed_any (v : Value) (n base : Nat) (gs : List (ByteArray × ByteArray)) (oa : Option Addr) (m cm : Nat) (xs : List ByteArray) (w : World) (hv : FieldsV w base v n gs) (hn : n ≤ 1999999) (hsz : CopyF gs) (hx : TextsA w oa m xs) (hm : m ≤ 2000000) :
    Calls Try.prog 52 #[v, .slice oa m cm] w fun e w' => RowF (namedF xs gs) w e w' := by
  classical
  obtain ⟨i0, hi, hz0, hz1, hz2⟩ := info_parts info33
  have HLB : Hid (gs.length = n) := hv.len
  obtain ⟨ob, cb, rfl, hrow⟩ := hv.slice
  have HROW : Hid (∀ j, j < n → ∃ g, ob = some ⟨g, 0, none⟩ ∧ FieldRow base w g n cb gs) := hrow
  have HSZ : Hid (CopyF gs) := hsz
  have HX : Hid (∀ W, Below w.heap.size w W → TextsA W oa m xs) := fun W h => hx.below h
  clear hv hrow hsz hx
  go_enter Try.func52, Try.ntmps52
  go_wp2_with fail
  go_loopw [5, 10] (fun s i wr => ∃ (j : Nat) (o : Option Addr) (c np : Nat) (P : List (ByteArray × ByteArray)), j ≤ n ∧ i = .int .i64 (j : Int) ∧ s = .slice o np c ∧ Hid (P = namedF xs (gs.take j) ∧ P.length = np ∧ np ≤ j) ∧ Hid (wr.ownsRow w.heap.size 68 2 (.slice o np c) np (flatF P)) ∧ Hid (Below w.heap.size w wr)) (fun _ i _ => n - (intOf i).toNat)
  case atStart => exact ⟨0, none, 0, 0, [], Nat.zero_le _, rfl, rfl, ⟨by simp [namedF], rfl, Nat.le_refl _⟩, ⟨rfl, .inl ⟨rfl, rfl⟩⟩, Below.refl _ _⟩
  case round =>
    obtain ⟨j, o, c, np, P, hj, rfl, rfl, HP, HO, HB⟩ := hrel
    by_cases hlt : j < n
    · have hlt2 : (j : Int) < (n : Int) := by omega
      obtain ⟨g, rfl, row⟩ := HROW.out j hlt
      have hgr : g < w.heap.size := row.lt
      have row1 := row.below HB.out row.lt
      have hc1 := row1.name j hlt
      have hc2 := row1.val j hlt
      obtain ⟨z1, z2⟩ := HSZ.out j (by rw [HLB.out]; exact hlt)
      have HTK : Hid (gs.take (j + 1) = gs.take j ++ [(nameAt gs j, valAt gs j)]) := take_field gs j (by rw [HLB.out]; exact hlt)
      obtain ⟨nm, hnm⟩ : ∃ y, y = nameAt gs j := ⟨_, rfl⟩
      obtain ⟨vl, hvl⟩ : ∃ y, y = valAt gs j := ⟨_, rfl⟩
      rw [← hnm] at hc1 z1 HTK
      rw [← hvl] at hc2 z2 HTK
      clear hnm hvl row row1
      go_upto_region 5 with fail
      obtain ⟨q, hq⟩ : ∃ q, q = wr.heap.size := ⟨_, rfl⟩
      obtain ⟨W2, hW2⟩ : ∃ W, W = wr.alloc (.cells #[.string nm, .string vl] 68) := ⟨_, rfl⟩
      rw [← hW2, ← hq]
      have HQ2 : Hid (W2.heap[q]? = some (.cells #[.string nm, .string vl] 68)) := by show _ = _; rw [hW2, hq]; exact heap_alloc_new wr _
      have HB2 : Hid (Below w.heap.size w W2) := by show Below _ _ _; rw [hW2]; exact HB.out.alloc HB.out.size _
      have HO2 : Hid (W2.ownsRow w.heap.size 68 2 (.slice o np c) np (flatF P)) := by show World.ownsRow _ _ _ _ _ _ _; rw [hW2]; exact HO.out.alloc _
      obtain ⟨hq0, hq1⟩ := two_facts HQ2.out
      have hx2 := HX.out _ HB2.out
      clear hW2 hq HO HB hc1 hc2
      go_wp2_with fail
      refine (contains_any oa m cm xs nm _ hx2 hm).mono ?_
      rintro e w3 ⟨rfl, rfl⟩
      clear hx2
      by_cases hin : nm ∈ xs
      · rw [decide_eq_true hin]
        have HE : Hid (P ++ [(nm, vl)] = namedF xs (gs.take (j + 1)) ∧ (P ++ [(nm, vl)]).length = np + 1 ∧ np + 1 ≤ j + 1) := by
          show _ ∧ _ ∧ _
          rw [HTK.out, namedF_snoc, if_pos (by exact hin), ← HP.out.1]
          exact ⟨rfl, by rw [List.length_append, HP.out.2.1]; rfl, by have := HP.out.2.2; omega⟩
        have hnp : np ≤ j := HP.out.2.2
        clear HP HTK hin
        go_wp2_with fail
        refine (newField_any nm vl _ z1 z2).mono ?_
        rintro e w5 ⟨rfl, hb5⟩
        have HB5 : Hid (Below w.heap.size w w5) := HB2.out.trans (hb5.mono HB2.out.size)
        have HO5 : Hid (w5.ownsRow w.heap.size 68 2 (.slice o np c) np (flatF P)) := owns_below HO2.out hb5 (fun g hg => owns_lt HO2.out hg)
        have h63 : np + 1 ≤ maxLen := by unfold maxLen; omega
        have h47 : (np + 1) * 32 ≤ 140737488355328 := by omega
        have HBS : ∀ o, w.heap.size ≤ (w5.alloc o).heap.size := fun o => by have := HB5.out.size; simp; omega
        clear hb5 HO2 HB2 HQ2 hq0 hq1
        go_wp2_with (at_builtin; refine wpList_append_own _ rfl _ _ 24 rfl w.heap.size 68 i0 (.agg #[.string ⟨#[]⟩, .string ⟨#[]⟩]) 2 32 Try.underlying24 hi hz0 hz1 hz2 rfl (by decide) _ _ _ rfl (HO5.out.alloc _) ⟨w5.heap.size, 0, none⟩ 1 1 [.string nm, .string vl] rfl rfl (cell_two_new _ _ _ _) (two_text _ _) h63 h47 (HBS _) ?_)
        intro v6 w6 hown6 hgrow6 _
        have HB6 : Hid (Below w.heap.size w w6) := (HB5.out.alloc HB5.out.size _).grown hgrow6 (HBS _) (fun g hg => owns_ge HO5.out hg)
        have HO6 : Hid (w6.ownsRow w.heap.size 68 2 v6 (np + 1) (flatF (P ++ [(nm, vl)]))) := by
          show World.ownsRow _ _ _ _ _ _ _
          rw [flatF_append, flatF_one]
          exact hown6
        obtain ⟨o6, c6, rfl⟩ := slice_of_owns HO6.out
        clear hown6 hgrow6 HBS HO5 HB5 h63 h47
        go_wp2_with fail
        go_roundw
        case rel => exact ⟨j + 1, _, _, _, _, by omega, by go_num, rfl, HE, HO6, HB6⟩
        case measure => simp [intOf]; omega
      · rw [decide_eq_false hin]
        have HE : Hid (P = namedF xs (gs.take (j + 1)) ∧ P.length = np ∧ np ≤ j + 1) := by
          show _ ∧ _ ∧ _
          rw [HTK.out, namedF_snoc, if_neg (by exact hin), ← HP.out.1]
          exact ⟨rfl, HP.out.2.1, by have := HP.out.2.2; omega⟩
        clear HP HTK hin hq0 hq1
        go_wp2_with fail
        go_roundw
        case rel => exact ⟨j + 1, _, _, _, _, by omega, by go_num, rfl, HE, HO2, HB2⟩
        case measure => simp [intOf]; omega
    · have hjk : j = n := by omega
      have HE : Hid (P = namedF xs gs ∧ P.length = np) := ⟨by rw [HP.out.1, List.take_of_length_le (by rw [HLB.out]; omega)], HP.out.2.1⟩
      clear HP
      go_wp2_with fail
      go_ret
      exact ⟨_, rfl, by rw [← HE.out.1, HE.out.2]; exact HO.out, HB.out⟩

end Go.Proofs.Ythlmnmbhgkmbfaa

namespace Go.Proofs.Ythlmnmbhgkmbfaa
open Go.RowKit
open Go.Lib hiding intOf

theorem three_facts {W : World} {R : Nat} {a b c : Value} {t : TypeId} (h : W.heap[R]? = some (.cells #[a, b, c] t)) :
    (W.cell? ⟨R, 0, none⟩ = some a ∧ W.cell? ⟨R, 1, none⟩ = some b ∧ W.cell? ⟨R, 2, none⟩ = some c) ∧ W.frozen? ⟨R, 0, none⟩ = false ∧ W.frozen? ⟨R, 1, none⟩ = false ∧ W.frozen? ⟨R, 2, none⟩ = false := by
  refine ⟨⟨?_, ?_, ?_⟩, ?_, ?_, ?_⟩ <;> simp [World.cell?, World.frozen?, h]
/-- The three cells of an answer's memory, written. -/
def threeSet (w : World) (r : Nat) (a b c : Value) : World := ((w.setCell ⟨r, 0, none⟩ a).setCell ⟨r, 1, none⟩ b).setCell ⟨r, 2, none⟩ c
theorem three_set {W : World} {R : Nat} {a b c : Value} {t : TypeId} (h : W.heap[R]? = some (.cells #[a, b, c] t)) (a' b' c' : Value) : (threeSet W R a' b' c').heap[R]? = some (.cells #[a', b', c'] t) := by
  have := heap_set _ R 2 _ _ _ c' (heap_set _ R 1 _ _ _ b' (heap_set W R 0 _ _ _ a' h))
  simpa [threeSet] using this
theorem below_three {w W : World} {B R : Nat} {a b c : Value} (h : Below B w W) (hR : B ≤ R) : Below B w (threeSet W R a b c) :=
  ((h.setCell (p := ⟨R, 0, none⟩) hR _).setCell (p := ⟨R, 1, none⟩) hR _).setCell (p := ⟨R, 2, none⟩) hR _

end Go.Proofs.Ythlmnmbhgkmbfaa

namespace Go.Proofs.Ythlmnmbhgkmbfaa
open Go.RowKit
open Go.Lib hiding intOf

/-- 'wpAnyH_take', its place named. -/
theorem wpAnyH_takeD {P : Program} {ops : Array Oper} {Q : Exit → Act → World → Prop} {md : Region.Mode} {S : World → Prop} {i : Nat} {oi : Oper} {v : Value} {fuel : Nat} {listed : Array Bool} {a : Act} {w : World} (d : Option Tmp) (hi : ops[i]? = some oi) (hd : oi.dst = d)
    (hs : Region.noSelect ops = true) (hf : Region.free md ops listed i = true) (hr : (Region.ready md ops listed).contains i = true)
    (hQ : ∀ c a w, Q (.panic c) (a.put oi.dst v) w → Q (.panic c) a w) (hy : YieldsIf P ops S oi v a) (hS : S w)
    (h : wpAnyH P md ops Q S fuel (listed.setIfInBounds i true) (a.put d v) w) : wpAnyH P md ops Q S (fuel + 1) listed a w :=
  wpAnyH_take hi hs hf hr hQ hy hS (hd ▸ h)
end Go.Proofs.Ythlmnmbhgkmbfaa

namespace Go.Proofs.Ythlmnmbhgkmbfaa
open Go.RowKit
open Go.Lib hiding intOf

/-- A call answers an answer with these fields, in memory of its own. -/
def RespRow (st : Int) (fs : List (ByteArray × ByteArray)) (b : ByteArray) (w : World) (e : Ending) (w' : World) : Prop :=
  ∃ v, e = .returned (.agg #[.int .i64 st, v, .string b]) ∧ w'.ownsRow w.heap.size 68 2 v fs.length (flatF fs) ∧ Below w.heap.size w w'
theorem three_other (W : World) (r j : Nat) (a b c : Value) (h : j ≠ r) : (threeSet W r a b c).heap[j]? = W.heap[j]? := by
  unfold threeSet
  rw [heap_setCell_other _ _ j _ h, heap_setCell_other _ _ j _ h, heap_setCell_other _ _ j _ h]

/-- While answers are merged: both arguments, the answer's memory, the answer that is made and its fields. -/
structure MgSt (w : World) (r o : Nat) (st : Int) (va : Value) (b : ByteArray) (st2 : Int) (vb : Value) (c : ByteArray) (z : Value) (P : List (ByteArray × ByteArray)) (W : World) : Prop where
  q0 : W.heap[r]? = some (.cells #[.int .i64 st, va, .string b] 32)
  q1 : W.heap[r + 1]? = some (.cells #[.int .i64 st2, vb, .string c] 32)
  q2 : W.heap[r + 1 + 1]? = some (.cells #[.int .i64 0, .slice none 0 0, .string ⟨#[]⟩] 32)
  q3 : W.heap[o]? = some (.cells #[.int .i64 st, z, .string b] 32)
  own : W.ownsRow (r + 1 + 1 + 1) 68 2 z P.length (flatF P)
  ne : ∀ j, z.ownBlock = some j → j ≠ o
  ge : r + 1 + 1 + 1 ≤ o
  low : Below r w W
theorem MgSt.lt {w : World} {r o : Nat} {st : Int} {va : Value} {b : ByteArray} {st2 : Int} {vb : Value} {c : ByteArray} {z : Value} {P : List (ByteArray × ByteArray)} {W : World} (h : MgSt w r o st va b st2 vb c z P W) : o < W.heap.size := (Array.getElem?_eq_some_iff.1 h.q3).1
theorem MgSt.below {w : World} {r o : Nat} {st : Int} {va : Value} {b : ByteArray} {st2 : Int} {vb : Value} {c : ByteArray} {z : Value} {P : List (ByteArray × ByteArray)} {W : World} {W' : World} (h : MgSt w r o st va b st2 vb c z P W) (hb : Below W.heap.size W W') : MgSt w r o st va b st2 vb c z P W' := by
  have hs := h.lt
  have hg := h.ge
  exact ⟨by rw [hb.block _ (by omega)]; exact h.q0, by rw [hb.block _ (by omega)]; exact h.q1, by rw [hb.block _ (by omega)]; exact h.q2, by rw [hb.block _ hs]; exact h.q3, owns_same h.own (fun j hj => hb.block j (owns_lt h.own hj)), h.ne, hg, h.low.trans (hb.mono (by omega))⟩
theorem MgSt.set {w : World} {r o : Nat} {st : Int} {va : Value} {b : ByteArray} {st2 : Int} {vb : Value} {c : ByteArray} {z : Value} {P : List (ByteArray × ByteArray)} {W : World} {W' : World} (h : MgSt w r o st va b st2 vb c z P W) (hb : Below W.heap.size W W') {y : Value} {Q : List (ByteArray × ByteArray)} (hy : W'.ownsRow W.heap.size 68 2 y Q.length (flatF Q)) : MgSt w r o st va b st2 vb c y Q (W'.setCell ⟨o, 1, none⟩ y) := by
  have h' := h.below hb
  have hs := h.lt
  have hg := h.ge
  have hne : ∀ j, y.ownBlock = some j → j ≠ o := fun j hj => by have := owns_ge hy hj; omega
  refine ⟨by rw [heap_setCell_other _ _ r _ (by show r ≠ o; omega)]; exact h'.q0, by rw [heap_setCell_other _ _ (r + 1) _ (by show r + 1 ≠ o; omega)]; exact h'.q1, by rw [heap_setCell_other _ _ (r + 1 + 1) _ (by show r + 1 + 1 ≠ o; omega)]; exact h'.q2, ?_, owns_same (owns_wide hy (by omega)) (fun j hj => heap_setCell_other _ _ j _ (hne j hj)), hne, hg, h'.low.setCell (by show r ≤ o; omega) _⟩
  have := heap_set W' o 1 _ _ _ y h'.q3
  simpa using this

end Go.Proofs.Ythlmnmbhgkmbfaa

namespace Go.Proofs.Ythlmnmbhgkmbfaa
open Go.RowKit
open Go.Lib hiding intOf

set_option maxHeartbeats 1000000 in
theorem implSame_any (m : Int) (p : ByteArray) (v : Value) (b : ByteArray) (n base : Nat) (fs : List (ByteArray × ByteArray)) (u : Value) (k base2 : Nat) (gs : List (ByteArray × ByteArray)) (w : World) (hv : FieldsV w base v n fs) (hn : n ≤ 1073741824) (hu : FieldsV w base2 u k gs) (hk : k ≤ 1073741824) (hcp : CopyF fs) (hcg : CopyF gs) :
    Calls Try.prog 17 #[.agg #[.int .i64 m, .string p, v, .string b], u] w fun e w' => BoolIs (SameP fs gs) w e w' := by
  obtain ⟨oa, cap, rfl, _⟩ := hv.slice
  obtain ⟨W0, hW0⟩ : ∃ W, W = w.alloc (.cells #[.int .i64 m, .string p, .slice oa n cap, .string b] 26) := ⟨_, rfl⟩
  have HW0 : Hid (w.alloc (.cells #[.int .i64 m, .string p, .slice oa n cap, .string b] 26) = W0) := hW0.symm
  have b0 : Below w.heap.size w W0 := by rw [hW0]; exact (Below.refl _ w).alloc (Nat.le_refl _) _
  have hv0 := hv.below b0
  have HU : Hid (∀ W, Below w.heap.size w W → FieldsV W base2 u k gs) := fun W h => hu.below h
  obtain ⟨⟨_, _, c2, _⟩, _⟩ := four_facts (show W0.heap[w.heap.size]? = some (.cells #[.int .i64 m, .string p, .slice oa n cap, .string b] 26) by rw [hW0]; exact heap_alloc_new w _)
  have HB : Hid (Below w.heap.size w W0) := b0
  have HCF : Hid (CopyF fs) := hcp
  have HCG : Hid (CopyF gs) := hcg
  obtain ⟨s, hs⟩ : ∃ s, s = getV fs inmName := ⟨_, rfl⟩
  obtain ⟨t, ht⟩ : ∃ s, s = getV gs tagName := ⟨_, rfl⟩
  obtain ⟨f1, hf1⟩ : ∃ s, s = getB fs inmName := ⟨_, rfl⟩
  obtain ⟨f2, hf2⟩ : ∃ s, s = getB gs tagName := ⟨_, rfl⟩
  have HQ : Hid (SameP fs gs ↔ f1 = true ∧ f2 = true ∧ s = t) := by show _ ↔ _; rw [hs, ht, hf1, hf2]; rfl
  have HE1 : Hid (getV fs inmName = s) := hs.symm
  have HE2 : Hid (getV gs tagName = t) := ht.symm
  have HE3 : Hid (getB fs inmName = f1) := hf1.symm
  have HE4 : Hid (getB gs tagName = f2) := hf2.symm
  obtain ⟨r, hr⟩ : ∃ r, r = w.heap.size := ⟨_, rfl⟩
  have HR : Hid (w.heap.size = r) := hr.symm
  rw [← hr] at c2
  clear hW0 b0 hv hu hs ht hf1 hf2 hcp hcg
  go_enter Try.func17, Try.ntmps17
  go_upto_region 1 with fail
  rw [HW0.out, ← hr]
  clear hr HW0
  go_wp2_with fail
  refine (implGet_any _ n base fs inmName _ hv0 hn HCF.out).mono ?_
  rintro e w1 ⟨rfl, b1⟩
  rw [HE1.out, HE3.out]
  have HB1 : Hid (Below w.heap.size w w1) := HB.out.trans (b1.mono HB.out.size)
  clear hv0 c2 b1 HB
  go_wp2_with fail
  refine (implGet_any u k base2 gs tagName _ (HU.out _ HB1.out) hk HCG.out).mono ?_
  rintro e w2 ⟨rfl, b2⟩
  rw [HE2.out, HE4.out]
  have HB2 : Hid (Below w.heap.size w w2) := HB1.out.trans (b2.mono HB1.out.size)
  clear b2 HB1 HU HE1 HE2 HE3 HE4
  cases f1 with
  | false =>
    have HF : Hid (¬ SameP fs gs) := fun h => nomatch (HQ.out.1 h).1
    go_wp2_with fail
    go_ret
    exact BoolIs.no HF.out HB2.out
  | true =>
    cases f2 with
    | false =>
      have HF : Hid (¬ SameP fs gs) := fun h => nomatch (HQ.out.1 h).2.1
      go_wp2_with fail
      go_ret
      exact BoolIs.no HF.out HB2.out
    | true =>
      have HT : Hid ((s.toList == t.toList) = true ↔ SameP fs gs) := by show _ ↔ _; rw [HQ.out, text_beq]; simp
      go_wp2_with fail
      go_ret
      exact ⟨_, rfl, HT.out, HB2.out⟩

open Classical in
theorem short_named (gs : List (ByteArray × ByteArray)) : namedF [tagName, varyName, ccName] gs = shortF gs := by
  unfold namedF shortF
  congr 1
  funext f
  simp

set_option maxHeartbeats 1000000 in
set_option maxRecDepth 100000 in
theorem implShort_any (st : Int) (v : Value) (b : ByteArray) (n base : Nat) (gs : List (ByteArray × ByteArray)) (w : World) (hv : FieldsV w base v n gs) (hn : n ≤ 1999999) (hcp : CopyF gs) :
    Calls Try.prog 16 #[.agg #[.int .i64 st, v, .string b]] w fun e w' => RespRow 304 (shortF gs) ⟨#[]⟩ w e w' := by
  obtain ⟨oa, cap, rfl, _⟩ := hv.slice
  obtain ⟨r, hr⟩ : ∃ r, r = w.heap.size := ⟨_, rfl⟩
  have HR : Hid (w.heap.size = r) := hr.symm
  obtain ⟨W1, hW1⟩ : ∃ W, W = (w.alloc (.cells #[.int .i64 st, .slice oa n cap, .string b] 32)).alloc (.cells #[.int .i64 0, .slice none 0 0, .string ⟨#[]⟩] 32) := ⟨_, rfl⟩
  have HW1 : Hid ((w.alloc (.cells #[.int .i64 st, .slice oa n cap, .string b] 32)).alloc (.cells #[.int .i64 0, .slice none 0 0, .string ⟨#[]⟩] 32) = W1) := hW1.symm
  have b1 : Below r w W1 := by rw [hW1, hr]; exact ((Below.refl _ w).alloc (Nat.le_refl _) _).alloc (by simp) _
  have s1 : (w.alloc (.cells #[.int .i64 st, .slice oa n cap, .string b] 32)).heap.size = r + 1 := by rw [hr]; simp
  have s2 : W1.heap.size = r + 1 + 1 := by rw [hW1, hr]; simp
  have H0 : Hid (W1.heap[r]? = some (.cells #[.int .i64 st, .slice oa n cap, .string b] 32) ∧ W1.heap[r + 1]? = some (.cells #[.int .i64 0, .slice none 0 0, .string ⟨#[]⟩] 32) ∧ Below r w W1) := by
    have e0 := heap_alloc_new w (.cells #[.int .i64 st, .slice oa n cap, .string b] 32)
    have e1 := heap_alloc_new (w.alloc (.cells #[.int .i64 st, .slice oa n cap, .string b] 32)) (.cells #[.int .i64 0, .slice none 0 0, .string ⟨#[]⟩] 32)
    rw [← hr] at e0
    rw [s1, ← hW1] at e1
    have c1 : Below (r + 1) (w.alloc (.cells #[.int .i64 st, .slice oa n cap, .string b] 32)) W1 := by rw [hW1, ← s1]; exact (Below.refl _ _).alloc (Nat.le_refl _) _
    exact ⟨by rw [c1.block r (by omega)]; exact e0, e1, b1⟩
  obtain ⟨⟨_, c1, _⟩, _⟩ := three_facts H0.out.1
  obtain ⟨W2, hW2⟩ : ∃ W, W = W1.alloc (.cells #[.string tagName, .string varyName, .string ccName] 9) := ⟨_, rfl⟩
  have HW2 : Hid (W1.alloc (.cells #[.string ⟨#[101, 116, 97, 103]⟩, .string ⟨#[118, 97, 114, 121]⟩, .string ⟨#[99, 97, 99, 104, 101, 45, 99, 111, 110, 116, 114, 111, 108]⟩] 9) = W2) := hW2.symm
  have HX2 : Hid (TextsA W2 (some ⟨r + 1 + 1, 0, none⟩) 3 [tagName, varyName, ccName]) := by
    refine ⟨rfl, fun i hi => ⟨r + 1 + 1, rfl, by rw [hW2]; simp; omega, ?_⟩⟩
    have h := heap_alloc_new W1 (.cells #[.string tagName, .string varyName, .string ccName] 9)
    rw [← hW2, s2] at h
    rcases (by omega : i = 0 ∨ i = 1 ∨ i = 2) with rfl | rfl | rfl <;> simp [World.cell?, h, textAt]
  have HB2 : Hid (Below (r + 1 + 1) W1 W2) := by show Below _ _ _; rw [hW2]; exact (Below.refl _ _).alloc (by omega) _
  have HL2 : Hid (r + 1 + 1 + 1 = W2.heap.size) := by show _ = _; rw [hW2]; simp; omega
  have HV2 : Hid (FieldsV W2 base (.slice oa n cap) n gs) := hv.below (by rw [← hr]; exact b1.trans (HB2.out.mono (by omega)))
  have HS2 : Hid (W1.heap.size = r + 1 + 1) := s2
  have HCP : Hid (CopyF gs) := hcp
  clear hW1 hW2 hv b1 s1 s2 hcp
  go_enter Try.func16, Try.ntmps16
  go_upto_region 1 with fail
  rw [HW1.out, ← hr]
  clear hr HW1
  go_wp2_with fail
  rw [HW2.out, HS2.out]
  refine (onlyNamed_any _ n base gs _ 3 3 [tagName, varyName, ccName] _ HV2.out hn HCP.out HX2.out (by omega)).mono ?_
  rintro e w3 ⟨z, rfl, own, b3⟩
  rw [short_named] at own
  obtain ⟨oz, cz, rfl⟩ := slice_of_owns own
  have hl2 := HL2.out
  rw [← hl2] at own b3
  have H3 : Hid (w3.heap[r + 1]? = some (.cells #[.int .i64 0, .slice none 0 0, .string ⟨#[]⟩] 32) ∧ Below r w w3) := by
    have b4 := HB2.out.trans (b3.mono (by omega))
    exact ⟨by rw [b4.block (r + 1) (by omega)]; exact H0.out.2.1, H0.out.2.2.trans (b4.mono (by omega))⟩
  obtain ⟨⟨g0, g1, g2⟩, x0, x1, x2⟩ := three_facts H3.out.1
  obtain ⟨nz, hnz⟩ : ∃ x, x = (shortF gs).length := ⟨_, rfl⟩
  rw [← hnz] at own ⊢
  have HNZ : Hid ((shortF gs).length = nz) := hnz.symm
  have hset := three_set H3.out.1 (.int .i64 304) (.slice oz nz cz) (.string ⟨#[]⟩)
  obtain ⟨⟨k0, k1, k2⟩, _⟩ := three_facts hset
  have HFB : Hid (Below r w (threeSet w3 (r + 1) (.int .i64 304) (.slice oz nz cz) (.string ⟨#[]⟩))) := below_three H3.out.2 (by omega)
  have HFO : Hid ((threeSet w3 (r + 1) (.int .i64 304) (.slice oz nz cz) (.string ⟨#[]⟩)).ownsRow r 68 2 (.slice oz nz cz) nz (flatF (shortF gs))) := by
    refine owns_same (owns_wide own (by omega)) (fun j hj => ?_)
    have hj2 := owns_ge own hj
    rw [three_other _ _ j _ _ _ (by omega)]
  unfold threeSet at k0 k1 k2 HFB HFO
  clear hset H0 H3 own b3 hl2 hnz c1 HV2 HX2 HB2 HL2 HS2
  go_wp2_with fail
  refine bodyPost_ret (v := .agg #[.int .i64 304, .slice oz nz cz, .string ⟨#[]⟩]) (by simp [results, Try.results16, go_sem, k0, k1, k2]) rfl ?_
  exact ⟨_, rfl, by rw [HR.out, HNZ.out]; exact HFO.out, by rw [HR.out]; exact HFB.out⟩

end Go.Proofs.Ythlmnmbhgkmbfaa

namespace Go.Proofs.Ythlmnmbhgkmbfaa
open Go.RowKit
open Go.Lib hiding intOf

theorem below_grownO {B : Nat} {w w' : World} {r : Option Nat} (hg : w.grownBy w' r) (hB : B ≤ w.heap.size) (hr : ∀ g, r = some g → B ≤ g) : Below B w w' :=
  ⟨hg.os, hg.tape, hg.output, hg.size, fun k hk => hg.block k (Nat.lt_of_lt_of_le hk hB) (fun e => by have := hr k e.symm; omega)⟩
theorem tag_list : tagName.toList = [101, 116, 97, 103] := by rw [ByteArray.toList_eq]; rfl
theorem vary_list : varyName.toList = [118, 97, 114, 121] := by rw [ByteArray.toList_eq]; rfl
theorem ccN_list : ccName.toList = [99, 97, 99, 104, 101, 45, 99, 111, 110, 116, 114, 111, 108] := by rw [ByteArray.toList_eq]; rfl

/-- While a short answer is made. -/
structure ShSt (w : World) (r : Nat) (st : Int) (va : Value) (b : ByteArray) (z : Value) (P : List (ByteArray × ByteArray)) (W : World) : Prop where
  q0 : W.heap[r]? = some (.cells #[.int .i64 st, va, .string b] 32)
  q1 : W.heap[r + 1]? = some (.cells #[.int .i64 0, .slice none 0 0, .string ⟨#[]⟩] 32)
  q2 : W.heap[r + 1 + 1]? = some (.cells #[.int .i64 304, z, .string ⟨#[]⟩] 32)
  own : W.ownsRow (r + 1 + 1 + 1) 68 2 z P.length (flatF P)
  low : Below r w W
theorem ShSt.size {w : World} {r : Nat} {st : Int} {va : Value} {b : ByteArray} {z : Value} {P : List (ByteArray × ByteArray)} {W : World} (h : ShSt w r st va b z P W) : r + 1 + 1 + 1 ≤ W.heap.size := (Array.getElem?_eq_some_iff.1 h.q2).1
theorem ShSt.below {w : World} {r : Nat} {st : Int} {va : Value} {b : ByteArray} {z : Value} {P : List (ByteArray × ByteArray)} {W : World} {W' : World} (h : ShSt w r st va b z P W) (hb : Below W.heap.size W W') : ShSt w r st va b z P W' := by
  have hs := h.size
  exact ⟨by rw [hb.block _ (by omega)]; exact h.q0, by rw [hb.block _ (by omega)]; exact h.q1, by rw [hb.block _ (by omega)]; exact h.q2, owns_same h.own (fun j hj => hb.block j (owns_lt h.own hj)), h.low.trans (hb.mono (by omega))⟩

set_option maxHeartbeats 2000000 in
set_option maxRecDepth 100000 in
theorem specShort_any (st : Int) (v : Value) (b : ByteArray) (n base : Nat) (gs : List (ByteArray × ByteArray)) (w : World) (hv : FieldsV w base v n gs) (hn : n ≤ 2000000) :
    Calls Try.prog 19 #[.agg #[.int .i64 st, v, .string b]] w fun e w' => RespRow 304 (shortF gs) ⟨#[]⟩ w e w' := by
  obtain ⟨i0, hi, hz0, hz1, hz2⟩ := info_parts info33
  obtain ⟨oa, cap, rfl, hrow0⟩ := hv.slice
  have HLB : Hid (gs.length = n) := hv.len
  obtain ⟨r, hr⟩ : ∃ r, r = w.heap.size := ⟨_, rfl⟩
  have HR : Hid (w.heap.size = r) := hr.symm
  have HGR : Hid (∀ j, j < n → ∃ g, oa = some ⟨g, 0, none⟩ ∧ g < r) := fun j hj => by obtain ⟨g, h1, h2⟩ := hrow0 j hj; exact ⟨g, h1, by rw [hr]; exact h2.lt⟩
  clear hrow0
  obtain ⟨W1, hW1⟩ : ∃ W, W = ((w.alloc (.cells #[.int .i64 st, .slice oa n cap, .string b] 32)).alloc (.cells #[.int .i64 0, .slice none 0 0, .string ⟨#[]⟩] 32)).alloc (.cells #[.int .i64 304, .slice none 0 0, .string ⟨#[]⟩] 32) := ⟨_, rfl⟩
  have HW1 : Hid (((w.alloc (.cells #[.int .i64 st, .slice oa n cap, .string b] 32)).alloc (.cells #[.int .i64 0, .slice none 0 0, .string ⟨#[]⟩] 32)).alloc (.cells #[.int .i64 304, .slice none 0 0, .string ⟨#[]⟩] 32) = W1) := hW1.symm
  have HVA : Hid (∀ W, Below r w W → FieldsV W base (.slice oa n cap) n gs) := fun W h => hv.below (by rw [hr] at h; exact h)
  have HS0 : Hid (ShSt w r st (.slice oa n cap) b (.slice none 0 0) [] W1) := by
    have b1 : Below r w W1 := by rw [hW1, hr]; exact (((Below.refl _ w).alloc (Nat.le_refl _) _).alloc (by simp) _).alloc (by simp; omega) _
    have s1 : (w.alloc (.cells #[.int .i64 st, .slice oa n cap, .string b] 32)).heap.size = r + 1 := by rw [hr]; simp
    have s2 : ((w.alloc (.cells #[.int .i64 st, .slice oa n cap, .string b] 32)).alloc (.cells #[.int .i64 0, .slice none 0 0, .string ⟨#[]⟩] 32)).heap.size = r + 1 + 1 := by rw [hr]; simp
    have e0 := heap_alloc_new w (.cells #[.int .i64 st, .slice oa n cap, .string b] 32)
    have e1 := heap_alloc_new (w.alloc (.cells #[.int .i64 st, .slice oa n cap, .string b] 32)) (.cells #[.int .i64 0, .slice none 0 0, .string ⟨#[]⟩] 32)
    have e2 := heap_alloc_new ((w.alloc (.cells #[.int .i64 st, .slice oa n cap, .string b] 32)).alloc (.cells #[.int .i64 0, .slice none 0 0, .string ⟨#[]⟩] 32)) (.cells #[.int .i64 304, .slice none 0 0, .string ⟨#[]⟩] 32)
    rw [← hr] at e0
    rw [s1] at e1
    rw [s2, ← hW1] at e2
    have c1 : Below (r + 1) (w.alloc (.cells #[.int .i64 st, .slice oa n cap, .string b] 32)) W1 := by rw [hW1, ← s1]; exact ((Below.refl _ _).alloc (Nat.le_refl _) _).alloc (by simp) _
    have c2 : Below (r + 1 + 1) ((w.alloc (.cells #[.int .i64 st, .slice oa n cap, .string b] 32)).alloc (.cells #[.int .i64 0, .slice none 0 0, .string ⟨#[]⟩] 32)) W1 := by rw [hW1, ← s2]; exact (Below.refl _ _).alloc (Nat.le_refl _) _
    exact ⟨by rw [c1.block r (by omega)]; exact e0, by rw [c2.block (r + 1) (by omega)]; exact e1, e2, ⟨rfl, .inl ⟨rfl, rfl⟩⟩, b1⟩
  clear hW1 hv
  go_enter Try.func19, Try.ntmps19
  go_upto_region 2 with fail
  rw [HW1.out, ← hr]
  clear hr HW1
  go_wp2_with fail
  go_loopw [4] (fun i wr => ∃ (j : Nat) (z : Value) (P : List (ByteArray × ByteArray)), j ≤ n ∧ i = .int .i64 (j : Int) ∧ Hid (ShSt w r st (.slice oa n cap) b z P wr) ∧ Hid (P = shortF (gs.take j))) (fun i _ => n - (intOf i).toNat)
  case atStart => exact ⟨0, _, [], Nat.zero_le _, rfl, HS0, by show _ = _; simp [shortF]⟩
  case round =>
    obtain ⟨j, z, P, hj, rfl, HS, HP⟩ := hrel
    obtain ⟨oz, cz, rfl⟩ := slice_of_owns HS.out.own
    obtain ⟨⟨_, t1, _⟩, _⟩ := three_facts HS.out.q0
    have HPL : Hid (P.length ≤ 2000000) := by
      show _ ≤ _
      rw [HP.out]
      have h1 := shortF_le (gs.take j)
      rw [List.length_take, HLB.out] at h1
      omega
    by_cases hlt : (j : Int) < (n : Int)
    · have hjg : j < gs.length := by rw [HLB.out]; omega
      obtain ⟨_, _, hsl, hrow⟩ := (HVA.out wr HS.out.low).slice
      cases hsl
      obtain ⟨g, rfl, row⟩ := hrow j (by omega)
      obtain ⟨g', hg1, hgr⟩ := HGR.out j (by omega)
      cases hg1
      have n1 := row.name j (by omega)
      have n2 := row.val j (by omega)
      obtain ⟨x, hx⟩ : ∃ x, x = nameAt gs j := ⟨_, rfl⟩
      obtain ⟨y, hy⟩ : ∃ y, y = valAt gs j := ⟨_, rfl⟩
      rw [← hx] at n1
      rw [← hy] at n2
      have HTK : Hid (gs.take (j + 1) = gs.take j ++ [(x, y)]) := by show _ = _; rw [take_field gs j hjg, hx, hy]
      clear hx hy row hjg
      by_cases h1 : x = tagName
      · have t0 : (x.toList == tagName.toList) = true := (text_beq _ _).2 h1
        rw [tag_list] at t0
        have HYES : Hid ((x, y).1 = tagName ∨ (x, y).1 = varyName ∨ (x, y).1 = ccName) := .inl h1
        clear h1
        have HP2 : Hid (P ++ [(x, y)] = shortF (gs.take (j + 1))) := by show _ = _; rw [HTK.out, shortF_snoc, if_pos HYES.out, ← HP.out]
        have h63 : P.length + 1 ≤ maxLen := by have := HPL.out; unfold maxLen; omega
        have h47 : (P.length + 1) * 32 ≤ 140737488355328 := by have := HPL.out; omega
        obtain ⟨⟨_, u1, _⟩, _⟩ := three_facts HS.out.q2
        have HOA : Hid ((wr.drew.alloc (.cells #[.string x, .string y] 68)).ownsRow (r + 1 + 1 + 1) 68 2 (.slice oz P.length cz) P.length (flatF P)) := ((HS.out.below (Below.refl _ _).drew).own).alloc _
        have HSA : Hid (r + 1 + 1 + 1 ≤ (wr.drew.alloc (.cells #[.string x, .string y] 68)).heap.size) := by show _ ≤ _; have := HS.out.size; simp; omega
        have hsz := HS.out.size
        have hgw : g < wr.heap.size := by omega
        have hSA : (wr.drew.alloc (.cells #[.string x, .string y] 68)).cell? ⟨r, 1, none⟩ = some (.slice (some ⟨g, 0, none⟩) n cap) ∧ (wr.drew.alloc (.cells #[.string x, .string y] 68)).cell? ⟨g, j * 2, none⟩ = some (.string x) ∧ (wr.drew.alloc (.cells #[.string x, .string y] 68)).cell? ⟨g, j * 2 + 1, none⟩ = some (.string y) := by
          have b0 : Below wr.heap.size wr (wr.drew.alloc (.cells #[.string x, .string y] 68)) := (Below.refl _ wr).drew.alloc (Nat.le_refl _) _
          exact ⟨(b0.cell (p := ⟨r, 1, none⟩) (by show r < _; omega)).trans t1, (b0.cell (p := ⟨g, j * 2, none⟩) hgw).trans n1, (b0.cell (p := ⟨g, j * 2 + 1, none⟩) hgw).trans n2⟩
        have c1a : (wr.drew.alloc (.cells #[.string x, .string y] 68)).cell? ⟨r + 1 + 1, 1, none⟩ = some (.slice oz P.length cz) := by
          have b0 : Below wr.heap.size wr (wr.drew.alloc (.cells #[.string x, .string y] 68)) := (Below.refl _ wr).drew.alloc (Nat.le_refl _) _
          exact (b0.cell (p := ⟨r + 1 + 1, 1, none⟩) (by show r + 1 + 1 < _; omega)).trans u1
        have c1b : (wr.alloc (.cells #[.string x, .string y] 68)).cell? ⟨r + 1 + 1, 1, none⟩ = some (.slice oz P.length cz) := c1a
        have hnews : ∀ i v, [Value.string x, .string y][i]? = some v → (wr.drew.alloc (.cells #[.string x, .string y] 68)).cell? ((⟨wr.heap.size, 0, none⟩ : Addr).add i) = some v := World.news_of_block (heap_alloc_new wr.drew _)
        have HMORE : Hid (∀ W4 g4 cap4, (wr.drew.alloc (.cells #[.string x, .string y] 68)).grownBy W4 (Value.slice oz P.length cz).ownBlock → W4.ownsRow (r + 1 + 1 + 1) 68 2 (.slice (some ⟨g4, 0, none⟩) (P.length + 1) cap4) (P.length + 1) (flatF P ++ [.string x, .string y]) →
            (W4.cell? ⟨r, 1, none⟩ = some (.slice (some ⟨g, 0, none⟩) n cap) ∧ W4.cell? ⟨g, j * 2, none⟩ = some (.string x) ∧ W4.cell? ⟨g, j * 2 + 1, none⟩ = some (.string y)) ∧ ((W4.setCell ⟨r + 1 + 1, 1, none⟩ (.slice (some ⟨g4, 0, none⟩) (P.length + 1) cap4)).cell? ⟨r, 1, none⟩ = some (.slice (some ⟨g, 0, none⟩) n cap) ∧ (W4.setCell ⟨r + 1 + 1, 1, none⟩ (.slice (some ⟨g4, 0, none⟩) (P.length + 1) cap4)).cell? ⟨g, j * 2, none⟩ = some (.string x) ∧ (W4.setCell ⟨r + 1 + 1, 1, none⟩ (.slice (some ⟨g4, 0, none⟩) (P.length + 1) cap4)).cell? ⟨g, j * 2 + 1, none⟩ = some (.string y)) ∧ (∃ q, W4.cell? ⟨r + 1 + 1, 1, none⟩ = some q) ∧ W4.frozen? ⟨r + 1 + 1, 1, none⟩ = false ∧
            ShSt w r st (.slice (some ⟨g, 0, none⟩) n cap) b (.slice (some ⟨g4, 0, none⟩) (P.length + 1) cap4) (P ++ [(x, y)]) (W4.setCell ⟨r + 1 + 1, 1, none⟩ (.slice (some ⟨g4, 0, none⟩) (P.length + 1) cap4))) := by
          intro W4 g4 cap4 hg4 ho4
          have b0 : Below wr.heap.size wr (wr.drew.alloc (.cells #[.string x, .string y] 68)) := (Below.refl _ wr).drew.alloc (Nat.le_refl _) _
          have h1 := HS.out.below b0
          have bg : Below (r + 1 + 1 + 1) (wr.drew.alloc (.cells #[.string x, .string y] 68)) W4 := below_grownO hg4 HSA.out (fun q hq => owns_ge HOA.out hq)
          have e0 := (bg.block r (by omega)).trans h1.q0
          have e1 := (bg.block (r + 1) (by omega)).trans h1.q1
          have e2 := (bg.block (r + 1 + 1) (by omega)).trans h1.q2
          obtain ⟨⟨_, a1, _⟩, _⟩ := three_facts e0
          obtain ⟨⟨_, a2, _⟩, _, a3, _⟩ := three_facts e2
          have m1 : W4.cell? ⟨g, j * 2, none⟩ = some (.string x) := (bg.cell (p := ⟨g, j * 2, none⟩) (by show g < _; omega)).trans hSA.2.1
          have m2 : W4.cell? ⟨g, j * 2 + 1, none⟩ = some (.string y) := (bg.cell (p := ⟨g, j * 2 + 1, none⟩) (by show g < _; omega)).trans hSA.2.2
          refine ⟨⟨a1, m1, m2⟩, ⟨by rw [cell_set_other _ _ _ _ _ _ (by omega)]; exact a1, by rw [cell_set_other _ _ _ _ _ _ (by omega)]; exact m1, by rw [cell_set_other _ _ _ _ _ _ (by omega)]; exact m2⟩, ⟨_, a2⟩, a3, ⟨by rw [heap_setCell_other _ _ r _ (by show r ≠ r + 1 + 1; omega)]; exact e0, by rw [heap_setCell_other _ _ (r + 1) _ (by show r + 1 ≠ r + 1 + 1; omega)]; exact e1, ?_, ?_, (h1.low.trans (bg.mono (by omega))).setCell (by show r ≤ r + 1 + 1; omega) _⟩⟩
          · have := heap_set W4 (r + 1 + 1) 1 _ _ _ (.slice (some ⟨g4, 0, none⟩) (P.length + 1) cap4) e2
            simpa using this
          · rw [List.length_append, flatF_append, flatF_one]
            refine owns_same ho4 (fun q hq => heap_setCell_other _ _ q _ ?_)
            have := owns_ge ho4 hq
            show q ≠ r + 1 + 1
            omega
        clear HS HP HTK HYES hgw hsz
        go_upto_region 7 with fail
        refine wp_region_held_drew (S := fun W => W.cell? ⟨r, 1, none⟩ = some (.slice (some ⟨g, 0, none⟩) n cap) ∧ W.cell? ⟨g, j * 2, none⟩ = some (.string x) ∧ W.cell? ⟨g, j * 2 + 1, none⟩ = some (.string y)) (by kernel_rfl) ⟨t1, n1, n2⟩ (fun hS0 => ?_)
        refine wpAnyH_takeD (i := 0) (v := .pointer (some ⟨r + 1 + 1, 1, none⟩)) (some 30) rfl rfl (by kernel_rfl) (by kernel_rfl) (by kernel_rfl) (fun _ _ _ h => h) (Or.inl ⟨by rfl, by intro W _; go_simp⟩) hS0 ?_
        simp only [Act.put, List.setIfInBounds_toArray, List.set_cons_zero, List.set_cons_succ]
        refine wpAnyH_takeD (i := 2) (v := .pointer (some ⟨r, 1, none⟩)) (some 32) rfl rfl (by kernel_rfl) (by kernel_rfl) (by kernel_rfl) (fun _ _ _ h => h) (Or.inl ⟨by rfl, by intro W _; go_simp⟩) hS0 ?_
        simp only [Act.put, List.setIfInBounds_toArray, List.set_cons_zero, List.set_cons_succ]
        refine wpAnyH_takeD (i := 3) (v := .slice (some ⟨g, 0, none⟩) n cap) (some 33) rfl rfl (by kernel_rfl) (by kernel_rfl) (by kernel_rfl) (fun _ _ _ h => h) (Or.inl ⟨by rfl, by intro W hW; obtain ⟨h1, h2, h3⟩ := hW; go_simp⟩) hS0 ?_
        simp only [Act.put, List.setIfInBounds_toArray, List.set_cons_zero, List.set_cons_succ]
        refine wpAnyH_takeD (i := 4) (v := .int .i64 (j : Int)) (some 34) rfl rfl (by kernel_rfl) (by kernel_rfl) (by kernel_rfl) (fun _ _ _ h => h) (Or.inl ⟨by rfl, by intro W _; go_simp⟩) hS0 ?_
        simp only [Act.put, List.setIfInBounds_toArray, List.set_cons_zero, List.set_cons_succ]
        refine wpAnyH_takeD (i := 5) (v := .pointer (some ⟨g, j * 2, none⟩)) (some 35) rfl rfl (by kernel_rfl) (by kernel_rfl) (by kernel_rfl) (fun _ _ _ h => h) (Or.inl ⟨by rfl, by intro W _; go_simp⟩) hS0 ?_
        simp only [Act.put, List.setIfInBounds_toArray, List.set_cons_zero, List.set_cons_succ]
        refine wpAnyH_takeD (i := 6) (v := .agg #[.string x, .string y]) (some 36) rfl rfl (by kernel_rfl) (by kernel_rfl) (by kernel_rfl) (fun _ _ _ h => h) (Or.inl ⟨by rfl, by intro W hW; obtain ⟨h1, h2, h3⟩ := hW; go_simp⟩) hS0 ?_
        simp only [Act.put, List.setIfInBounds_toArray, List.set_cons_zero, List.set_cons_succ]
        refine wpAnyH_ready (rs := [1, 7]) (by kernel_rfl) (by simp) ?_
        refine AllReadyH.cons rfl (fun K hK => ?_) (AllReadyH.cons rfl (fun K hK => ?_) AllReadyH.nil)
        · go_simp
          refine hK.out _ _ hS0 (fun _ => ?_)
          clear hK K
          refine wpAnyH_ready (rs := [7]) (by kernel_rfl) (by simp) ?_
          refine AllReadyH.cons rfl (fun K hK => ?_) AllReadyH.nil
          go_simp
          refine hK.out _ _ hSA (fun _ => ?_)
          clear hK K
          refine wpAnyH_ready (rs := [8]) (by kernel_rfl) (by simp) ?_
          refine AllReadyH.cons rfl (fun K hK => ?_) AllReadyH.nil
          refine step_append_lies _ (by rfl) _ _ _ (by rfl) (r + 1 + 1 + 1) 68 i0 (.agg #[.string ⟨#[]⟩, .string ⟨#[]⟩]) 2 32 Try.underlying24 hi hz0 hz1 hz2 rfl (by omega) (.slice oz P.length cz) P.length (flatF P) (by rfl) HOA.out ⟨wr.heap.size, 0, none⟩ 1 1 [.string x, .string y] (by rfl) (by rfl) hnews (by simp [Value.oneCell']) (by omega) h63 h47 HSA.out (wr.heap.size + 1) (by simp) ?_
          intro g4 cap4 w4 hown4 hgrow4 _ _
          obtain ⟨hS4, hS5, ⟨q5, hq5⟩, f5, hM⟩ := HMORE.out w4 g4 cap4 hgrow4 hown4
          have HM : Hid (ShSt w r st (.slice (some ⟨g, 0, none⟩) n cap) b (.slice (some ⟨g4, 0, none⟩) (P.length + 1) cap4) (P ++ [(x, y)]) (w4.setCell ⟨r + 1 + 1, 1, none⟩ (.slice (some ⟨g4, 0, none⟩) (P.length + 1) cap4))) := hM
          clear hown4 hgrow4 hM HMORE
          simp only [Act.put, List.setIfInBounds_toArray]
          refine hK.out _ _ hS4 (fun _ => ?_)
          clear hK K
          refine wpAnyH_takeD (i := 9) (v := .pointer (some ⟨r + 1 + 1, 1, none⟩)) (some 39) rfl rfl (by kernel_rfl) (by kernel_rfl) (by kernel_rfl) (fun _ _ _ h => h) (Or.inl ⟨by rfl, by intro W _; go_simp⟩) hS4 ?_
          simp only [Act.put]
          refine wpAnyH_ready (rs := [10]) (by kernel_rfl) (by simp) ?_
          refine AllReadyH.cons rfl (fun K hK => ?_) AllReadyH.nil
          go_simp
          refine hK.out _ _ hS5 (fun _ => ?_)
          clear hK K hq5 f5 hS4 hS5 hS0 hSA t1 n1 n2 u1 c1a c1b hnews
          refine wpAnyH_done (by kernel_rfl) ?_ _
          go_wp2_with fail
          go_roundw
          case rel => exact ⟨j + 1, _, P ++ [(x, y)], by omega, by go_num, HM, HP2⟩
          case measure => simp [intOf]; omega
        · go_simp
          refine hK.out _ _ hSA (fun _ => ?_)
          clear hK K
          refine wpAnyH_ready (rs := [1]) (by kernel_rfl) (by simp) ?_
          refine AllReadyH.cons rfl (fun K hK => ?_) AllReadyH.nil
          go_simp
          refine hK.out _ _ hSA (fun _ => ?_)
          clear hK K
          refine wpAnyH_ready (rs := [8]) (by kernel_rfl) (by simp) ?_
          refine AllReadyH.cons rfl (fun K hK => ?_) AllReadyH.nil
          refine step_append_lies _ (by rfl) _ _ _ (by rfl) (r + 1 + 1 + 1) 68 i0 (.agg #[.string ⟨#[]⟩, .string ⟨#[]⟩]) 2 32 Try.underlying24 hi hz0 hz1 hz2 rfl (by omega) (.slice oz P.length cz) P.length (flatF P) (by rfl) HOA.out ⟨wr.heap.size, 0, none⟩ 1 1 [.string x, .string y] (by rfl) (by rfl) hnews (by simp [Value.oneCell']) (by omega) h63 h47 HSA.out (wr.heap.size + 1) (by simp) ?_
          intro g4 cap4 w4 hown4 hgrow4 _ _
          obtain ⟨hS4, hS5, ⟨q5, hq5⟩, f5, hM⟩ := HMORE.out w4 g4 cap4 hgrow4 hown4
          have HM : Hid (ShSt w r st (.slice (some ⟨g, 0, none⟩) n cap) b (.slice (some ⟨g4, 0, none⟩) (P.length + 1) cap4) (P ++ [(x, y)]) (w4.setCell ⟨r + 1 + 1, 1, none⟩ (.slice (some ⟨g4, 0, none⟩) (P.length + 1) cap4))) := hM
          clear hown4 hgrow4 hM HMORE
          simp only [Act.put, List.setIfInBounds_toArray]
          refine hK.out _ _ hS4 (fun _ => ?_)
          clear hK K
          refine wpAnyH_takeD (i := 9) (v := .pointer (some ⟨r + 1 + 1, 1, none⟩)) (some 39) rfl rfl (by kernel_rfl) (by kernel_rfl) (by kernel_rfl) (fun _ _ _ h => h) (Or.inl ⟨by rfl, by intro W _; go_simp⟩) hS4 ?_
          simp only [Act.put]
          refine wpAnyH_ready (rs := [10]) (by kernel_rfl) (by simp) ?_
          refine AllReadyH.cons rfl (fun K hK => ?_) AllReadyH.nil
          go_simp
          refine hK.out _ _ hS5 (fun _ => ?_)
          clear hK K hq5 f5 hS4 hS5 hS0 hSA t1 n1 n2 u1 c1a c1b hnews
          refine wpAnyH_done (by kernel_rfl) ?_ _
          go_wp2_with fail
          go_roundw
          case rel => exact ⟨j + 1, _, P ++ [(x, y)], by omega, by go_num, HM, HP2⟩
          case measure => simp [intOf]; omega
      · have t0 : (x.toList == tagName.toList) = false := text_beq_no h1
        rw [tag_list] at t0
        by_cases h2 : x = varyName
        · have t2 : (x.toList == varyName.toList) = true := (text_beq _ _).2 h2
          rw [vary_list] at t2
          have HYES : Hid ((x, y).1 = tagName ∨ (x, y).1 = varyName ∨ (x, y).1 = ccName) := .inr (.inl h2)
          clear h1 h2
          have HP2 : Hid (P ++ [(x, y)] = shortF (gs.take (j + 1))) := by show _ = _; rw [HTK.out, shortF_snoc, if_pos HYES.out, ← HP.out]
          have h63 : P.length + 1 ≤ maxLen := by have := HPL.out; unfold maxLen; omega
          have h47 : (P.length + 1) * 32 ≤ 140737488355328 := by have := HPL.out; omega
          obtain ⟨⟨_, u1, _⟩, _⟩ := three_facts HS.out.q2
          have HOA : Hid ((wr.drew.alloc (.cells #[.string x, .string y] 68)).ownsRow (r + 1 + 1 + 1) 68 2 (.slice oz P.length cz) P.length (flatF P)) := ((HS.out.below (Below.refl _ _).drew).own).alloc _
          have HSA : Hid (r + 1 + 1 + 1 ≤ (wr.drew.alloc (.cells #[.string x, .string y] 68)).heap.size) := by show _ ≤ _; have := HS.out.size; simp; omega
          have hsz := HS.out.size
          have hgw : g < wr.heap.size := by omega
          have hSA : (wr.drew.alloc (.cells #[.string x, .string y] 68)).cell? ⟨r, 1, none⟩ = some (.slice (some ⟨g, 0, none⟩) n cap) ∧ (wr.drew.alloc (.cells #[.string x, .string y] 68)).cell? ⟨g, j * 2, none⟩ = some (.string x) ∧ (wr.drew.alloc (.cells #[.string x, .string y] 68)).cell? ⟨g, j * 2 + 1, none⟩ = some (.string y) := by
            have b0 : Below wr.heap.size wr (wr.drew.alloc (.cells #[.string x, .string y] 68)) := (Below.refl _ wr).drew.alloc (Nat.le_refl _) _
            exact ⟨(b0.cell (p := ⟨r, 1, none⟩) (by show r < _; omega)).trans t1, (b0.cell (p := ⟨g, j * 2, none⟩) hgw).trans n1, (b0.cell (p := ⟨g, j * 2 + 1, none⟩) hgw).trans n2⟩
          have c1a : (wr.drew.alloc (.cells #[.string x, .string y] 68)).cell? ⟨r + 1 + 1, 1, none⟩ = some (.slice oz P.length cz) := by
            have b0 : Below wr.heap.size wr (wr.drew.alloc (.cells #[.string x, .string y] 68)) := (Below.refl _ wr).drew.alloc (Nat.le_refl _) _
            exact (b0.cell (p := ⟨r + 1 + 1, 1, none⟩) (by show r + 1 + 1 < _; omega)).trans u1
          have c1b : (wr.alloc (.cells #[.string x, .string y] 68)).cell? ⟨r + 1 + 1, 1, none⟩ = some (.slice oz P.length cz) := c1a
          have hnews : ∀ i v, [Value.string x, .string y][i]? = some v → (wr.drew.alloc (.cells #[.string x, .string y] 68)).cell? ((⟨wr.heap.size, 0, none⟩ : Addr).add i) = some v := World.news_of_block (heap_alloc_new wr.drew _)
          have HMORE : Hid (∀ W4 g4 cap4, (wr.drew.alloc (.cells #[.string x, .string y] 68)).grownBy W4 (Value.slice oz P.length cz).ownBlock → W4.ownsRow (r + 1 + 1 + 1) 68 2 (.slice (some ⟨g4, 0, none⟩) (P.length + 1) cap4) (P.length + 1) (flatF P ++ [.string x, .string y]) →
              (W4.cell? ⟨r, 1, none⟩ = some (.slice (some ⟨g, 0, none⟩) n cap) ∧ W4.cell? ⟨g, j * 2, none⟩ = some (.string x) ∧ W4.cell? ⟨g, j * 2 + 1, none⟩ = some (.string y)) ∧ ((W4.setCell ⟨r + 1 + 1, 1, none⟩ (.slice (some ⟨g4, 0, none⟩) (P.length + 1) cap4)).cell? ⟨r, 1, none⟩ = some (.slice (some ⟨g, 0, none⟩) n cap) ∧ (W4.setCell ⟨r + 1 + 1, 1, none⟩ (.slice (some ⟨g4, 0, none⟩) (P.length + 1) cap4)).cell? ⟨g, j * 2, none⟩ = some (.string x) ∧ (W4.setCell ⟨r + 1 + 1, 1, none⟩ (.slice (some ⟨g4, 0, none⟩) (P.length + 1) cap4)).cell? ⟨g, j * 2 + 1, none⟩ = some (.string y)) ∧ (∃ q, W4.cell? ⟨r + 1 + 1, 1, none⟩ = some q) ∧ W4.frozen? ⟨r + 1 + 1, 1, none⟩ = false ∧
              ShSt w r st (.slice (some ⟨g, 0, none⟩) n cap) b (.slice (some ⟨g4, 0, none⟩) (P.length + 1) cap4) (P ++ [(x, y)]) (W4.setCell ⟨r + 1 + 1, 1, none⟩ (.slice (some ⟨g4, 0, none⟩) (P.length + 1) cap4))) := by
            intro W4 g4 cap4 hg4 ho4
            have b0 : Below wr.heap.size wr (wr.drew.alloc (.cells #[.string x, .string y] 68)) := (Below.refl _ wr).drew.alloc (Nat.le_refl _) _
            have h1 := HS.out.below b0
            have bg : Below (r + 1 + 1 + 1) (wr.drew.alloc (.cells #[.string x, .string y] 68)) W4 := below_grownO hg4 HSA.out (fun q hq => owns_ge HOA.out hq)
            have e0 := (bg.block r (by omega)).trans h1.q0
            have e1 := (bg.block (r + 1) (by omega)).trans h1.q1
            have e2 := (bg.block (r + 1 + 1) (by omega)).trans h1.q2
            obtain ⟨⟨_, a1, _⟩, _⟩ := three_facts e0
            obtain ⟨⟨_, a2, _⟩, _, a3, _⟩ := three_facts e2
            have m1 : W4.cell? ⟨g, j * 2, none⟩ = some (.string x) := (bg.cell (p := ⟨g, j * 2, none⟩) (by show g < _; omega)).trans hSA.2.1
            have m2 : W4.cell? ⟨g, j * 2 + 1, none⟩ = some (.string y) := (bg.cell (p := ⟨g, j * 2 + 1, none⟩) (by show g < _; omega)).trans hSA.2.2
            refine ⟨⟨a1, m1, m2⟩, ⟨by rw [cell_set_other _ _ _ _ _ _ (by omega)]; exact a1, by rw [cell_set_other _ _ _ _ _ _ (by omega)]; exact m1, by rw [cell_set_other _ _ _ _ _ _ (by omega)]; exact m2⟩, ⟨_, a2⟩, a3, ⟨by rw [heap_setCell_other _ _ r _ (by show r ≠ r + 1 + 1; omega)]; exact e0, by rw [heap_setCell_other _ _ (r + 1) _ (by show r + 1 ≠ r + 1 + 1; omega)]; exact e1, ?_, ?_, (h1.low.trans (bg.mono (by omega))).setCell (by show r ≤ r + 1 + 1; omega) _⟩⟩
            · have := heap_set W4 (r + 1 + 1) 1 _ _ _ (.slice (some ⟨g4, 0, none⟩) (P.length + 1) cap4) e2
              simpa using this
            · rw [List.length_append, flatF_append, flatF_one]
              refine owns_same ho4 (fun q hq => heap_setCell_other _ _ q _ ?_)
              have := owns_ge ho4 hq
              show q ≠ r + 1 + 1
              omega
          clear HS HP HTK HYES hgw hsz
          go_upto_region 7 with fail
          refine wp_region_held_drew (S := fun W => W.cell? ⟨r, 1, none⟩ = some (.slice (some ⟨g, 0, none⟩) n cap) ∧ W.cell? ⟨g, j * 2, none⟩ = some (.string x) ∧ W.cell? ⟨g, j * 2 + 1, none⟩ = some (.string y)) (by kernel_rfl) ⟨t1, n1, n2⟩ (fun hS0 => ?_)
          refine wpAnyH_takeD (i := 0) (v := .pointer (some ⟨r + 1 + 1, 1, none⟩)) (some 30) rfl rfl (by kernel_rfl) (by kernel_rfl) (by kernel_rfl) (fun _ _ _ h => h) (Or.inl ⟨by rfl, by intro W _; go_simp⟩) hS0 ?_
          simp only [Act.put, List.setIfInBounds_toArray, List.set_cons_zero, List.set_cons_succ]
          refine wpAnyH_takeD (i := 2) (v := .pointer (some ⟨r, 1, none⟩)) (some 32) rfl rfl (by kernel_rfl) (by kernel_rfl) (by kernel_rfl) (fun _ _ _ h => h) (Or.inl ⟨by rfl, by intro W _; go_simp⟩) hS0 ?_
          simp only [Act.put, List.setIfInBounds_toArray, List.set_cons_zero, List.set_cons_succ]
          refine wpAnyH_takeD (i := 3) (v := .slice (some ⟨g, 0, none⟩) n cap) (some 33) rfl rfl (by kernel_rfl) (by kernel_rfl) (by kernel_rfl) (fun _ _ _ h => h) (Or.inl ⟨by rfl, by intro W hW; obtain ⟨h1, h2, h3⟩ := hW; go_simp⟩) hS0 ?_
          simp only [Act.put, List.setIfInBounds_toArray, List.set_cons_zero, List.set_cons_succ]
          refine wpAnyH_takeD (i := 4) (v := .int .i64 (j : Int)) (some 34) rfl rfl (by kernel_rfl) (by kernel_rfl) (by kernel_rfl) (fun _ _ _ h => h) (Or.inl ⟨by rfl, by intro W _; go_simp⟩) hS0 ?_
          simp only [Act.put, List.setIfInBounds_toArray, List.set_cons_zero, List.set_cons_succ]
          refine wpAnyH_takeD (i := 5) (v := .pointer (some ⟨g, j * 2, none⟩)) (some 35) rfl rfl (by kernel_rfl) (by kernel_rfl) (by kernel_rfl) (fun _ _ _ h => h) (Or.inl ⟨by rfl, by intro W _; go_simp⟩) hS0 ?_
          simp only [Act.put, List.setIfInBounds_toArray, List.set_cons_zero, List.set_cons_succ]
          refine wpAnyH_takeD (i := 6) (v := .agg #[.string x, .string y]) (some 36) rfl rfl (by kernel_rfl) (by kernel_rfl) (by kernel_rfl) (fun _ _ _ h => h) (Or.inl ⟨by rfl, by intro W hW; obtain ⟨h1, h2, h3⟩ := hW; go_simp⟩) hS0 ?_
          simp only [Act.put, List.setIfInBounds_toArray, List.set_cons_zero, List.set_cons_succ]
          refine wpAnyH_ready (rs := [1, 7]) (by kernel_rfl) (by simp) ?_
          refine AllReadyH.cons rfl (fun K hK => ?_) (AllReadyH.cons rfl (fun K hK => ?_) AllReadyH.nil)
          · go_simp
            refine hK.out _ _ hS0 (fun _ => ?_)
            clear hK K
            refine wpAnyH_ready (rs := [7]) (by kernel_rfl) (by simp) ?_
            refine AllReadyH.cons rfl (fun K hK => ?_) AllReadyH.nil
            go_simp
            refine hK.out _ _ hSA (fun _ => ?_)
            clear hK K
            refine wpAnyH_ready (rs := [8]) (by kernel_rfl) (by simp) ?_
            refine AllReadyH.cons rfl (fun K hK => ?_) AllReadyH.nil
            refine step_append_lies _ (by rfl) _ _ _ (by rfl) (r + 1 + 1 + 1) 68 i0 (.agg #[.string ⟨#[]⟩, .string ⟨#[]⟩]) 2 32 Try.underlying24 hi hz0 hz1 hz2 rfl (by omega) (.slice oz P.length cz) P.length (flatF P) (by rfl) HOA.out ⟨wr.heap.size, 0, none⟩ 1 1 [.string x, .string y] (by rfl) (by rfl) hnews (by simp [Value.oneCell']) (by omega) h63 h47 HSA.out (wr.heap.size + 1) (by simp) ?_
            intro g4 cap4 w4 hown4 hgrow4 _ _
            obtain ⟨hS4, hS5, ⟨q5, hq5⟩, f5, hM⟩ := HMORE.out w4 g4 cap4 hgrow4 hown4
            have HM : Hid (ShSt w r st (.slice (some ⟨g, 0, none⟩) n cap) b (.slice (some ⟨g4, 0, none⟩) (P.length + 1) cap4) (P ++ [(x, y)]) (w4.setCell ⟨r + 1 + 1, 1, none⟩ (.slice (some ⟨g4, 0, none⟩) (P.length + 1) cap4))) := hM
            clear hown4 hgrow4 hM HMORE
            simp only [Act.put, List.setIfInBounds_toArray]
            refine hK.out _ _ hS4 (fun _ => ?_)
            clear hK K
            refine wpAnyH_takeD (i := 9) (v := .pointer (some ⟨r + 1 + 1, 1, none⟩)) (some 39) rfl rfl (by kernel_rfl) (by kernel_rfl) (by kernel_rfl) (fun _ _ _ h => h) (Or.inl ⟨by rfl, by intro W _; go_simp⟩) hS4 ?_
            simp only [Act.put]
            refine wpAnyH_ready (rs := [10]) (by kernel_rfl) (by simp) ?_
            refine AllReadyH.cons rfl (fun K hK => ?_) AllReadyH.nil
            go_simp
            refine hK.out _ _ hS5 (fun _ => ?_)
            clear hK K hq5 f5 hS4 hS5 hS0 hSA t1 n1 n2 u1 c1a c1b hnews
            refine wpAnyH_done (by kernel_rfl) ?_ _
            go_wp2_with fail
            go_roundw
            case rel => exact ⟨j + 1, _, P ++ [(x, y)], by omega, by go_num, HM, HP2⟩
            case measure => simp [intOf]; omega
          · go_simp
            refine hK.out _ _ hSA (fun _ => ?_)
            clear hK K
            refine wpAnyH_ready (rs := [1]) (by kernel_rfl) (by simp) ?_
            refine AllReadyH.cons rfl (fun K hK => ?_) AllReadyH.nil
            go_simp
            refine hK.out _ _ hSA (fun _ => ?_)
            clear hK K
            refine wpAnyH_ready (rs := [8]) (by kernel_rfl) (by simp) ?_
            refine AllReadyH.cons rfl (fun K hK => ?_) AllReadyH.nil
            refine step_append_lies _ (by rfl) _ _ _ (by rfl) (r + 1 + 1 + 1) 68 i0 (.agg #[.string ⟨#[]⟩, .string ⟨#[]⟩]) 2 32 Try.underlying24 hi hz0 hz1 hz2 rfl (by omega) (.slice oz P.length cz) P.length (flatF P) (by rfl) HOA.out ⟨wr.heap.size, 0, none⟩ 1 1 [.string x, .string y] (by rfl) (by rfl) hnews (by simp [Value.oneCell']) (by omega) h63 h47 HSA.out (wr.heap.size + 1) (by simp) ?_
            intro g4 cap4 w4 hown4 hgrow4 _ _
            obtain ⟨hS4, hS5, ⟨q5, hq5⟩, f5, hM⟩ := HMORE.out w4 g4 cap4 hgrow4 hown4
            have HM : Hid (ShSt w r st (.slice (some ⟨g, 0, none⟩) n cap) b (.slice (some ⟨g4, 0, none⟩) (P.length + 1) cap4) (P ++ [(x, y)]) (w4.setCell ⟨r + 1 + 1, 1, none⟩ (.slice (some ⟨g4, 0, none⟩) (P.length + 1) cap4))) := hM
            clear hown4 hgrow4 hM HMORE
            simp only [Act.put, List.setIfInBounds_toArray]
            refine hK.out _ _ hS4 (fun _ => ?_)
            clear hK K
            refine wpAnyH_takeD (i := 9) (v := .pointer (some ⟨r + 1 + 1, 1, none⟩)) (some 39) rfl rfl (by kernel_rfl) (by kernel_rfl) (by kernel_rfl) (fun _ _ _ h => h) (Or.inl ⟨by rfl, by intro W _; go_simp⟩) hS4 ?_
            simp only [Act.put]
            refine wpAnyH_ready (rs := [10]) (by kernel_rfl) (by simp) ?_
            refine AllReadyH.cons rfl (fun K hK => ?_) AllReadyH.nil
            go_simp
            refine hK.out _ _ hS5 (fun _ => ?_)
            clear hK K hq5 f5 hS4 hS5 hS0 hSA t1 n1 n2 u1 c1a c1b hnews
            refine wpAnyH_done (by kernel_rfl) ?_ _
            go_wp2_with fail
            go_roundw
            case rel => exact ⟨j + 1, _, P ++ [(x, y)], by omega, by go_num, HM, HP2⟩
            case measure => simp [intOf]; omega
        · have t2 : (x.toList == varyName.toList) = false := text_beq_no h2
          rw [vary_list] at t2
          by_cases h3 : x = ccName
          · have t3 : (x.toList == ccName.toList) = true := (text_beq _ _).2 h3
            rw [ccN_list] at t3
            have HYES : Hid ((x, y).1 = tagName ∨ (x, y).1 = varyName ∨ (x, y).1 = ccName) := .inr (.inr h3)
            clear h1 h2 h3
            have HP2 : Hid (P ++ [(x, y)] = shortF (gs.take (j + 1))) := by show _ = _; rw [HTK.out, shortF_snoc, if_pos HYES.out, ← HP.out]
            have h63 : P.length + 1 ≤ maxLen := by have := HPL.out; unfold maxLen; omega
            have h47 : (P.length + 1) * 32 ≤ 140737488355328 := by have := HPL.out; omega
            obtain ⟨⟨_, u1, _⟩, _⟩ := three_facts HS.out.q2
            have HOA : Hid ((wr.drew.alloc (.cells #[.string x, .string y] 68)).ownsRow (r + 1 + 1 + 1) 68 2 (.slice oz P.length cz) P.length (flatF P)) := ((HS.out.below (Below.refl _ _).drew).own).alloc _
            have HSA : Hid (r + 1 + 1 + 1 ≤ (wr.drew.alloc (.cells #[.string x, .string y] 68)).heap.size) := by show _ ≤ _; have := HS.out.size; simp; omega
            have hsz := HS.out.size
            have hgw : g < wr.heap.size := by omega
            have hSA : (wr.drew.alloc (.cells #[.string x, .string y] 68)).cell? ⟨r, 1, none⟩ = some (.slice (some ⟨g, 0, none⟩) n cap) ∧ (wr.drew.alloc (.cells #[.string x, .string y] 68)).cell? ⟨g, j * 2, none⟩ = some (.string x) ∧ (wr.drew.alloc (.cells #[.string x, .string y] 68)).cell? ⟨g, j * 2 + 1, none⟩ = some (.string y) := by
              have b0 : Below wr.heap.size wr (wr.drew.alloc (.cells #[.string x, .string y] 68)) := (Below.refl _ wr).drew.alloc (Nat.le_refl _) _
              exact ⟨(b0.cell (p := ⟨r, 1, none⟩) (by show r < _; omega)).trans t1, (b0.cell (p := ⟨g, j * 2, none⟩) hgw).trans n1, (b0.cell (p := ⟨g, j * 2 + 1, none⟩) hgw).trans n2⟩
            have c1a : (wr.drew.alloc (.cells #[.string x, .string y] 68)).cell? ⟨r + 1 + 1, 1, none⟩ = some (.slice oz P.length cz) := by
              have b0 : Below wr.heap.size wr (wr.drew.alloc (.cells #[.string x, .string y] 68)) := (Below.refl _ wr).drew.alloc (Nat.le_refl _) _
              exact (b0.cell (p := ⟨r + 1 + 1, 1, none⟩) (by show r + 1 + 1 < _; omega)).trans u1
            have c1b : (wr.alloc (.cells #[.string x, .string y] 68)).cell? ⟨r + 1 + 1, 1, none⟩ = some (.slice oz P.length cz) := c1a
            have hnews : ∀ i v, [Value.string x, .string y][i]? = some v → (wr.drew.alloc (.cells #[.string x, .string y] 68)).cell? ((⟨wr.heap.size, 0, none⟩ : Addr).add i) = some v := World.news_of_block (heap_alloc_new wr.drew _)
            have HMORE : Hid (∀ W4 g4 cap4, (wr.drew.alloc (.cells #[.string x, .string y] 68)).grownBy W4 (Value.slice oz P.length cz).ownBlock → W4.ownsRow (r + 1 + 1 + 1) 68 2 (.slice (some ⟨g4, 0, none⟩) (P.length + 1) cap4) (P.length + 1) (flatF P ++ [.string x, .string y]) →
                (W4.cell? ⟨r, 1, none⟩ = some (.slice (some ⟨g, 0, none⟩) n cap) ∧ W4.cell? ⟨g, j * 2, none⟩ = some (.string x) ∧ W4.cell? ⟨g, j * 2 + 1, none⟩ = some (.string y)) ∧ ((W4.setCell ⟨r + 1 + 1, 1, none⟩ (.slice (some ⟨g4, 0, none⟩) (P.length + 1) cap4)).cell? ⟨r, 1, none⟩ = some (.slice (some ⟨g, 0, none⟩) n cap) ∧ (W4.setCell ⟨r + 1 + 1, 1, none⟩ (.slice (some ⟨g4, 0, none⟩) (P.length + 1) cap4)).cell? ⟨g, j * 2, none⟩ = some (.string x) ∧ (W4.setCell ⟨r + 1 + 1, 1, none⟩ (.slice (some ⟨g4, 0, none⟩) (P.length + 1) cap4)).cell? ⟨g, j * 2 + 1, none⟩ = some (.string y)) ∧ (∃ q, W4.cell? ⟨r + 1 + 1, 1, none⟩ = some q) ∧ W4.frozen? ⟨r + 1 + 1, 1, none⟩ = false ∧
                ShSt w r st (.slice (some ⟨g, 0, none⟩) n cap) b (.slice (some ⟨g4, 0, none⟩) (P.length + 1) cap4) (P ++ [(x, y)]) (W4.setCell ⟨r + 1 + 1, 1, none⟩ (.slice (some ⟨g4, 0, none⟩) (P.length + 1) cap4))) := by
              intro W4 g4 cap4 hg4 ho4
              have b0 : Below wr.heap.size wr (wr.drew.alloc (.cells #[.string x, .string y] 68)) := (Below.refl _ wr).drew.alloc (Nat.le_refl _) _
              have h1 := HS.out.below b0
              have bg : Below (r + 1 + 1 + 1) (wr.drew.alloc (.cells #[.string x, .string y] 68)) W4 := below_grownO hg4 HSA.out (fun q hq => owns_ge HOA.out hq)
              have e0 := (bg.block r (by omega)).trans h1.q0
              have e1 := (bg.block (r + 1) (by omega)).trans h1.q1
              have e2 := (bg.block (r + 1 + 1) (by omega)).trans h1.q2
              obtain ⟨⟨_, a1, _⟩, _⟩ := three_facts e0
              obtain ⟨⟨_, a2, _⟩, _, a3, _⟩ := three_facts e2
              have m1 : W4.cell? ⟨g, j * 2, none⟩ = some (.string x) := (bg.cell (p := ⟨g, j * 2, none⟩) (by show g < _; omega)).trans hSA.2.1
              have m2 : W4.cell? ⟨g, j * 2 + 1, none⟩ = some (.string y) := (bg.cell (p := ⟨g, j * 2 + 1, none⟩) (by show g < _; omega)).trans hSA.2.2
              refine ⟨⟨a1, m1, m2⟩, ⟨by rw [cell_set_other _ _ _ _ _ _ (by omega)]; exact a1, by rw [cell_set_other _ _ _ _ _ _ (by omega)]; exact m1, by rw [cell_set_other _ _ _ _ _ _ (by omega)]; exact m2⟩, ⟨_, a2⟩, a3, ⟨by rw [heap_setCell_other _ _ r _ (by show r ≠ r + 1 + 1; omega)]; exact e0, by rw [heap_setCell_other _ _ (r + 1) _ (by show r + 1 ≠ r + 1 + 1; omega)]; exact e1, ?_, ?_, (h1.low.trans (bg.mono (by omega))).setCell (by show r ≤ r + 1 + 1; omega) _⟩⟩
              · have := heap_set W4 (r + 1 + 1) 1 _ _ _ (.slice (some ⟨g4, 0, none⟩) (P.length + 1) cap4) e2
                simpa using this
              · rw [List.length_append, flatF_append, flatF_one]
                refine owns_same ho4 (fun q hq => heap_setCell_other _ _ q _ ?_)
                have := owns_ge ho4 hq
                show q ≠ r + 1 + 1
                omega
            clear HS HP HTK HYES hgw hsz
            go_upto_region 7 with fail
            refine wp_region_held_drew (S := fun W => W.cell? ⟨r, 1, none⟩ = some (.slice (some ⟨g, 0, none⟩) n cap) ∧ W.cell? ⟨g, j * 2, none⟩ = some (.string x) ∧ W.cell? ⟨g, j * 2 + 1, none⟩ = some (.string y)) (by kernel_rfl) ⟨t1, n1, n2⟩ (fun hS0 => ?_)
            refine wpAnyH_takeD (i := 0) (v := .pointer (some ⟨r + 1 + 1, 1, none⟩)) (some 30) rfl rfl (by kernel_rfl) (by kernel_rfl) (by kernel_rfl) (fun _ _ _ h => h) (Or.inl ⟨by rfl, by intro W _; go_simp⟩) hS0 ?_
            simp only [Act.put, List.setIfInBounds_toArray, List.set_cons_zero, List.set_cons_succ]
            refine wpAnyH_takeD (i := 2) (v := .pointer (some ⟨r, 1, none⟩)) (some 32) rfl rfl (by kernel_rfl) (by kernel_rfl) (by kernel_rfl) (fun _ _ _ h => h) (Or.inl ⟨by rfl, by intro W _; go_simp⟩) hS0 ?_
            simp only [Act.put, List.setIfInBounds_toArray, List.set_cons_zero, List.set_cons_succ]
            refine wpAnyH_takeD (i := 3) (v := .slice (some ⟨g, 0, none⟩) n cap) (some 33) rfl rfl (by kernel_rfl) (by kernel_rfl) (by kernel_rfl) (fun _ _ _ h => h) (Or.inl ⟨by rfl, by intro W hW; obtain ⟨h1, h2, h3⟩ := hW; go_simp⟩) hS0 ?_
            simp only [Act.put, List.setIfInBounds_toArray, List.set_cons_zero, List.set_cons_succ]
            refine wpAnyH_takeD (i := 4) (v := .int .i64 (j : Int)) (some 34) rfl rfl (by kernel_rfl) (by kernel_rfl) (by kernel_rfl) (fun _ _ _ h => h) (Or.inl ⟨by rfl, by intro W _; go_simp⟩) hS0 ?_
            simp only [Act.put, List.setIfInBounds_toArray, List.set_cons_zero, List.set_cons_succ]
            refine wpAnyH_takeD (i := 5) (v := .pointer (some ⟨g, j * 2, none⟩)) (some 35) rfl rfl (by kernel_rfl) (by kernel_rfl) (by kernel_rfl) (fun _ _ _ h => h) (Or.inl ⟨by rfl, by intro W _; go_simp⟩) hS0 ?_
            simp only [Act.put, List.setIfInBounds_toArray, List.set_cons_zero, List.set_cons_succ]
            refine wpAnyH_takeD (i := 6) (v := .agg #[.string x, .string y]) (some 36) rfl rfl (by kernel_rfl) (by kernel_rfl) (by kernel_rfl) (fun _ _ _ h => h) (Or.inl ⟨by rfl, by intro W hW; obtain ⟨h1, h2, h3⟩ := hW; go_simp⟩) hS0 ?_
            simp only [Act.put, List.setIfInBounds_toArray, List.set_cons_zero, List.set_cons_succ]
            refine wpAnyH_ready (rs := [1, 7]) (by kernel_rfl) (by simp) ?_
            refine AllReadyH.cons rfl (fun K hK => ?_) (AllReadyH.cons rfl (fun K hK => ?_) AllReadyH.nil)
            · go_simp
              refine hK.out _ _ hS0 (fun _ => ?_)
              clear hK K
              refine wpAnyH_ready (rs := [7]) (by kernel_rfl) (by simp) ?_
              refine AllReadyH.cons rfl (fun K hK => ?_) AllReadyH.nil
              go_simp
              refine hK.out _ _ hSA (fun _ => ?_)
              clear hK K
              refine wpAnyH_ready (rs := [8]) (by kernel_rfl) (by simp) ?_
              refine AllReadyH.cons rfl (fun K hK => ?_) AllReadyH.nil
              refine step_append_lies _ (by rfl) _ _ _ (by rfl) (r + 1 + 1 + 1) 68 i0 (.agg #[.string ⟨#[]⟩, .string ⟨#[]⟩]) 2 32 Try.underlying24 hi hz0 hz1 hz2 rfl (by omega) (.slice oz P.length cz) P.length (flatF P) (by rfl) HOA.out ⟨wr.heap.size, 0, none⟩ 1 1 [.string x, .string y] (by rfl) (by rfl) hnews (by simp [Value.oneCell']) (by omega) h63 h47 HSA.out (wr.heap.size + 1) (by simp) ?_
              intro g4 cap4 w4 hown4 hgrow4 _ _
              obtain ⟨hS4, hS5, ⟨q5, hq5⟩, f5, hM⟩ := HMORE.out w4 g4 cap4 hgrow4 hown4
              have HM : Hid (ShSt w r st (.slice (some ⟨g, 0, none⟩) n cap) b (.slice (some ⟨g4, 0, none⟩) (P.length + 1) cap4) (P ++ [(x, y)]) (w4.setCell ⟨r + 1 + 1, 1, none⟩ (.slice (some ⟨g4, 0, none⟩) (P.length + 1) cap4))) := hM
              clear hown4 hgrow4 hM HMORE
              simp only [Act.put, List.setIfInBounds_toArray]
              refine hK.out _ _ hS4 (fun _ => ?_)
              clear hK K
              refine wpAnyH_takeD (i := 9) (v := .pointer (some ⟨r + 1 + 1, 1, none⟩)) (some 39) rfl rfl (by kernel_rfl) (by kernel_rfl) (by kernel_rfl) (fun _ _ _ h => h) (Or.inl ⟨by rfl, by intro W _; go_simp⟩) hS4 ?_
              simp only [Act.put]
              refine wpAnyH_ready (rs := [10]) (by kernel_rfl) (by simp) ?_
              refine AllReadyH.cons rfl (fun K hK => ?_) AllReadyH.nil
              go_simp
              refine hK.out _ _ hS5 (fun _ => ?_)
              clear hK K hq5 f5 hS4 hS5 hS0 hSA t1 n1 n2 u1 c1a c1b hnews
              refine wpAnyH_done (by kernel_rfl) ?_ _
              go_wp2_with fail
              go_roundw
              case rel => exact ⟨j + 1, _, P ++ [(x, y)], by omega, by go_num, HM, HP2⟩
              case measure => simp [intOf]; omega
            · go_simp
              refine hK.out _ _ hSA (fun _ => ?_)
              clear hK K
              refine wpAnyH_ready (rs := [1]) (by kernel_rfl) (by simp) ?_
              refine AllReadyH.cons rfl (fun K hK => ?_) AllReadyH.nil
              go_simp
              refine hK.out _ _ hSA (fun _ => ?_)
              clear hK K
              refine wpAnyH_ready (rs := [8]) (by kernel_rfl) (by simp) ?_
              refine AllReadyH.cons rfl (fun K hK => ?_) AllReadyH.nil
              refine step_append_lies _ (by rfl) _ _ _ (by rfl) (r + 1 + 1 + 1) 68 i0 (.agg #[.string ⟨#[]⟩, .string ⟨#[]⟩]) 2 32 Try.underlying24 hi hz0 hz1 hz2 rfl (by omega) (.slice oz P.length cz) P.length (flatF P) (by rfl) HOA.out ⟨wr.heap.size, 0, none⟩ 1 1 [.string x, .string y] (by rfl) (by rfl) hnews (by simp [Value.oneCell']) (by omega) h63 h47 HSA.out (wr.heap.size + 1) (by simp) ?_
              intro g4 cap4 w4 hown4 hgrow4 _ _
              obtain ⟨hS4, hS5, ⟨q5, hq5⟩, f5, hM⟩ := HMORE.out w4 g4 cap4 hgrow4 hown4
              have HM : Hid (ShSt w r st (.slice (some ⟨g, 0, none⟩) n cap) b (.slice (some ⟨g4, 0, none⟩) (P.length + 1) cap4) (P ++ [(x, y)]) (w4.setCell ⟨r + 1 + 1, 1, none⟩ (.slice (some ⟨g4, 0, none⟩) (P.length + 1) cap4))) := hM
              clear hown4 hgrow4 hM HMORE
              simp only [Act.put, List.setIfInBounds_toArray]
              refine hK.out _ _ hS4 (fun _ => ?_)
              clear hK K
              refine wpAnyH_takeD (i := 9) (v := .pointer (some ⟨r + 1 + 1, 1, none⟩)) (some 39) rfl rfl (by kernel_rfl) (by kernel_rfl) (by kernel_rfl) (fun _ _ _ h => h) (Or.inl ⟨by rfl, by intro W _; go_simp⟩) hS4 ?_
              simp only [Act.put]
              refine wpAnyH_ready (rs := [10]) (by kernel_rfl) (by simp) ?_
              refine AllReadyH.cons rfl (fun K hK => ?_) AllReadyH.nil
              go_simp
              refine hK.out _ _ hS5 (fun _ => ?_)
              clear hK K hq5 f5 hS4 hS5 hS0 hSA t1 n1 n2 u1 c1a c1b hnews
              refine wpAnyH_done (by kernel_rfl) ?_ _
              go_wp2_with fail
              go_roundw
              case rel => exact ⟨j + 1, _, P ++ [(x, y)], by omega, by go_num, HM, HP2⟩
              case measure => simp [intOf]; omega
          · have t3 : (x.toList == ccName.toList) = false := text_beq_no h3
            rw [ccN_list] at t3
            have HNOT : Hid (¬ ((x, y).1 = tagName ∨ (x, y).1 = varyName ∨ (x, y).1 = ccName)) := fun h => by
              rcases h with h | h | h
              · exact h1 h
              · exact h2 h
              · exact h3 h
            clear h1 h2 h3
            have HS2 : Hid (ShSt w r st (.slice (some ⟨g, 0, none⟩) n cap) b (.slice oz P.length cz) P wr) := HS.out
            have HP2 : Hid (P = shortF (gs.take (j + 1))) := by show _ = _; rw [HTK.out, shortF_snoc, if_neg HNOT.out]; exact HP.out
            clear HP HTK HNOT
            go_wp2_with fail
            go_roundw
            case rel => exact ⟨j + 1, _, P, by omega, by go_num, HS2, HP2⟩
            case measure => simp [intOf]; omega
    · have hjn : j = n := by omega
      have HPE : Hid (P = shortF gs) := by
        have h := HP.out
        rw [List.take_of_length_le (by rw [HLB.out]; omega)] at h
        exact h
      obtain ⟨⟨u0, u1, u2⟩, _⟩ := three_facts HS.out.q2
      obtain ⟨⟨e0, e1, e2⟩, g0, g1, g2⟩ := three_facts HS.out.q1
      have hset := three_set HS.out.q1 (.int .i64 304) (.slice oz P.length cz) (.string ⟨#[]⟩)
      obtain ⟨⟨k0, k1, k2⟩, _⟩ := three_facts hset
      have HFB : Hid (Below r w (threeSet wr (r + 1) (.int .i64 304) (.slice oz P.length cz) (.string ⟨#[]⟩))) := below_three HS.out.low (by omega)
      have HFO : Hid ((threeSet wr (r + 1) (.int .i64 304) (.slice oz P.length cz) (.string ⟨#[]⟩)).ownsRow r 68 2 (.slice oz P.length cz) (shortF gs).length (flatF (shortF gs))) := by
        show World.ownsRow _ _ _ _ _ _ _
        rw [← HPE.out]
        refine owns_same (owns_wide HS.out.own (by omega)) (fun q hq => ?_)
        have hq2 := owns_ge HS.out.own hq
        rw [three_other _ _ q _ _ _ (by omega)]
      unfold threeSet at k0 k1 k2 HFB HFO
      clear hset HS HP HPE
      go_wp2_with fail
      refine bodyPost_ret (v := .agg #[.int .i64 304, .slice oz P.length cz, .string ⟨#[]⟩]) (by simp [results, Try.results19, go_sem, k0, k1, k2]) rfl ?_
      exact ⟨_, rfl, by rw [HR.out]; exact HFO.out, by rw [HR.out]; exact HFB.out⟩

end Go.Proofs.Ythlmnmbhgkmbfaa

namespace Go.Proofs.Ythlmnmbhgkmbfaa
open Go.RowKit
open Go.Lib hiding intOf

/-- A call answers a request with these fields, in memory of its own. -/
def ReqRow (m : Int) (p : ByteArray) (fs : List (ByteArray × ByteArray)) (b : ByteArray) (w : World) (e : Ending) (w' : World) : Prop :=
  ∃ v, e = .returned (.agg #[.int .i64 m, .string p, v, .string b]) ∧ w'.ownsRow w.heap.size 68 2 v fs.length (flatF fs) ∧ Below w.heap.size w w'

/-- While it is asked: the argument, the answer's memory, the request that is made. -/
structure AskSt (w : World) (r : Nat) (m : Int) (p : ByteArray) (v : Value) (b : ByteArray) (z : Value) (W : World) : Prop where
  q0 : W.heap[r]? = some (.cells #[.int .i64 m, .string p, v, .string b] 26)
  q1 : W.heap[r + 1]? = some (.cells #[.int .i64 0, .string ⟨#[]⟩, .slice none 0 0, .string ⟨#[]⟩] 26)
  q2 : W.heap[r + 1 + 1]? = some (.cells #[.int .i64 m, .string p, z, .string b] 26)
  low : Below r w W
theorem AskSt.size {w : World} {r : Nat} {m : Int} {p : ByteArray} {v : Value} {b : ByteArray} {z : Value} {W : World} (h : AskSt w r m p v b z W) : r + 1 + 1 + 1 ≤ W.heap.size := (Array.getElem?_eq_some_iff.1 h.q2).1
theorem AskSt.below {w : World} {r : Nat} {m : Int} {p : ByteArray} {v : Value} {b : ByteArray} {z : Value} {W W' : World} (h : AskSt w r m p v b z W) (hb : Below W.heap.size W W') : AskSt w r m p v b z W' := by
  have hs := h.size
  exact ⟨by rw [hb.block _ (by omega)]; exact h.q0, by rw [hb.block _ (by omega)]; exact h.q1, by rw [hb.block _ (by omega)]; exact h.q2, h.low.trans (hb.mono (by omega))⟩
theorem AskSt.set {w : World} {r : Nat} {m : Int} {p : ByteArray} {v : Value} {b : ByteArray} {z : Value} {W : World} (h : AskSt w r m p v b z W) (y : Value) : AskSt w r m p v b y (W.setCell ⟨r + 1 + 1, 2, none⟩ y) := by
  refine ⟨by rw [heap_setCell_other _ _ r _ (by show r ≠ r + 1 + 1; omega)]; exact h.q0, by rw [heap_setCell_other _ _ (r + 1) _ (by show r + 1 ≠ r + 1 + 1; omega)]; exact h.q1, ?_, h.low.setCell (by show r ≤ r + 1 + 1; omega) _⟩
  have := heap_set W (r + 1 + 1) 2 _ _ _ y h.q2
  simpa using this

set_option maxHeartbeats 2000000 in
set_option maxRecDepth 100000 in
theorem specAsk_any (m : Int) (p : ByteArray) (v : Value) (b : ByteArray) (n base : Nat) (fs : List (ByteArray × ByteArray)) (u : Value) (k base2 : Nat) (gs : List (ByteArray × ByteArray)) (w : World) (hv : FieldsV w base v n fs) (hn : n ≤ 1999999) (hsz : WalkF n fs) (hp : p.size ≤ maxLen) (hb : b.size ≤ maxLen) (hu : FieldsV w base2 u k gs) (hk : k ≤ 1073741824) (ht : (getV gs tagName).size ≤ maxLen) :
    Calls Try.prog 13 #[.agg #[.int .i64 m, .string p, v, .string b], u] w fun e w' => ReqRow m p (askF m p fs b gs) b w e w' := by
  obtain ⟨oa, cap, rfl, _⟩ := hv.slice
  have hl := hv.len
  obtain ⟨r, hr⟩ : ∃ r, r = w.heap.size := ⟨_, rfl⟩
  have HR : Hid (w.heap.size = r) := hr.symm
  obtain ⟨W1, hW1⟩ : ∃ W, W = ((w.alloc (.cells #[.int .i64 m, .string p, .slice oa n cap, .string b] 26)).alloc (.cells #[.int .i64 0, .string ⟨#[]⟩, .slice none 0 0, .string ⟨#[]⟩] 26)).alloc (.cells #[.int .i64 m, .string p, .slice oa n cap, .string b] 26) := ⟨_, rfl⟩
  have HW1 : Hid (((w.alloc (.cells #[.int .i64 m, .string p, .slice oa n cap, .string b] 26)).alloc (.cells #[.int .i64 0, .string ⟨#[]⟩, .slice none 0 0, .string ⟨#[]⟩] 26)).alloc (.cells #[.int .i64 m, .string p, .slice oa n cap, .string b] 26) = W1) := hW1.symm
  have HV : Hid (∀ W, Below r w W → FieldsV W base (.slice oa n cap) n fs) := fun W h => hv.below (by rw [hr] at h; exact h)
  have HST : Hid (AskSt w r m p (.slice oa n cap) b (.slice oa n cap) W1) := by
    have b1 : Below r w W1 := by rw [hW1, hr]; exact (((Below.refl _ w).alloc (Nat.le_refl _) _).alloc (by simp) _).alloc (by simp; omega) _
    have s1 : (w.alloc (.cells #[.int .i64 m, .string p, .slice oa n cap, .string b] 26)).heap.size = r + 1 := by rw [hr]; simp
    have s2 : ((w.alloc (.cells #[.int .i64 m, .string p, .slice oa n cap, .string b] 26)).alloc (.cells #[.int .i64 0, .string ⟨#[]⟩, .slice none 0 0, .string ⟨#[]⟩] 26)).heap.size = r + 1 + 1 := by rw [hr]; simp
    have e0 := heap_alloc_new w (.cells #[.int .i64 m, .string p, .slice oa n cap, .string b] 26)
    have e1 := heap_alloc_new (w.alloc (.cells #[.int .i64 m, .string p, .slice oa n cap, .string b] 26)) (.cells #[.int .i64 0, .string ⟨#[]⟩, .slice none 0 0, .string ⟨#[]⟩] 26)
    have e2 := heap_alloc_new ((w.alloc (.cells #[.int .i64 m, .string p, .slice oa n cap, .string b] 26)).alloc (.cells #[.int .i64 0, .string ⟨#[]⟩, .slice none 0 0, .string ⟨#[]⟩] 26)) (.cells #[.int .i64 m, .string p, .slice oa n cap, .string b] 26)
    rw [← hr] at e0
    rw [s1] at e1
    rw [s2, ← hW1] at e2
    have c1 : Below (r + 1) (w.alloc (.cells #[.int .i64 m, .string p, .slice oa n cap, .string b] 26)) W1 := by rw [hW1, ← s1]; exact ((Below.refl _ _).alloc (Nat.le_refl _) _).alloc (by simp) _
    have c2 : Below (r + 1 + 1) ((w.alloc (.cells #[.int .i64 m, .string p, .slice oa n cap, .string b] 26)).alloc (.cells #[.int .i64 0, .string ⟨#[]⟩, .slice none 0 0, .string ⟨#[]⟩] 26)) W1 := by rw [hW1, ← s2]; exact (Below.refl _ _).alloc (Nat.le_refl _) _
    exact ⟨by rw [c1.block r (by omega)]; exact e0, by rw [c2.block (r + 1) (by omega)]; exact e1, e2, b1⟩
  have HU : Hid (FieldsV W1 base2 u k gs) := hu.below (by rw [← hr]; exact HST.out.low)
  have HSZ : Hid (WalkF n fs) := hsz
  have HPM : Hid (p.size ≤ maxLen) := hp
  have HBM : Hid (b.size ≤ maxLen) := hb
  have HTM : Hid ((getV gs tagName).size ≤ maxLen) := ht
  obtain ⟨s, hs⟩ : ∃ s, s = getV gs tagName := ⟨_, rfl⟩
  obtain ⟨th, hth⟩ : ∃ s, s = getB gs tagName := ⟨_, rfl⟩
  have HE2 : Hid (getV gs tagName = s) := hs.symm
  have HE4 : Hid (getB gs tagName = th) := hth.symm
  have HNO : Hid (th = false ∨ ¬ ReqP m p (putF fs inmName s) b → askF m p fs b gs = dropF fs inmName) := fun h => by
    unfold askF
    rw [HE2.out, HE4.out]
    refine if_neg (fun h2 => ?_)
    rcases h with h | h
    · rw [h] at h2; exact nomatch h2.1
    · exact h h2.2
  have HYES : Hid (th = true → ReqP m p (putF fs inmName s) b → askF m p fs b gs = putF fs inmName s) := fun h h3 => by
    unfold askF
    rw [HE2.out, HE4.out]
    exact if_pos ⟨h, h3⟩
  clear hW1 hv hu hs hth hsz hp hb ht
  go_enter Try.func13, Try.ntmps13
  go_upto_region 2 with fail
  rw [HW1.out, ← hr]
  clear hr HW1
  go_wp2_with fail
  refine (specGet_any u k base2 gs tagName _ HU.out hk).mono ?_
  rintro e w2 ⟨rfl, rfl⟩
  rw [HE2.out, HE4.out]
  cases th with
  | false =>
    have HFE : Hid (askF m p fs b gs = dropF fs inmName) := HNO.out (.inl rfl)
    have hvd := HV.out _ HST.out.low
    obtain ⟨⟨_, _, q2, _⟩, _⟩ := four_facts HST.out.q0
    clear HNO HYES HU
    go_wp2_with fail
    refine (specDrop_any _ n base fs inmName _ hvd (by omega)).mono ?_
    rintro e w5 ⟨zv, rfl, ownz, b5⟩
    obtain ⟨o5, c5, rfl⟩ := slice_of_owns ownz
    have HST5 : Hid (AskSt w r m p (.slice oa n cap) b (.slice oa n cap) w5) := HST.out.below b5
    obtain ⟨⟨_, _, f2, _⟩, _, _, y2, _⟩ := four_facts HST5.out.q2
    have HST6 : Hid (AskSt w r m p (.slice oa n cap) b (.slice o5 (dropF fs inmName).length c5) (w5.setCell ⟨r + 1 + 1, 2, none⟩ (.slice o5 (dropF fs inmName).length c5))) := HST5.out.set _
    have HOW6 : Hid ((w5.setCell ⟨r + 1 + 1, 2, none⟩ (.slice o5 (dropF fs inmName).length c5)).ownsRow (r + 1 + 1 + 1) 68 2 (.slice o5 (dropF fs inmName).length c5) (dropF fs inmName).length (flatF (dropF fs inmName))) := owns_same (owns_wide ownz HST.out.size) (fun j hj => by
      have h1 := owns_ge ownz hj
      have h2 := HST.out.size
      exact heap_setCell_other _ _ j _ (by show j ≠ r + 1 + 1; omega))
    obtain ⟨ld, hld⟩ : ∃ x, x = (dropF fs inmName).length := ⟨_, rfl⟩
    rw [← hld] at HST6 HOW6 ⊢
    have HOW7 : Hid ((w5.setCell ⟨r + 1 + 1, 2, none⟩ (.slice o5 ld c5)).ownsRow (r + 1 + 1 + 1) 68 2 (.slice o5 ld c5) (dropF fs inmName).length (flatF (dropF fs inmName))) := by
      show World.ownsRow _ _ _ _ _ _ _
      rw [← hld]
      exact HOW6.out
    clear hld HOW6 ownz b5 hvd q2 HST5
    obtain ⟨⟨e0, e1, e2, e3⟩, g0, g1, g2, g3⟩ := four_facts HST6.out.q1
    obtain ⟨⟨d0, d1, d2, d3⟩, _⟩ := four_facts HST6.out.q2
    have hset := four_set HST6.out.q1 (.int .i64 m) (.string p) (.slice o5 ld c5) (.string b)
    obtain ⟨⟨k0, k1, k2, k3⟩, _⟩ := four_facts hset
    have HFB : Hid (Below r w (fourSet (w5.setCell ⟨r + 1 + 1, 2, none⟩ (.slice o5 ld c5)) (r + 1) (.int .i64 m) (.string p) (.slice o5 ld c5) (.string b))) := below_four HST6.out.low (by omega)
    have HFO : Hid ((fourSet (w5.setCell ⟨r + 1 + 1, 2, none⟩ (.slice o5 ld c5)) (r + 1) (.int .i64 m) (.string p) (.slice o5 ld c5) (.string b)).ownsRow r 68 2 (.slice o5 ld c5) (askF m p fs b gs).length (flatF (askF m p fs b gs))) := by
      show World.ownsRow _ _ _ _ _ _ _
      rw [HFE.out]
      refine owns_same (owns_wide HOW7.out (by omega)) (fun j hj => ?_)
      have hj2 := owns_ge HOW7.out hj
      unfold fourSet
      rw [heap_setCell_other _ _ j _ (by show j ≠ r + 1; omega), heap_setCell_other _ _ j _ (by show j ≠ r + 1; omega), heap_setCell_other _ _ j _ (by show j ≠ r + 1; omega), heap_setCell_other _ _ j _ (by show j ≠ r + 1; omega)]
    unfold fourSet at k0 k1 k2 k3 HFB HFO
    clear hset HST6 HOW7
    go_wp2_with fail
    refine bodyPost_ret (v := .agg #[.int .i64 m, .string p, .slice o5 ld c5, .string b]) (by simp [results, Try.results13, go_sem, k0, k1, k2, k3]) rfl ?_
    exact ⟨_, rfl, by rw [HR.out]; exact HFO.out, by rw [HR.out]; exact HFB.out⟩
  | true =>
    have hvp := HV.out _ HST.out.low
    obtain ⟨⟨_, _, q2, _⟩, _⟩ := four_facts HST.out.q0
    clear HU
    go_wp2_with fail
    refine (specPut_any _ n base fs inmName s _ hvp (by omega)).mono ?_
    rintro e w3 ⟨zv, rfl, ownz, b3⟩
    obtain ⟨o3, c3, rfl⟩ := slice_of_owns ownz
    have HST3 : Hid (AskSt w r m p (.slice oa n cap) b (.slice oa n cap) w3) := HST.out.below b3
    obtain ⟨⟨_, _, f2, _⟩, _, _, y2, _⟩ := four_facts HST3.out.q2
    have HST4 : Hid (AskSt w r m p (.slice oa n cap) b (.slice o3 (putF fs inmName s).length c3) (w3.setCell ⟨r + 1 + 1, 2, none⟩ (.slice o3 (putF fs inmName s).length c3))) := HST3.out.set _
    have HOW4 : Hid ((w3.setCell ⟨r + 1 + 1, 2, none⟩ (.slice o3 (putF fs inmName s).length c3)).ownsRow (r + 1 + 1 + 1) 68 2 (.slice o3 (putF fs inmName s).length c3) (putF fs inmName s).length (flatF (putF fs inmName s))) := owns_same (owns_wide ownz HST.out.size) (fun j hj => by
      have h1 := owns_ge ownz hj
      have h2 := HST.out.size
      exact heap_setCell_other _ _ j _ (by show j ≠ r + 1 + 1; omega))
    obtain ⟨P, hP⟩ : ∃ x, x = putF fs inmName s := ⟨_, rfl⟩
    have HPL : Hid (P.length ≤ 2000000) := by show _ ≤ _; rw [hP]; have := putF_le fs inmName s; omega
    have HPW : Hid (WalkF P.length P) := by
      show WalkF _ _
      rw [hP]
      exact put_walk fs inmName s (by rw [hl]; exact HSZ.out) (by decide) (by have := HTM.out; rw [HE2.out] at this; exact this)
    rw [← hP] at HST4 HOW4 HYES HNO ⊢
    obtain ⟨ld, hld⟩ : ∃ x, x = P.length := ⟨_, rfl⟩
    have HOW5 : Hid ((w3.setCell ⟨r + 1 + 1, 2, none⟩ (.slice o3 ld c3)).ownsRow (r + 1 + 1 + 1) 68 2 (.slice o3 ld c3) P.length (flatF P)) := by
      show World.ownsRow _ _ _ _ _ _ _
      have := HOW4.out
      rw [← hld] at this ⊢
      exact this
    have HVP : Hid (FieldsV (w3.setCell ⟨r + 1 + 1, 2, none⟩ (.slice o3 ld c3)) (r + 1 + 1 + 1) (.slice o3 ld c3) ld P) := by
      have h := FieldsV.of_owns HOW5.out
      rw [← hld] at h
      exact h
    rw [← hld] at HST4 HPL HPW ⊢
    obtain ⟨⟨d0, d1, d2, d3⟩, _⟩ := four_facts HST4.out.q2
    clear hld HOW4 ownz b3 hvp q2 HST3 HST hP HE2 HE4
    go_wp2_with fail
    refine (specReqOk_any m p _ b ld _ P _ HVP.out (by have := HPL.out; omega) HPW.out HPM.out HBM.out).mono ?_
    rintro e w4 ⟨ok, rfl, hok, b4⟩
    have HST7 : Hid (AskSt w r m p (.slice oa n cap) b (.slice o3 ld c3) w4) := HST4.out.below b4
    have HOW7 : Hid (w4.ownsRow (r + 1 + 1 + 1) 68 2 (.slice o3 ld c3) P.length (flatF P)) := owns_same HOW5.out (fun j hj => b4.block j (owns_lt HOW5.out hj))
    clear d0 d1 d2 d3 f2 y2 HST4 HOW5 HVP b4
    cases ok with
    | true =>
      have HFE : Hid (askF m p fs b gs = P) := HYES.out (by simp) (hok.1 rfl)
      clear hok HYES HNO
      obtain ⟨⟨e0, e1, e2, e3⟩, g0, g1, g2, g3⟩ := four_facts HST7.out.q1
      obtain ⟨⟨d0, d1, d2, d3⟩, _⟩ := four_facts HST7.out.q2
      have hset := four_set HST7.out.q1 (.int .i64 m) (.string p) (.slice o3 ld c3) (.string b)
      obtain ⟨⟨k0, k1, k2, k3⟩, _⟩ := four_facts hset
      have HFB : Hid (Below r w (fourSet w4 (r + 1) (.int .i64 m) (.string p) (.slice o3 ld c3) (.string b))) := below_four HST7.out.low (by omega)
      have HFO : Hid ((fourSet w4 (r + 1) (.int .i64 m) (.string p) (.slice o3 ld c3) (.string b)).ownsRow r 68 2 (.slice o3 ld c3) (askF m p fs b gs).length (flatF (askF m p fs b gs))) := by
        show World.ownsRow _ _ _ _ _ _ _
        rw [HFE.out]
        refine owns_same (owns_wide HOW7.out (by omega)) (fun j hj => ?_)
        have hj2 := owns_ge HOW7.out hj
        unfold fourSet
        rw [heap_setCell_other _ _ j _ (by show j ≠ r + 1; omega), heap_setCell_other _ _ j _ (by show j ≠ r + 1; omega), heap_setCell_other _ _ j _ (by show j ≠ r + 1; omega), heap_setCell_other _ _ j _ (by show j ≠ r + 1; omega)]
      unfold fourSet at k0 k1 k2 k3 HFB HFO
      clear hset HST7 HOW7
      go_wp2_with fail
      refine bodyPost_ret (v := .agg #[.int .i64 m, .string p, .slice o3 ld c3, .string b]) (by simp [results, Try.results13, go_sem, k0, k1, k2, k3]) rfl ?_
      exact ⟨_, rfl, by rw [HR.out]; exact HFO.out, by rw [HR.out]; exact HFB.out⟩
    | false =>
      have HFE : Hid (askF m p fs b gs = dropF fs inmName) := HNO.out (.inr (fun h => nomatch hok.2 h))
      have hvd := HV.out _ HST7.out.low
      obtain ⟨⟨_, _, q2, _⟩, _⟩ := four_facts HST7.out.q0
      clear hok HYES HNO HOW7
      go_wp2_with fail
      refine (specDrop_any _ n base fs inmName _ hvd (by omega)).mono ?_
      rintro e w5 ⟨zv, rfl, ownz, b5⟩
      obtain ⟨o5, c5, rfl⟩ := slice_of_owns ownz
      have HST5 : Hid (AskSt w r m p (.slice oa n cap) b (.slice o3 ld c3) w5) := HST7.out.below b5
      obtain ⟨⟨_, _, f2, _⟩, _, _, y2, _⟩ := four_facts HST5.out.q2
      have HST6 : Hid (AskSt w r m p (.slice oa n cap) b (.slice o5 (dropF fs inmName).length c5) (w5.setCell ⟨r + 1 + 1, 2, none⟩ (.slice o5 (dropF fs inmName).length c5))) := HST5.out.set _
      have HOW6 : Hid ((w5.setCell ⟨r + 1 + 1, 2, none⟩ (.slice o5 (dropF fs inmName).length c5)).ownsRow (r + 1 + 1 + 1) 68 2 (.slice o5 (dropF fs inmName).length c5) (dropF fs inmName).length (flatF (dropF fs inmName))) := owns_same (owns_wide ownz HST7.out.size) (fun j hj => by
        have h1 := owns_ge ownz hj
        have h2 := HST7.out.size
        exact heap_setCell_other _ _ j _ (by show j ≠ r + 1 + 1; omega))
      obtain ⟨ld, hld⟩ : ∃ x, x = (dropF fs inmName).length := ⟨_, rfl⟩
      rw [← hld] at HST6 HOW6 ⊢
      have HOW7 : Hid ((w5.setCell ⟨r + 1 + 1, 2, none⟩ (.slice o5 ld c5)).ownsRow (r + 1 + 1 + 1) 68 2 (.slice o5 ld c5) (dropF fs inmName).length (flatF (dropF fs inmName))) := by
        show World.ownsRow _ _ _ _ _ _ _
        rw [← hld]
        exact HOW6.out
      clear hld HOW6 ownz b5 hvd q2 HST5
      obtain ⟨⟨e0, e1, e2, e3⟩, g0, g1, g2, g3⟩ := four_facts HST6.out.q1
      obtain ⟨⟨d0, d1, d2, d3⟩, _⟩ := four_facts HST6.out.q2
      have hset := four_set HST6.out.q1 (.int .i64 m) (.string p) (.slice o5 ld c5) (.string b)
      obtain ⟨⟨k0, k1, k2, k3⟩, _⟩ := four_facts hset
      have HFB : Hid (Below r w (fourSet (w5.setCell ⟨r + 1 + 1, 2, none⟩ (.slice o5 ld c5)) (r + 1) (.int .i64 m) (.string p) (.slice o5 ld c5) (.string b))) := below_four HST6.out.low (by omega)
      have HFO : Hid ((fourSet (w5.setCell ⟨r + 1 + 1, 2, none⟩ (.slice o5 ld c5)) (r + 1) (.int .i64 m) (.string p) (.slice o5 ld c5) (.string b)).ownsRow r 68 2 (.slice o5 ld c5) (askF m p fs b gs).length (flatF (askF m p fs b gs))) := by
        show World.ownsRow _ _ _ _ _ _ _
        rw [HFE.out]
        refine owns_same (owns_wide HOW7.out (by omega)) (fun j hj => ?_)
        have hj2 := owns_ge HOW7.out hj
        unfold fourSet
        rw [heap_setCell_other _ _ j _ (by show j ≠ r + 1; omega), heap_setCell_other _ _ j _ (by show j ≠ r + 1; omega), heap_setCell_other _ _ j _ (by show j ≠ r + 1; omega), heap_setCell_other _ _ j _ (by show j ≠ r + 1; omega)]
      unfold fourSet at k0 k1 k2 k3 HFB HFO
      clear hset HST6 HOW7
      go_wp2_with fail
      refine bodyPost_ret (v := .agg #[.int .i64 m, .string p, .slice o5 ld c5, .string b]) (by simp [results, Try.results13, go_sem, k0, k1, k2, k3]) rfl ?_
      exact ⟨_, rfl, by rw [HR.out]; exact HFO.out, by rw [HR.out]; exact HFB.out⟩

end Go.Proofs.Ythlmnmbhgkmbfaa

namespace Go.Proofs.Ythlmnmbhgkmbfaa
open Go.RowKit
open Go.Lib hiding intOf

set_option maxHeartbeats 1000000 in
theorem fieldOk_any (v : Value) (n base : Nat) (fs : List (ByteArray × ByteArray)) (k : Nat) (w : World) (hv : FieldsV w base v n fs) (hn : n ≤ 1073741824) (hk : k < n) (hs1 : (nameAt fs k).size ≤ maxLen) (hs2 : (valAt fs k).size ≤ maxLen) :
    Calls Try.prog 121 #[v, .int .i64 (k : Int)] w fun e w' => BoolIs (FldOk fs k) w e w' := by
  have HV : Hid (∀ W, Below w.heap.size w W → FieldsV W base v n fs) := fun W h => hv.below h
  obtain ⟨oa, cap, rfl, hrow⟩ := hv.slice
  obtain ⟨g, rfl, row⟩ := hrow k hk
  have hlt2 : (k : Int) < (n : Int) := by omega
  have hc1 := row.name k hk
  have hc2 := row.val k hk
  obtain ⟨nm, hnm⟩ : ∃ x, x = nameAt fs k := ⟨_, rfl⟩
  obtain ⟨vl, hvl⟩ : ∃ x, x = valAt fs k := ⟨_, rfl⟩
  have HO : Hid (FldOk fs k ↔ TokOk nm ∧ ValOk vl ∧ atF fs nm = k ∧ nm ≠ clen) := by rw [hnm, hvl]; exact Iff.rfl
  rw [← hnm] at hc1 hs1
  rw [← hvl] at hc2 hs2
  clear hv hrow row hnm hvl
  obtain ⟨r, hr⟩ : ∃ r, r = w.heap.size := ⟨_, rfl⟩
  have h0 : (w.alloc (.cells #[.string nm, .string vl] 68)).heap.size = w.heap.size + 1 := by simp
  have HB0 : Hid (Below w.heap.size w (w.alloc (.cells #[.string nm, .string vl] 68)) ∧ w.heap.size ≤ (w.alloc (.cells #[.string nm, .string vl] 68)).heap.size) := ⟨(Below.refl _ w).alloc (Nat.le_refl _) _, by omega⟩
  have HR : Hid (∀ W, Below (w.alloc (.cells #[.string nm, .string vl] 68)).heap.size (w.alloc (.cells #[.string nm, .string vl] 68)) W → W.cell? ⟨r, 0, none⟩ = some (.string nm) ∧ W.cell? ⟨r, 1, none⟩ = some (.string vl)) := fun W h => by
    have hh : W.heap[r]? = some (.cells #[.string nm, .string vl] 68) := by rw [hr, h.block _ (by omega)]; exact heap_alloc_new w _
    exact ⟨by simp [World.cell?, hh], by simp [World.cell?, hh]⟩
  go_enter Try.func121, Try.ntmps121
  go_wp2_with fail
  refine (implTokenOk_any nm _ hs1).mono ?_
  rintro e w1 ⟨b1, rfl, kb1, bb1⟩
  rw [← hr]
  have hb1 : Below w.heap.size w w1 := HB0.out.1.trans (bb1.mono HB0.out.2)
  obtain ⟨d1, d2⟩ := HR.out w1 bb1
  clear h0
  cases b1
  · have HF : Hid (¬ FldOk fs k) := fun h => by have := kb1.2 (HO.out.1 h).1; cases this
    clear kb1 hc1 hc2 bb1 hr
    go_wp2_with fail
    go_ret
    exact BoolIs.no HF.out hb1
  · have HT : Hid (TokOk nm) := kb1.1 rfl
    clear kb1 hc1 hc2 hr
    go_wp2_with fail
    refine (implValueOk_any vl _ hs2).mono ?_
    rintro e w2 ⟨b2, rfl, kb2, bb2⟩
    have bb2' := bb1.trans (bb2.mono bb1.size)
    have hb2 : Below w.heap.size w w2 := HB0.out.1.trans (bb2'.mono HB0.out.2)
    obtain ⟨d3, d4⟩ := HR.out w2 bb2'
    cases b2
    · have HF : Hid (¬ FldOk fs k) := fun h => by have := kb2.2 (HO.out.1 h).2.1; cases this
      clear kb2 bb1 bb2 bb2' hb1 d1 d2
      go_wp2_with fail
      go_ret
      exact BoolIs.no HF.out hb2
    · have HT2 : Hid (ValOk vl) := kb2.1 rfl
      clear kb2 bb1 bb2 bb2' hb1 d1 d2
      by_cases hcl : nm = clen
      · have ht := (text_beq _ _).2 hcl
        rw [clen_list] at ht
        have HF : Hid (¬ FldOk fs k) := fun h => (HO.out.1 h).2.2.2 hcl
        clear hcl
        go_wp2_with fail
        go_ret
        exact BoolIs.no HF.out hb2
      · have ht := text_beq_no hcl
        rw [clen_list] at ht
        have HC : Hid (nm ≠ clen) := hcl
        clear hcl
        go_wp2_with fail
        refine (place_any _ n base fs nm _ (HV.out w2 hb2) hn).mono ?_
        rintro e w3 ⟨rfl, rfl⟩
        by_cases hat : atF fs nm = k
        · have HY : Hid (FldOk fs k) := HO.out.2 ⟨HT.out, HT2.out, hat, HC.out⟩
          rw [hat]
          clear hat
          go_wp2
          go_ret
          exact BoolIs.yes HY.out hb2
        · have HF : Hid (¬ FldOk fs k) := fun h => hat (HO.out.1 h).2.2.1
          have hne : ((atF fs nm : Int) == (k : Int)) = false := by rw [beq_eq_false_iff_ne]; omega
          clear hat
          go_wp2
          go_ret
          exact BoolIs.no HF.out hb2

set_option maxHeartbeats 1000000 in
theorem ok_any (v : Value) (n base : Nat) (fs : List (ByteArray × ByteArray)) (w : World) (hv : FieldsV w base v n fs) (hn : n ≤ 1073741824) (hsz : ∀ i, i < n → (nameAt fs i).size ≤ maxLen ∧ (valAt fs i).size ≤ maxLen) :
    Calls Try.prog 111 #[v] w fun e w' => BoolIs (FldsOk fs) w e w' := by
  have hl := hv.len
  have HV : Hid (∀ W, Below w.heap.size w W → FieldsV W base v n fs) := fun W h => hv.below h
  have HS : Hid (∀ i, i < n → (nameAt fs i).size ≤ maxLen ∧ (valAt fs i).size ≤ maxLen) := hsz
  obtain ⟨oa, cap, rfl, hrow⟩ := hv.slice
  clear hv hrow hsz
  by_cases h8 : (8 : Int) < (n : Int)
  · have HF : Hid (¬ FldsOk fs) := fun h => by have := h.1; omega
    go_enter Try.func111, Try.ntmps111
    go_wp2
    go_ret
    exact BoolIs.no HF.out (Below.refl _ _)
  · go_enter Try.func111, Try.ntmps111
    go_wp2
    go_loopw [9] (fun i wr => ∃ k : Nat, k ≤ n ∧ i = .int .i64 (k : Int) ∧ Hid (∀ j, j < k → FldOk fs j) ∧ Below w.heap.size w wr) (fun i _ => n - (intOf i).toNat)
    case atStart => exact ⟨0, Nat.zero_le _, rfl, fun j h => absurd h (by omega), Below.refl _ _⟩
    case round =>
      obtain ⟨k, hk, rfl, hall, hbw⟩ := hrel
      by_cases hlt : k < n
      · have hlt2 : (k : Int) < (n : Int) := by omega
        obtain ⟨hs1, hs2⟩ := HS.out k hlt
        go_wp2_with fail
        refine (fieldOk_any _ n base fs k _ (HV.out wr hbw) hn hlt hs1 hs2).mono ?_
        rintro e w1 ⟨b1, rfl, kb1, bb1⟩
        have hb1 : Below w.heap.size w w1 := hbw.trans (bb1.mono hbw.size)
        cases b1
        · have HF : Hid (¬ FldsOk fs) := fun h => by have := kb1.2 (h.2 k (by omega)); cases this
          clear kb1 bb1
          go_wp2
          go_ret
          exact BoolIs.no HF.out hb1
        · have HY : Hid (FldOk fs k) := kb1.1 rfl
          clear kb1 bb1
          go_wp2
          go_roundw
          case rel =>
            refine ⟨k + 1, by omega, by go_num, ?_, hb1⟩
            intro j hj
            by_cases e : j = k
            · subst e; exact HY.out
            · exact hall.out j (by omega)
          case measure => simp [intOf]; omega
      · have HF : Hid (FldsOk fs) := ⟨by omega, fun i hi => hall.out i (by omega)⟩
        go_wp2
        go_ret
        exact BoolIs.yes HF.out hbw

end Go.Proofs.Ythlmnmbhgkmbfaa

namespace Go.Proofs.Ythlmnmbhgkmbfaa
open Go.RowKit
open Go.Lib hiding intOf

theorem path_cls (n : Int) : PathB n ↔ (cls n ≠ 4 ∧ cls n ≠ 7) := by
  have := cls_spec n
  unfold PathB
  constructor
  · intro h; omega
  · intro h; omega
theorem path_small {n : Int} (h : PathB n) : n < 128 := by unfold PathB at h; omega

set_option maxHeartbeats 400000 in
theorem isPathRune_any (r : Int) (w : World) :
    Calls Try.prog 110 #[.int .i32 r] w fun e w' => BoolIs (PathB r) w e w' := by
  have HP : Hid (PathB r ↔ (cls r ≠ 4 ∧ cls r ≠ 7)) := path_cls r
  go_enter Try.func110, Try.ntmps110
  go_wp2_with fail
  refine (classOf_any r _).mono ?_
  rintro e w1 ⟨rfl, hb⟩
  generalize cls r = c at HP ⊢
  by_cases h4 : c = 4
  · have HN : Hid (¬ PathB r) := fun h => (HP.out.1 h).1 h4
    subst h4
    go_wp2_with fail
    go_ret
    exact BoolIs.no HN.out hb
  · have h5 : (c != 4) = true := by rw [bne_iff_ne]; exact h4
    by_cases h7 : c = 7
    · have HN : Hid (¬ PathB r) := fun h => (HP.out.1 h).2 h7
      subst h7
      go_wp2_with fail
      go_ret
      exact BoolIs.no HN.out hb
    · have h8 : (c != 7) = true := by rw [bne_iff_ne]; exact h7
      have HY : Hid (PathB r) := HP.out.2 ⟨h4, h7⟩
      go_wp2_with fail
      go_ret
      exact BoolIs.yes HY.out hb

set_option maxHeartbeats 1000000 in
theorem allRunes_path (s : ByteArray) (w : World) :
    Calls Try.prog 109 #[.string s, .func (.func 110) #[] #[]] w fun e w' => BoolIs (AllB PathB s) w e w' := by
  go_enter Try.func109, Try.ntmps109
  go_wp2
  go_loopw [6] (fun _ wr => ∃ pos : Nat, wr.heap[w.heap.size]? = some (.stringIter s pos) ∧ Below w.heap.size w wr ∧ Hid (AllTo PathB s pos)) (fun _ wr => s.size - wr.iterPos w.heap.size)
  case atStart => exact ⟨0, World.iter_heap _ _ _, (Below.refl _ _).alloc (Nat.le_refl _) _, allTo_zero _ _⟩
  case round =>
    obtain ⟨pos, hh, hbw, hall⟩ := hrel
    by_cases hp : pos < s.size
    · have hnx := fun ty => run_next_any_at (P := Try.prog) wr w.heap.size s pos ty hh hp
      go_wp2_with (go_at_call 110; refine (isPathRune_any _ _).mono ?_; rintro e w1 ⟨b, rfl, hbt, hb1⟩)
      · have hbf : b = false := by simpa using ‹(!b) = true›
        have hno : ¬ PathB ((Utf8.decode s pos).1 : Int) := fun h => by rw [hbt.2 h] at hbf; cases hbf
        go_ret
        exact BoolIs.no (rune_no (fun _ => path_small) s pos hp hno) (iter_step hh hbw hb1).2
      · have hbf : b = true := by simpa using ‹(!b) = false›
        obtain ⟨hv, hone⟩ := rune_ok (fun _ => path_small) s pos hp (hbt.1 hbf)
        rw [hone] at hb1
        obtain ⟨h1, h2⟩ := iter_step hh hbw hb1
        exact ⟨⟨pos + 1, h1, h2, allTo_succ hall.out hp hv⟩, by rw [iterPos_of h1, iterPos_of hh]; omega⟩
    · have hnx := fun ty => run_next_end_at (P := Try.prog) wr w.heap.size s pos ty hh hp
      go_wp2
      go_ret
      exact BoolIs.yes (allTo_end hall.out hp) hbw

set_option maxHeartbeats 1000000 in
theorem pathOk_any (s : ByteArray) (w : World) (hs : s.size ≤ maxLen) :
    Calls Try.prog 88 #[.string s] w fun e w' => BoolIs (PathOk s) w e w' := by
  unfold maxLen at hs
  by_cases h1 : (1 : Int) ≤ (s.size : Int)
  · have h0 : 0 < s.size := by omega
    by_cases h2 : (s.size : Int) ≤ 60
    · by_cases h3 : ((s[0]'h0).toNat : Int) = 47
      · have h4 : (((s[0]'h0).toNat : Int) == 47) = true := by rw [beq_iff_eq]; exact h3
        have H3 : Hid ((s[0]'h0).toNat = 47) := by show _ = _; omega
        clear h3
        go_enter Try.func88, Try.ntmps88
        go_wp2_with fail
        refine (allRunes_path s _).mono ?_
        rintro e w1 ⟨b, rfl, hbt, hb1⟩
        cases b
        · have HN : Hid (¬ PathOk s) := fun h => by have := hbt.2 h.1; cases this
          clear hbt
          go_wp2_with fail
          go_ret
          exact BoolIs.no HN.out hb1
        · have HY : Hid (PathOk s) := ⟨hbt.1 rfl, by omega, by omega, h0, H3.out⟩
          clear hbt
          go_wp2_with fail
          go_ret
          exact BoolIs.yes HY.out hb1
      · have h4 : (((s[0]'h0).toNat : Int) == 47) = false := by rw [beq_eq_false_iff_ne]; exact h3
        have HN : Hid (¬ PathOk s) := fun h => by obtain ⟨_, _, _, _, h5⟩ := h; omega
        clear h3
        go_enter Try.func88, Try.ntmps88
        go_wp2_with fail
        go_ret
        exact BoolIs.no HN.out (Below.refl _ _)
    · have HN : Hid (¬ PathOk s) := fun h => by obtain ⟨_, _, h5, _⟩ := h; omega
      have hd : decide ((s.size : Int) ≤ 60) = false := by simpa using h2
      go_enter Try.func88, Try.ntmps88
      go_wp2_with fail
      go_ret
      exact BoolIs.no HN.out (Below.refl _ _)
  · have HN : Hid (¬ PathOk s) := fun h => by obtain ⟨_, h5, _⟩ := h; omega
    have hd : decide ((1 : Int) ≤ (s.size : Int)) = false := by simpa using h1
    go_enter Try.func88, Try.ntmps88
    go_wp2_with fail
    go_ret
    exact BoolIs.no HN.out (Below.refl _ _)

theorem methB_none {m : Int} (h : ¬ (1 ≤ m ∧ m ≤ 4)) : methB m = ⟨#[]⟩ := by
  unfold methB
  rw [if_neg (by omega), if_neg (by omega), if_neg (by omega), if_neg (by omega)]
set_option maxHeartbeats 400000 in
theorem methodName_any (m : Int) (w : World) :
    Calls Try.prog 87 #[.int .i64 m] w fun e w' => e = .returned (.string (methB m)) ∧ w' = w := by
  by_cases h1 : m = 1
  · subst h1
    go_enter Try.func87, Try.ntmps87
    go_wp2
    go_ret
    exact ⟨rfl, rfl⟩
  · by_cases h2 : m = 2
    · subst h2
      go_enter Try.func87, Try.ntmps87
      go_wp2
      go_ret
      exact ⟨rfl, rfl⟩
    · by_cases h3 : m = 3
      · subst h3
        go_enter Try.func87, Try.ntmps87
        go_wp2
        go_ret
        exact ⟨rfl, rfl⟩
      · by_cases h4 : m = 4
        · subst h4
          go_enter Try.func87, Try.ntmps87
          go_wp2
          go_ret
          exact ⟨rfl, rfl⟩
        · have HE : Hid (methB m = ⟨#[]⟩) := methB_none (by omega)
          have e1 : (m == 1) = false := by rw [beq_eq_false_iff_ne]; exact h1
          have e2 : (m == 2) = false := by rw [beq_eq_false_iff_ne]; exact h2
          have e3 : (m == 3) = false := by rw [beq_eq_false_iff_ne]; exact h3
          have e4 : (m == 4) = false := by rw [beq_eq_false_iff_ne]; exact h4
          go_enter Try.func87, Try.ntmps87
          go_wp2
          go_ret
          exact ⟨by rw [HE.out]; rfl, rfl⟩

/-- What is right of what stands behind the first line. -/
def RestP (fs : List (ByteArray × ByteArray)) (b : ByteArray) : Prop := FldsOk fs ∧ b.size ≤ 120
set_option maxHeartbeats 1000000 in
theorem restOk_any (v : Value) (b : ByteArray) (n base : Nat) (fs : List (ByteArray × ByteArray)) (w : World) (hv : FieldsV w base v n fs) (hn : n ≤ 1073741824) (hsz : WalkF n fs) (hb : b.size ≤ maxLen) :
    Calls Try.prog 89 #[.agg #[v, .string b]] w fun e w' => BoolIs (RestP fs b) w e w' := by
  obtain ⟨oa, cap, rfl, _⟩ := hv.slice
  obtain ⟨r, hr⟩ : ∃ r, r = w.heap.size := ⟨_, rfl⟩
  have HR : Hid (∀ W, Below (w.alloc (.cells #[.slice oa n cap, .string b] 78)).heap.size (w.alloc (.cells #[.slice oa n cap, .string b] 78)) W → (W.cell? ⟨r, 0, none⟩ = some (.slice oa n cap) ∧ W.cell? ⟨r, 1, none⟩ = some (.string b)) ∧ FieldsV W base (.slice oa n cap) n fs ∧ Below w.heap.size w W) := fun W h => by
    have hh := kept_new h
    rw [← hr] at hh
    exact ⟨⟨by simp [World.cell?, hh], by simp [World.cell?, hh]⟩, hv.below (below_new h), below_new h⟩
  obtain ⟨_, hv0, _⟩ := HR.out _ (Below.refl _ _)
  unfold maxLen at hb
  go_enter Try.func89, Try.ntmps89
  go_wp2_with fail
  refine (ok_any _ n base fs _ hv0 hn hsz).mono ?_
  rintro e w1 ⟨b1, rfl, kb1, bb1⟩
  rw [← hr]
  obtain ⟨⟨c0, c1⟩, _, hbw1⟩ := HR.out w1 bb1
  clear hv hv0 hsz bb1 hr
  cases b1
  · have HF : Hid (¬ RestP fs b) := fun h => by have := kb1.2 h.1; cases this
    clear kb1
    go_wp2_with fail
    go_ret
    exact BoolIs.no HF.out hbw1
  · have HT : Hid (FldsOk fs) := kb1.1 rfl
    clear kb1
    by_cases h120 : (b.size : Int) ≤ 120
    · have HY : Hid (RestP fs b) := ⟨HT.out, by omega⟩
      go_wp2_with fail
      go_ret
      exact BoolIs.yes HY.out hbw1
    · have HF : Hid (¬ RestP fs b) := fun h => by have := h.2; omega
      have hd : decide ((b.size : Int) ≤ 120) = false := by simpa using h120
      go_wp2_with fail
      go_ret
      exact BoolIs.no HF.out hbw1

theorem meth_empty {m : Int} (h : 1 ≤ m ∧ m ≤ 4) : (methB m).toList.isEmpty = false := by
  refine isEmpty_no ?_
  rcases meth_cases h with rfl | rfl | rfl | rfl <;> decide
set_option maxHeartbeats 1000000 in
theorem reqOk_any (m : Int) (p : ByteArray) (v : Value) (b : ByteArray) (n base : Nat) (fs : List (ByteArray × ByteArray)) (w : World) (hv : FieldsV w base v n fs) (hn : n ≤ 1073741824) (hsz : WalkF n fs) (hp : p.size ≤ maxLen) (hb : b.size ≤ maxLen) :
    Calls Try.prog 55 #[.agg #[v, .string b, .int .i64 m, .string p]] w fun e w' => BoolIs (ReqP m p fs b) w e w' := by
  obtain ⟨oa, cap, rfl, _⟩ := hv.slice
  obtain ⟨r, hr⟩ : ∃ r, r = w.heap.size := ⟨_, rfl⟩
  have HR : Hid (∀ W, Below (w.alloc (.cells #[.slice oa n cap, .string b, .int .i64 m, .string p] 80)).heap.size (w.alloc (.cells #[.slice oa n cap, .string b, .int .i64 m, .string p] 80)) W → (W.cell? ⟨r, 0, none⟩ = some (.slice oa n cap) ∧ W.cell? ⟨r, 1, none⟩ = some (.string b) ∧ W.cell? ⟨r, 2, none⟩ = some (.int .i64 m) ∧ W.cell? ⟨r, 3, none⟩ = some (.string p)) ∧ FieldsV W base (.slice oa n cap) n fs ∧ Below w.heap.size w W) := fun W h => by
    have hh := kept_new h
    rw [← hr] at hh
    exact ⟨⟨by simp [World.cell?, hh], by simp [World.cell?, hh], by simp [World.cell?, hh], by simp [World.cell?, hh]⟩, hv.below (below_new h), below_new h⟩
  have HSZ : Hid (WalkF n fs) := hsz
  have HP : Hid (p.size ≤ maxLen) := hp
  have HBS : Hid (b.size ≤ maxLen) := hb
  clear hv hsz hp hb
  go_enter Try.func55, Try.ntmps55
  go_wp2_with fail
  refine (methodName_any m _).mono ?_
  rintro e w1 ⟨rfl, hw1⟩
  have hb1 : Below (w.alloc (.cells #[.slice oa n cap, .string b, .int .i64 m, .string p] 80)).heap.size (w.alloc (.cells #[.slice oa n cap, .string b, .int .i64 m, .string p] 80)) w1 := by rw [hw1]; exact Below.refl _ _
  clear hw1
  rw [← hr]
  obtain ⟨⟨c0, c1, c2, c3⟩, _, hbw1⟩ := HR.out w1 hb1
  by_cases hm : 1 ≤ m ∧ m ≤ 4
  · have e1 := meth_empty hm
    have HM : Hid (1 ≤ m ∧ m ≤ 4) := hm
    generalize methB m = mt at e1 ⊢
    clear hr hm
    go_wp2_with fail
    refine (pathOk_any p _ HP.out).mono ?_
    rintro e w2 ⟨b1, rfl, kb1, bb2⟩
    have hb2 := hb1.trans (bb2.mono hb1.size)
    clear c0 c1 c2 c3 bb2 hb1 hbw1
    obtain ⟨⟨c0, c1, c2, c3⟩, hv2, hbw2⟩ := HR.out w2 hb2
    have HV2 : Hid (FieldsV w2 base (.slice oa n cap) n fs) := hv2
    clear hv2
    cases b1
    · have HF : Hid (¬ ReqP m p fs b) := fun h => by have := kb1.2 h.2.1; cases this
      clear kb1
      go_wp2_with fail
      go_ret
      exact BoolIs.no HF.out hbw2
    · have HT : Hid (PathOk p) := kb1.1 rfl
      clear kb1
      go_wp2_with fail
      refine (restOk_any _ b n base fs _ HV2.out hn HSZ.out HBS.out).mono ?_
      rintro e w3 ⟨b2, rfl, kb2, bb3⟩
      have hb3 := hb2.trans (bb3.mono hb2.size)
      clear c0 c1 c2 c3 bb3 hb2 hbw2
      obtain ⟨_, _, hbw3⟩ := HR.out w3 hb3
      cases b2
      · have HF : Hid (¬ ReqP m p fs b) := fun h => by have := kb2.2 h.2.2; cases this
        clear kb2
        go_wp2_with fail
        go_ret
        exact BoolIs.no HF.out hbw3
      · have HY : Hid (ReqP m p fs b) := ⟨HM.out, HT.out, kb2.1 rfl⟩
        clear kb2
        go_wp2_with fail
        go_ret
        exact BoolIs.yes HY.out hbw3
  · have HF : Hid (¬ ReqP m p fs b) := fun h => hm h.1
    rw [methB_none hm]
    clear hr hm
    go_wp2_with fail
    go_ret
    exact BoolIs.no HF.out hbw1

set_option maxHeartbeats 400000 in
theorem requestOf_any (m : Int) (p : ByteArray) (oa : Option Addr) (n cap : Nat) (b : ByteArray) (w : World) :
    Calls Try.prog 54 #[.agg #[.int .i64 m, .string p, .slice oa n cap, .string b]] w fun e w' => e = .returned (.agg #[.slice oa n cap, .string b, .int .i64 m, .string p]) ∧ Below w.heap.size w w' := by
  go_enter Try.func54, Try.ntmps54
  go_wp2
  exact bodyPost_ret (v := .agg #[.slice oa n cap, .string b, .int .i64 m, .string p]) (by simp [results, Try.results54, go_sem]) rfl ⟨rfl, ((Below.refl _ _).alloc (Nat.le_refl _) _).alloc (by simp) _⟩
set_option maxHeartbeats 400000 in
theorem implReqOk_any (m : Int) (p : ByteArray) (v : Value) (b : ByteArray) (n base : Nat) (fs : List (ByteArray × ByteArray)) (w : World) (hv : FieldsV w base v n fs) (hn : n ≤ 1073741824) (hsz : WalkF n fs) (hp : p.size ≤ maxLen) (hb : b.size ≤ maxLen) :
    Calls Try.prog 21 #[.agg #[.int .i64 m, .string p, v, .string b]] w fun e w' => BoolIs (ReqP m p fs b) w e w' := by
  obtain ⟨oa, cap, rfl, _⟩ := hv.slice
  have hb0 : Below w.heap.size w (w.alloc (.cells #[.int .i64 m, .string p, .slice oa n cap, .string b] 26)) := (Below.refl _ _).alloc (Nat.le_refl _) _
  go_enter Try.func21, Try.ntmps21
  go_wp2_with fail
  refine (requestOf_any m p oa n cap b _).mono ?_
  rintro e w1 ⟨rfl, bb1⟩
  have hb1 : Below w.heap.size w w1 := hb0.trans (bb1.mono hb0.size)
  have hv1 := hv.below hb1
  clear bb1 hb0 hv
  go_wp2_with fail
  refine (reqOk_any m p _ b n base fs _ hv1 hn hsz hp hb).mono ?_
  rintro e w2 ⟨b1, rfl, kb, bb2⟩
  have hb2 : Below w.heap.size w w2 := hb1.trans (bb2.mono hb1.size)
  have HK : Hid (b1 = true ↔ ReqP m p fs b) := kb
  clear hv1 hsz hb bb2 hb1 kb hp
  go_wp2_with fail
  go_ret
  exact ⟨b1, rfl, HK.out, hb2⟩

end Go.Proofs.Ythlmnmbhgkmbfaa

namespace Go.Proofs.Ythlmnmbhgkmbfaa
open Go.RowKit
open Go.Lib hiding intOf

/-- A variable's block may have been made, in this form; and a list of fields of one's own, which lies elsewhere. -/
structure MkSt (W1 : World) (ob : Obj) (a : Option Nat) (z : Option Value) (P : List (ByteArray × ByteArray)) (W : World) : Prop where
  low : Below W1.heap.size W1 W
  blk : ∀ o, a = some o → W.heap[o]? = some ob ∧ W1.heap.size ≤ o
  own : ∀ v, z = some v → W.ownsRow W1.heap.size 68 2 v P.length (flatF P)
  ne : ∀ o v j, a = some o → z = some v → v.ownBlock = some j → j ≠ o
theorem MkSt.below {W1 : World} {ob : Obj} {a : Option Nat} {z : Option Value} {P : List (ByteArray × ByteArray)} {W W' : World} (h : MkSt W1 ob a z P W) (hb : Below W.heap.size W W') : MkSt W1 ob a z P W' :=
  ⟨h.low.trans (hb.mono h.low.size), fun o ho => ⟨by rw [hb.block o (Array.getElem?_eq_some_iff.1 (h.blk o ho).1).1]; exact (h.blk o ho).1, (h.blk o ho).2⟩, fun v hv => owns_below (h.own v hv) hb (fun g hg => owns_lt (h.own v hv) hg), h.ne⟩
theorem MkSt.make {W1 : World} {ob : Obj} {z : Option Value} {P : List (ByteArray × ByteArray)} {W : World} (h : MkSt W1 ob none z P W) : MkSt W1 ob (some W.heap.size) z P (W.alloc ob) := by
  have h' := h.below ((Below.refl _ _).alloc (Nat.le_refl _) ob)
  exact ⟨h'.low, fun o ho => by cases ho; exact ⟨heap_alloc_new W _, h.low.size⟩, h'.own, fun o v j ho hv hj => by cases ho; have := owns_lt (h.own v hv) hj; omega⟩
theorem MkSt.put {W1 : World} {ob : Obj} {a : Option Nat} {P : List (ByteArray × ByteArray)} {W W' : World} {v : Value} (h : MkSt W1 ob a none P W) (hb : Below W.heap.size W W') (hv : W'.ownsRow W.heap.size 68 2 v P.length (flatF P)) : MkSt W1 ob a (some v) P W' := by
  have h' := h.below hb
  exact ⟨h'.low, h'.blk, fun u hu => by cases hu; exact owns_wide hv h.low.size, fun o u j ho hu hj => by
    cases hu
    have h1 := owns_ge hv hj
    have h2 := (Array.getElem?_eq_some_iff.1 (h.blk o ho).1).1
    omega⟩
theorem one_field (W : World) (nm vl : ByteArray) (base : Nat) (hb : base ≤ W.heap.size) : FieldsV (W.alloc (.cells #[.string nm, .string vl] 68)) base (.slice (some ⟨W.heap.size, 0, none⟩) 1 1) 1 [(nm, vl)] :=
  .inr ⟨W.heap.size, 1, rfl, by omega, rfl, hb, by simp, Nat.le_refl _, by unfold maxLen; omega, #[.string nm, .string vl], heap_alloc_new W _, rfl, fun i hi => by
    obtain rfl : i = 0 := by omega
    exact ⟨rfl, rfl⟩⟩
theorem copy_one {nm vl : ByteArray} (h1 : nm.size ≤ 281474976710656) (h2 : vl.size ≤ 281474976710656) : CopyF [(nm, vl)] := fun i hi => by
  obtain rfl : i = 0 := by simpa using hi
  exact ⟨h1, h2⟩
theorem copy_walk {fs : List (ByteArray × ByteArray)} {n : Nat} (h : CopyF fs) (hl : fs.length = n) : WalkF n fs := fun i hi => by
  have := h i (by omega)
  unfold maxLen
  omega

/-- While it is asked: the argument, the answer's memory, the request that is made. -/
structure AkSt (w : World) (r o : Nat) (m : Int) (p : ByteArray) (v : Value) (b : ByteArray) (z : Value) (W : World) : Prop where
  q0 : W.heap[r]? = some (.cells #[.int .i64 m, .string p, v, .string b] 26)
  q1 : W.heap[r + 1]? = some (.cells #[.int .i64 0, .string ⟨#[]⟩, .slice none 0 0, .string ⟨#[]⟩] 26)
  q2 : W.heap[o]? = some (.cells #[.int .i64 m, .string p, z, .string b] 26)
  ge : r + 1 + 1 ≤ o
  low : Below r w W
theorem AkSt.size {w : World} {r o : Nat} {m : Int} {p : ByteArray} {v : Value} {b : ByteArray} {z : Value} {W : World} (h : AkSt w r o m p v b z W) : o < W.heap.size := (Array.getElem?_eq_some_iff.1 h.q2).1
theorem AkSt.below {w : World} {r o : Nat} {m : Int} {p : ByteArray} {v : Value} {b : ByteArray} {z : Value} {W W' : World} (h : AkSt w r o m p v b z W) (hb : Below W.heap.size W W') : AkSt w r o m p v b z W' := by
  have hs := h.size
  have hg := h.ge
  exact ⟨by rw [hb.block _ (by omega)]; exact h.q0, by rw [hb.block _ (by omega)]; exact h.q1, by rw [hb.block _ (by omega)]; exact h.q2, hg, h.low.trans (hb.mono (by omega))⟩
theorem AkSt.set {w : World} {r o : Nat} {m : Int} {p : ByteArray} {v : Value} {b : ByteArray} {z : Value} {W : World} (h : AkSt w r o m p v b z W) (y : Value) : AkSt w r o m p v b y (W.setCell ⟨o, 2, none⟩ y) := by
  have hg := h.ge
  refine ⟨by rw [heap_setCell_other _ _ r _ (by show r ≠ o; omega)]; exact h.q0, by rw [heap_setCell_other _ _ (r + 1) _ (by show r + 1 ≠ o; omega)]; exact h.q1, ?_, hg, h.low.setCell (by show r ≤ o; omega) _⟩
  have := heap_set W o 2 _ _ _ y h.q2
  simpa using this

set_option maxHeartbeats 4000000 in
set_option maxRecDepth 100000 in
theorem implAsk_any (m : Int) (p : ByteArray) (v : Value) (b : ByteArray) (n base : Nat) (fs : List (ByteArray × ByteArray)) (u : Value) (k base2 : Nat) (gs : List (ByteArray × ByteArray)) (w : World) (hv : FieldsV w base v n fs) (hn : n ≤ 1999998) (hu : FieldsV w base2 u k gs) (hk : k ≤ 1999999) (hcp : CopyF fs) (hcg : CopyF gs) (hp : p.size ≤ 281474976710656) (hb : b.size ≤ 281474976710656) (ht : (getV gs tagName).size ≤ 281474976710656) :
    Calls Try.prog 11 #[.agg #[.int .i64 m, .string p, v, .string b], u] w fun e w' => ReqRow m p (askF m p fs b gs) b w e w' := by
  have hl := hv.len
  obtain ⟨oa, cap, rfl, _⟩ := hv.slice
  obtain ⟨r, hr⟩ : ∃ r, r = w.heap.size := ⟨_, rfl⟩
  have HR : Hid (w.heap.size = r) := hr.symm
  obtain ⟨W1, hW1⟩ : ∃ W, W = (w.alloc (.cells #[.int .i64 m, .string p, .slice oa n cap, .string b] 26)).alloc (.cells #[.int .i64 0, .string ⟨#[]⟩, .slice none 0 0, .string ⟨#[]⟩] 26) := ⟨_, rfl⟩
  have HW1 : Hid ((w.alloc (.cells #[.int .i64 m, .string p, .slice oa n cap, .string b] 26)).alloc (.cells #[.int .i64 0, .string ⟨#[]⟩, .slice none 0 0, .string ⟨#[]⟩] 26) = W1) := hW1.symm
  have HV : Hid (∀ W, Below r w W → FieldsV W base (.slice oa n cap) n fs) := fun W h => hv.below (by rw [hr] at h; exact h)
  have HU : Hid (∀ W, Below r w W → FieldsV W base2 u k gs) := fun W h => hu.below (by rw [hr] at h; exact h)
  have s2 : W1.heap.size = r + 1 + 1 := by rw [hW1, hr]; simp
  have HK1 : Hid (∀ W, Below W1.heap.size W1 W → W.heap[r]? = some (.cells #[.int .i64 m, .string p, .slice oa n cap, .string b] 26) ∧ W.heap[r + 1]? = some (.cells #[.int .i64 0, .string ⟨#[]⟩, .slice none 0 0, .string ⟨#[]⟩] 26) ∧ Below r w W) := by
    intro W hW
    have b1 : Below r w W1 := by rw [hW1, hr]; exact ((Below.refl _ w).alloc (Nat.le_refl _) _).alloc (by simp) _
    have s1 : (w.alloc (.cells #[.int .i64 m, .string p, .slice oa n cap, .string b] 26)).heap.size = r + 1 := by rw [hr]; simp
    have e0 := heap_alloc_new w (.cells #[.int .i64 m, .string p, .slice oa n cap, .string b] 26)
    have e1 := heap_alloc_new (w.alloc (.cells #[.int .i64 m, .string p, .slice oa n cap, .string b] 26)) (.cells #[.int .i64 0, .string ⟨#[]⟩, .slice none 0 0, .string ⟨#[]⟩] 26)
    rw [← hr] at e0
    rw [s1, ← hW1] at e1
    have c1 : Below (r + 1) (w.alloc (.cells #[.int .i64 m, .string p, .slice oa n cap, .string b] 26)) W1 := by rw [hW1, ← s1]; exact (Below.refl _ _).alloc (Nat.le_refl _) _
    rw [s2] at hW
    exact ⟨by rw [hW.block r (by omega), c1.block r (by omega)]; exact e0, by rw [hW.block (r + 1) (by omega)]; exact e1, b1.trans (hW.mono (by omega))⟩
  have HS2 : Hid (W1.heap.size = r + 1 + 1) := s2
  have HSS : Hid (∀ W, Below W1.heap.size W1 W → W.cell? ⟨r, 0, none⟩ = some (.int .i64 m) ∧ W.cell? ⟨r, 1, none⟩ = some (.string p) ∧ W.cell? ⟨r, 2, none⟩ = some (.slice oa n cap) ∧ W.cell? ⟨r, 3, none⟩ = some (.string b)) := fun W h => (four_facts (HK1.out W h).1).1
  have HCF : Hid (CopyF fs) := hcp
  have HCG : Hid (CopyF gs) := hcg
  have HPM : Hid (p.size ≤ 281474976710656) := hp
  have HBM : Hid (b.size ≤ 281474976710656) := hb
  have HTM : Hid ((getV gs tagName).size ≤ 281474976710656) := ht
  obtain ⟨s, hs⟩ : ∃ s, s = getV gs tagName := ⟨_, rfl⟩
  obtain ⟨th, hth⟩ : ∃ s, s = getB gs tagName := ⟨_, rfl⟩
  have HE2 : Hid (getV gs tagName = s) := hs.symm
  have HE4 : Hid (getB gs tagName = th) := hth.symm
  have HNO : Hid (th = false ∨ ¬ ReqP m p (putF fs inmName s) b → askF m p fs b gs = dropF fs inmName) := fun h => by
    unfold askF
    rw [HE2.out, HE4.out]
    refine if_neg (fun h2 => ?_)
    rcases h with h | h
    · rw [h] at h2; exact nomatch h2.1
    · exact h h2.2
  have HYES : Hid (th = true → ReqP m p (putF fs inmName s) b → askF m p fs b gs = putF fs inmName s) := fun h h3 => by
    unfold askF
    rw [HE2.out, HE4.out]
    exact if_pos ⟨h, h3⟩
  obtain ⟨P, hP⟩ : ∃ x, x = putF fs inmName s := ⟨_, rfl⟩
  have HPL : Hid (P.length ≤ 1999999) := by show _ ≤ _; rw [hP]; have := putF_le fs inmName s; omega
  have HPW : Hid (WalkF P.length P) := by
    show WalkF _ _
    rw [hP]
    exact put_walk fs inmName s (by rw [hl]; exact copy_walk hcp hl) (by decide) (by have := HTM.out; rw [HE2.out] at this; unfold maxLen; omega)
  have HPE : Hid (putAll fs [(inmName, s)] = P) := by show _ = _; rw [hP]; rfl
  rw [← hP] at HYES HNO
  have HSM : Hid (s.size ≤ 281474976710656) := by show _ ≤ _; rw [hs]; exact ht
  clear hW1 hv hu hs hth hcp hcg hp hb ht hP s2
  go_enter Try.func11, Try.ntmps11
  go_upto_region 1 with fail
  rw [HW1.out, ← hr]
  clear hr HW1
  go_cut [5] (fun s5 wx => ∃ o : Nat, s5 = .pointer (some ⟨o, 0, none⟩) ∧ Hid (Below W1.heap.size W1 wx ∧ wx.heap[o]? = some (.cells #[.int .i64 m, .string p, .slice none 0 0, .string b] 26) ∧ W1.heap.size ≤ o))
  case first =>
    refine wp_region_held_drew (S := fun W => W.cell? ⟨r, 0, none⟩ = some (.int .i64 m) ∧ W.cell? ⟨r, 1, none⟩ = some (.string p) ∧ W.cell? ⟨r, 2, none⟩ = some (.slice oa n cap) ∧ W.cell? ⟨r, 3, none⟩ = some (.string b)) (by kernel_rfl) (HSS.out _ (Below.refl _ _).drew) (fun hS0 => ?_)
    have HST : Hid (MkSt W1 (.cells #[.int .i64 0, .string ⟨#[]⟩, .slice none 0 0, .string ⟨#[]⟩] 26) none none P W1.drew) := ⟨(Below.refl _ _).drew, (fun o ho => by cases ho), (fun v hv => by cases hv), (fun o v j ho => by cases ho)⟩
    obtain ⟨X0, hX0⟩ : ∃ X, X = W1.drew := ⟨_, rfl⟩
    rw [← hX0] at hS0 HST ⊢
    clear hX0
    refine wpAnyH_takeD (i := 0) (v := .pointer (some ⟨r, 0, none⟩)) (some 8) rfl rfl (by kernel_rfl) (by kernel_rfl) (by kernel_rfl) (fun _ _ _ h => h) (Or.inl ⟨by rfl, by intro W _; go_simp⟩) hS0 ?_
    simp only [Act.put, List.setIfInBounds_toArray, List.set_cons_zero, List.set_cons_succ]
    refine wpAnyH_takeD (i := 1) (v := .int .i64 m) (some 9) rfl rfl (by kernel_rfl) (by kernel_rfl) (by kernel_rfl) (fun _ _ _ h => h) (Or.inl ⟨by rfl, by intro W hW; obtain ⟨s0, s1, s2, s3⟩ := hW; go_simp⟩) hS0 ?_
    simp only [Act.put, List.setIfInBounds_toArray, List.set_cons_zero, List.set_cons_succ]
    refine wpAnyH_takeD (i := 2) (v := .pointer (some ⟨r, 1, none⟩)) (some 10) rfl rfl (by kernel_rfl) (by kernel_rfl) (by kernel_rfl) (fun _ _ _ h => h) (Or.inl ⟨by rfl, by intro W _; go_simp⟩) hS0 ?_
    simp only [Act.put, List.setIfInBounds_toArray, List.set_cons_zero, List.set_cons_succ]
    refine wpAnyH_takeD (i := 3) (v := .string p) (some 11) rfl rfl (by kernel_rfl) (by kernel_rfl) (by kernel_rfl) (fun _ _ _ h => h) (Or.inl ⟨by rfl, by intro W hW; obtain ⟨s0, s1, s2, s3⟩ := hW; go_simp⟩) hS0 ?_
    simp only [Act.put, List.setIfInBounds_toArray, List.set_cons_zero, List.set_cons_succ]
    refine wpAnyH_takeD (i := 5) (v := .pointer (some ⟨r, 3, none⟩)) (some 13) rfl rfl (by kernel_rfl) (by kernel_rfl) (by kernel_rfl) (fun _ _ _ h => h) (Or.inl ⟨by rfl, by intro W _; go_simp⟩) hS0 ?_
    simp only [Act.put, List.setIfInBounds_toArray, List.set_cons_zero, List.set_cons_succ]
    refine wpAnyH_takeD (i := 6) (v := .string b) (some 14) rfl rfl (by kernel_rfl) (by kernel_rfl) (by kernel_rfl) (fun _ _ _ h => h) (Or.inl ⟨by rfl, by intro W hW; obtain ⟨s0, s1, s2, s3⟩ := hW; go_simp⟩) hS0 ?_
    simp only [Act.put, List.setIfInBounds_toArray, List.set_cons_zero, List.set_cons_succ]
    refine wpAnyH_ready (rs := [4, 9]) (by kernel_rfl) (by simp) ?_
    refine AllReadyH.cons rfl (fun K hK => ?_) (AllReadyH.cons rfl (fun K hK => ?_) AllReadyH.nil)
    · go_simp
      refine (clone_any p _ HPM.out).mono ?_
      rintro e X1 ⟨rfl, bx⟩
      have HSN : Hid (MkSt W1 (.cells #[.int .i64 0, .string ⟨#[]⟩, .slice none 0 0, .string ⟨#[]⟩] 26) none none P X1) := HST.out.below bx
      refine hK.out _ _ (HSS.out _ HSN.out.low) (fun _ => ?_)
      clear hK K HST bx
      have HST := HSN
      clear HSN
      refine wpAnyH_ready (rs := [7, 9]) (by kernel_rfl) (by simp) ?_
      refine AllReadyH.cons rfl (fun K hK => ?_) (AllReadyH.cons rfl (fun K hK => ?_) AllReadyH.nil)
      · go_simp
        refine (clone_any b _ HBM.out).mono ?_
        rintro e X2 ⟨rfl, bx⟩
        have HSN : Hid (MkSt W1 (.cells #[.int .i64 0, .string ⟨#[]⟩, .slice none 0 0, .string ⟨#[]⟩] 26) none none P X2) := HST.out.below bx
        refine hK.out _ _ (HSS.out _ HSN.out.low) (fun _ => ?_)
        clear hK K HST bx
        have HST := HSN
        clear HSN
        refine wpAnyH_takeD (i := 8) (v := .agg #[.int .i64 m, .string p, .slice none 0 0, .string b]) (some 16) rfl rfl (by kernel_rfl) (by kernel_rfl) (by kernel_rfl) (fun _ _ _ h => h) (Or.inl ⟨by rfl, by intro W _; go_simp⟩) (HSS.out _ HST.out.low) ?_
        simp only [Act.put, List.setIfInBounds_toArray, List.set_cons_zero, List.set_cons_succ]
        refine wpAnyH_ready (rs := [9]) (by kernel_rfl) (by simp) ?_
        refine AllReadyH.cons rfl (fun K hK => ?_) AllReadyH.nil
        have HSN : Hid (MkSt W1 (.cells #[.int .i64 0, .string ⟨#[]⟩, .slice none 0 0, .string ⟨#[]⟩] 26) (some X2.heap.size) none P (X2.alloc (.cells #[.int .i64 0, .string ⟨#[]⟩, .slice none 0 0, .string ⟨#[]⟩] 26))) := HST.out.make
        go_simp
        refine hK.out _ _ (HSS.out _ HSN.out.low) (fun _ => ?_)
        clear hK K HST
        obtain ⟨pa, ho⟩ : ∃ o, o = X2.heap.size := ⟨_, rfl⟩
        obtain ⟨X3, hX⟩ : ∃ X, X = X2.alloc (.cells #[.int .i64 0, .string ⟨#[]⟩, .slice none 0 0, .string ⟨#[]⟩] 26) := ⟨_, rfl⟩
        rw [← ho] at HSN ⊢
        rw [← hX] at HSN ⊢
        clear ho hX
        have HST := HSN
        clear HSN
        obtain ⟨Y, hY⟩ : ∃ Y, Y = fourSet X3 pa (.int .i64 m) (.string p) (.slice none 0 0) (.string b) := ⟨_, rfl⟩
        have HY : Hid (fourSet X3 pa (.int .i64 m) (.string p) (.slice none 0 0) (.string b) = Y) := hY.symm
        have HF : Hid (Below W1.heap.size W1 Y ∧ Y.heap[pa]? = some (.cells #[.int .i64 m, .string p, .slice none 0 0, .string b] 26) ∧ W1.heap.size ≤ pa) := by
          show _ ∧ _ ∧ _
          rw [hY]
          exact ⟨below_four HST.out.low (HST.out.blk pa rfl).2, four_set (HST.out.blk pa rfl).1 _ _ _ _, (HST.out.blk pa rfl).2⟩
        obtain ⟨⟨e0, e1, e2, e3⟩, g0, g1, g2, g3⟩ := four_facts (HST.out.blk pa rfl).1
        have hs9 := HSS.out _ HF.out.1
        unfold fourSet at HY
        clear hY HST
        refine wpAnyH_ready (rs := [10]) (by kernel_rfl) (by simp) ?_
        refine AllReadyH.cons rfl (fun K hK => ?_) AllReadyH.nil
        go_simp
        rw [HY.out]
        refine hK.out _ _ hs9 (fun _ => ?_)
        clear hK K HY e0 e1 e2 e3 g0 g1 g2 g3 hs9
        refine wpAnyH_done (by kernel_rfl) ?_ _
        go_wp2_with fail
        go_meet
        exact ⟨pa, rfl, HF⟩
      · have HSN : Hid (MkSt W1 (.cells #[.int .i64 0, .string ⟨#[]⟩, .slice none 0 0, .string ⟨#[]⟩] 26) (some X1.heap.size) none P (X1.alloc (.cells #[.int .i64 0, .string ⟨#[]⟩, .slice none 0 0, .string ⟨#[]⟩] 26))) := HST.out.make
        go_simp
        refine hK.out _ _ (HSS.out _ HSN.out.low) (fun _ => ?_)
        clear hK K HST
        obtain ⟨pa, ho⟩ : ∃ o, o = X1.heap.size := ⟨_, rfl⟩
        obtain ⟨X2, hX⟩ : ∃ X, X = X1.alloc (.cells #[.int .i64 0, .string ⟨#[]⟩, .slice none 0 0, .string ⟨#[]⟩] 26) := ⟨_, rfl⟩
        rw [← ho] at HSN ⊢
        rw [← hX] at HSN ⊢
        clear ho hX
        have HST := HSN
        clear HSN
        refine wpAnyH_ready (rs := [7]) (by kernel_rfl) (by simp) ?_
        refine AllReadyH.cons rfl (fun K hK => ?_) AllReadyH.nil
        go_simp
        refine (clone_any b _ HBM.out).mono ?_
        rintro e X3 ⟨rfl, bx⟩
        have HSN : Hid (MkSt W1 (.cells #[.int .i64 0, .string ⟨#[]⟩, .slice none 0 0, .string ⟨#[]⟩] 26) (some pa) none P X3) := HST.out.below bx
        refine hK.out _ _ (HSS.out _ HSN.out.low) (fun _ => ?_)
        clear hK K HST bx
        have HST := HSN
        clear HSN
        refine wpAnyH_takeD (i := 8) (v := .agg #[.int .i64 m, .string p, .slice none 0 0, .string b]) (some 16) rfl rfl (by kernel_rfl) (by kernel_rfl) (by kernel_rfl) (fun _ _ _ h => h) (Or.inl ⟨by rfl, by intro W _; go_simp⟩) (HSS.out _ HST.out.low) ?_
        simp only [Act.put, List.setIfInBounds_toArray, List.set_cons_zero, List.set_cons_succ]
        obtain ⟨Y, hY⟩ : ∃ Y, Y = fourSet X3 pa (.int .i64 m) (.string p) (.slice none 0 0) (.string b) := ⟨_, rfl⟩
        have HY : Hid (fourSet X3 pa (.int .i64 m) (.string p) (.slice none 0 0) (.string b) = Y) := hY.symm
        have HF : Hid (Below W1.heap.size W1 Y ∧ Y.heap[pa]? = some (.cells #[.int .i64 m, .string p, .slice none 0 0, .string b] 26) ∧ W1.heap.size ≤ pa) := by
          show _ ∧ _ ∧ _
          rw [hY]
          exact ⟨below_four HST.out.low (HST.out.blk pa rfl).2, four_set (HST.out.blk pa rfl).1 _ _ _ _, (HST.out.blk pa rfl).2⟩
        obtain ⟨⟨e0, e1, e2, e3⟩, g0, g1, g2, g3⟩ := four_facts (HST.out.blk pa rfl).1
        have hs9 := HSS.out _ HF.out.1
        unfold fourSet at HY
        clear hY HST
        refine wpAnyH_ready (rs := [10]) (by kernel_rfl) (by simp) ?_
        refine AllReadyH.cons rfl (fun K hK => ?_) AllReadyH.nil
        go_simp
        rw [HY.out]
        refine hK.out _ _ hs9 (fun _ => ?_)
        clear hK K HY e0 e1 e2 e3 g0 g1 g2 g3 hs9
        refine wpAnyH_done (by kernel_rfl) ?_ _
        go_wp2_with fail
        go_meet
        exact ⟨pa, rfl, HF⟩
    · have HSN : Hid (MkSt W1 (.cells #[.int .i64 0, .string ⟨#[]⟩, .slice none 0 0, .string ⟨#[]⟩] 26) (some X0.heap.size) none P (X0.alloc (.cells #[.int .i64 0, .string ⟨#[]⟩, .slice none 0 0, .string ⟨#[]⟩] 26))) := HST.out.make
      go_simp
      refine hK.out _ _ (HSS.out _ HSN.out.low) (fun _ => ?_)
      clear hK K HST
      obtain ⟨pa, ho⟩ : ∃ o, o = X0.heap.size := ⟨_, rfl⟩
      obtain ⟨X1, hX⟩ : ∃ X, X = X0.alloc (.cells #[.int .i64 0, .string ⟨#[]⟩, .slice none 0 0, .string ⟨#[]⟩] 26) := ⟨_, rfl⟩
      rw [← ho] at HSN ⊢
      rw [← hX] at HSN ⊢
      clear ho hX
      have HST := HSN
      clear HSN
      refine wpAnyH_ready (rs := [4]) (by kernel_rfl) (by simp) ?_
      refine AllReadyH.cons rfl (fun K hK => ?_) AllReadyH.nil
      go_simp
      refine (clone_any p _ HPM.out).mono ?_
      rintro e X2 ⟨rfl, bx⟩
      have HSN : Hid (MkSt W1 (.cells #[.int .i64 0, .string ⟨#[]⟩, .slice none 0 0, .string ⟨#[]⟩] 26) (some pa) none P X2) := HST.out.below bx
      refine hK.out _ _ (HSS.out _ HSN.out.low) (fun _ => ?_)
      clear hK K HST bx
      have HST := HSN
      clear HSN
      refine wpAnyH_ready (rs := [7]) (by kernel_rfl) (by simp) ?_
      refine AllReadyH.cons rfl (fun K hK => ?_) AllReadyH.nil
      go_simp
      refine (clone_any b _ HBM.out).mono ?_
      rintro e X3 ⟨rfl, bx⟩
      have HSN : Hid (MkSt W1 (.cells #[.int .i64 0, .string ⟨#[]⟩, .slice none 0 0, .string ⟨#[]⟩] 26) (some pa) none P X3) := HST.out.below bx
      refine hK.out _ _ (HSS.out _ HSN.out.low) (fun _ => ?_)
      clear hK K HST bx
      have HST := HSN
      clear HSN
      refine wpAnyH_takeD (i := 8) (v := .agg #[.int .i64 m, .string p, .slice none 0 0, .string b]) (some 16) rfl rfl (by kernel_rfl) (by kernel_rfl) (by kernel_rfl) (fun _ _ _ h => h) (Or.inl ⟨by rfl, by intro W _; go_simp⟩) (HSS.out _ HST.out.low) ?_
      simp only [Act.put, List.setIfInBounds_toArray, List.set_cons_zero, List.set_cons_succ]
      obtain ⟨Y, hY⟩ : ∃ Y, Y = fourSet X3 pa (.int .i64 m) (.string p) (.slice none 0 0) (.string b) := ⟨_, rfl⟩
      have HY : Hid (fourSet X3 pa (.int .i64 m) (.string p) (.slice none 0 0) (.string b) = Y) := hY.symm
      have HF : Hid (Below W1.heap.size W1 Y ∧ Y.heap[pa]? = some (.cells #[.int .i64 m, .string p, .slice none 0 0, .string b] 26) ∧ W1.heap.size ≤ pa) := by
        show _ ∧ _ ∧ _
        rw [hY]
        exact ⟨below_four HST.out.low (HST.out.blk pa rfl).2, four_set (HST.out.blk pa rfl).1 _ _ _ _, (HST.out.blk pa rfl).2⟩
      obtain ⟨⟨e0, e1, e2, e3⟩, g0, g1, g2, g3⟩ := four_facts (HST.out.blk pa rfl).1
      have hs9 := HSS.out _ HF.out.1
      unfold fourSet at HY
      clear hY HST
      refine wpAnyH_ready (rs := [10]) (by kernel_rfl) (by simp) ?_
      refine AllReadyH.cons rfl (fun K hK => ?_) AllReadyH.nil
      go_simp
      rw [HY.out]
      refine hK.out _ _ hs9 (fun _ => ?_)
      clear hK K HY e0 e1 e2 e3 g0 g1 g2 g3 hs9
      refine wpAnyH_done (by kernel_rfl) ?_ _
      go_wp2_with fail
      go_meet
      exact ⟨pa, rfl, HF⟩
  case rest =>
  obtain ⟨o, hs5, HF⟩ := hcut
  rw [hs5]
  obtain ⟨w2, hw2⟩ : ∃ W, W = wc := ⟨_, rfl⟩
  rw [← hw2] at HF ⊢
  clear hs5 hw2
  have HST : Hid (AkSt w r o m p (.slice oa n cap) b (.slice none 0 0) w2) := by
    obtain ⟨a0, a1, a2⟩ := HK1.out _ HF.out.1
    exact ⟨a0, a1, HF.out.2.1, by have := HF.out.2.2; have := HS2.out; omega, a2⟩
  clear HF HSS HK1 HS2
  go_wp2_with fail
  refine (implGet_any u k base2 gs tagName _ (HU.out _ HST.out.low) (by omega) HCG.out).mono ?_
  rintro e w3 ⟨rfl, b3⟩
  rw [HE2.out, HE4.out]
  have HST3 : Hid (AkSt w r o m p (.slice oa n cap) b (.slice none 0 0) w3) := HST.out.below b3
  clear HST b3 HU HE2 HE4
  obtain ⟨⟨_, _, q2, _⟩, _⟩ := four_facts HST3.out.q0
  have HVP : Hid (FieldsV (w3.alloc (.cells #[.string inmName, .string s] 68)) base (.slice oa n cap) n fs) := HV.out _ (HST3.out.low.alloc (by have := HST3.out.size; have := HST3.out.ge; omega) _)
  have HV1 : Hid (FieldsV (w3.alloc (.cells #[.string inmName, .string s] 68)) 0 (.slice (some ⟨w3.heap.size, 0, none⟩) 1 1) 1 [(inmName, s)]) := one_field w3 inmName s 0 (Nat.zero_le _)
  have HC1 : Hid (CopyF [(inmName, s)]) := copy_one (by decide) HSM.out
  go_wp2_with fail
  refine (putTogether_any _ n base fs _ 1 0 [(inmName, s)] _ HVP.out HV1.out (by omega) HCF.out HC1.out).mono ?_
  rintro e w4 ⟨zv, rfl, ownz, b4⟩
  rw [HPE.out] at ownz
  obtain ⟨o4, c4, rfl⟩ := slice_of_owns ownz
  obtain ⟨ln, hln⟩ : ∃ x, x = P.length := ⟨_, rfl⟩
  have HLN : Hid (P.length = ln) := hln.symm
  rw [← hln] at ownz HPL HPW ⊢
  have HST4 : Hid (AkSt w r o m p (.slice oa n cap) b (.slice none 0 0) w4) := (HST3.out.below ((Below.refl _ _).alloc (Nat.le_refl _) _)).below b4
  have HSZ3 : Hid (o < (w3.alloc (.cells #[.string inmName, .string s] 68)).heap.size) := by show _ < _; have := HST3.out.size; simp; omega
  obtain ⟨⟨_, _, f2, _⟩, _, _, y2, _⟩ := four_facts HST4.out.q2
  have HST5 : Hid (AkSt w r o m p (.slice oa n cap) b (.slice o4 ln c4) (w4.setCell ⟨o, 2, none⟩ (.slice o4 ln c4))) := HST4.out.set _
  have HOW5 : Hid ((w4.setCell ⟨o, 2, none⟩ (.slice o4 ln c4)).ownsRow (r + 1 + 1) 68 2 (.slice o4 ln c4) ln (flatF P)) := by
    have h3 := HST4.out.ge
    have h4 := HSZ3.out
    refine owns_same (owns_wide ownz (by omega)) (fun j hj => ?_)
    have h1 := owns_ge ownz hj
    exact heap_setCell_other _ _ j _ (by show j ≠ o; omega)
  clear hln ownz b4 q2 HST3 HST4 HVP HV1 HSZ3
  go_upto_region 4 with fail
  obtain ⟨w5, hw5⟩ : ∃ W, W = w4.setCell ⟨o, 2, none⟩ (.slice o4 ln c4) := ⟨_, rfl⟩
  rw [← hw5] at HST5 HOW5 ⊢
  clear hw5 f2 y2
  cases th with
  | false =>
    have HFE : Hid (askF m p fs b gs = dropF fs inmName) := HNO.out (.inl rfl)
    clear HNO HYES HOW5
    have hvd := HV.out _ HST5.out.low
    obtain ⟨⟨_, _, q2, _⟩, _⟩ := four_facts HST5.out.q0
    go_wp2_with fail
    refine (implDrop_any _ n base fs inmName _ hvd (by omega) HCF.out).mono ?_
    rintro e w8 ⟨zv, rfl, ownd, b8⟩
    obtain ⟨o8, c8, rfl⟩ := slice_of_owns ownd
    obtain ⟨ld, hld⟩ : ∃ x, x = (dropF fs inmName).length := ⟨_, rfl⟩
    have HLD : Hid ((dropF fs inmName).length = ld) := hld.symm
    rw [← hld] at ownd ⊢
    have HST8 : Hid (AkSt w r o m p (.slice oa n cap) b (.slice o4 ln c4) w8) := HST5.out.below b8
    obtain ⟨⟨_, _, f2, _⟩, _, _, y2, _⟩ := four_facts HST8.out.q2
    have HST9 : Hid (AkSt w r o m p (.slice oa n cap) b (.slice o8 ld c8) (w8.setCell ⟨o, 2, none⟩ (.slice o8 ld c8))) := HST8.out.set _
    have HOW9 : Hid ((w8.setCell ⟨o, 2, none⟩ (.slice o8 ld c8)).ownsRow (r + 1 + 1) 68 2 (.slice o8 ld c8) (dropF fs inmName).length (flatF (dropF fs inmName))) := by
      show World.ownsRow _ _ _ _ _ _ _
      rw [HLD.out]
      have h2 := HST5.out.size
      have h3 := HST5.out.ge
      refine owns_same (owns_wide ownd (by omega)) (fun j hj => ?_)
      have h1 := owns_ge ownd hj
      exact heap_setCell_other _ _ j _ (by show j ≠ o; omega)
    clear hld ownd b8 hvd q2 HST8
    obtain ⟨⟨e0, e1, e2, e3⟩, g0, g1, g2, g3⟩ := four_facts HST9.out.q1
    obtain ⟨⟨d0, d1, d2, d3⟩, _⟩ := four_facts HST9.out.q2
    have hset := four_set HST9.out.q1 (.int .i64 m) (.string p) (.slice o8 ld c8) (.string b)
    obtain ⟨⟨k0, k1, k2, k3⟩, _⟩ := four_facts hset
    have HFB : Hid (Below r w (fourSet (w8.setCell ⟨o, 2, none⟩ (.slice o8 ld c8)) (r + 1) (.int .i64 m) (.string p) (.slice o8 ld c8) (.string b))) := below_four HST9.out.low (by omega)
    have HFO : Hid ((fourSet (w8.setCell ⟨o, 2, none⟩ (.slice o8 ld c8)) (r + 1) (.int .i64 m) (.string p) (.slice o8 ld c8) (.string b)).ownsRow r 68 2 (.slice o8 ld c8) (askF m p fs b gs).length (flatF (askF m p fs b gs))) := by
      show World.ownsRow _ _ _ _ _ _ _
      rw [HFE.out]
      refine owns_same (owns_wide HOW9.out (by omega)) (fun j hj => ?_)
      have hj2 := owns_ge HOW9.out hj
      unfold fourSet
      rw [heap_setCell_other _ _ j _ (by show j ≠ r + 1; omega), heap_setCell_other _ _ j _ (by show j ≠ r + 1; omega), heap_setCell_other _ _ j _ (by show j ≠ r + 1; omega), heap_setCell_other _ _ j _ (by show j ≠ r + 1; omega)]
    unfold fourSet at k0 k1 k2 k3 HFB HFO
    clear hset HST9 HOW9
    go_wp2_with fail
    refine bodyPost_ret (v := .agg #[.int .i64 m, .string p, .slice o8 ld c8, .string b]) (by simp [results, Try.results11, go_sem, k0, k1, k2, k3]) rfl ?_
    exact ⟨_, rfl, by rw [HR.out]; exact HFO.out, by rw [HR.out]; exact HFB.out⟩
  | true =>
    obtain ⟨⟨d0, d1, d2, d3⟩, _⟩ := four_facts HST5.out.q2
    have hvq := FieldsV.of_owns HOW5.out
    go_wp2_with fail
    refine (implReqOk_any m p _ b ln _ P _ hvq (by have := HPL.out; omega) HPW.out (by have := HPM.out; unfold maxLen; omega) (by have := HBM.out; unfold maxLen; omega)).mono ?_
    rintro e w6 ⟨ok, rfl, hok, b6⟩
    have HST6 : Hid (AkSt w r o m p (.slice oa n cap) b (.slice o4 ln c4) w6) := HST5.out.below b6
    have HOW6 : Hid (w6.ownsRow (r + 1 + 1) 68 2 (.slice o4 ln c4) P.length (flatF P)) := by
      show World.ownsRow _ _ _ _ _ _ _
      rw [HLN.out]
      exact owns_same HOW5.out (fun j hj => b6.block j (owns_lt HOW5.out hj))
    clear d0 d1 d2 d3 hvq HST5 HOW5 b6
    cases ok with
    | true =>
      have HFE : Hid (askF m p fs b gs = P) := HYES.out (by simp) (hok.1 rfl)
      clear hok HYES HNO
      obtain ⟨⟨e0, e1, e2, e3⟩, g0, g1, g2, g3⟩ := four_facts HST6.out.q1
      obtain ⟨⟨d0, d1, d2, d3⟩, _⟩ := four_facts HST6.out.q2
      have hset := four_set HST6.out.q1 (.int .i64 m) (.string p) (.slice o4 ln c4) (.string b)
      obtain ⟨⟨k0, k1, k2, k3⟩, _⟩ := four_facts hset
      have HFB : Hid (Below r w (fourSet (w6) (r + 1) (.int .i64 m) (.string p) (.slice o4 ln c4) (.string b))) := below_four HST6.out.low (by omega)
      have HFO : Hid ((fourSet (w6) (r + 1) (.int .i64 m) (.string p) (.slice o4 ln c4) (.string b)).ownsRow r 68 2 (.slice o4 ln c4) (askF m p fs b gs).length (flatF (askF m p fs b gs))) := by
        show World.ownsRow _ _ _ _ _ _ _
        rw [HFE.out]
        refine owns_same (owns_wide HOW6.out (by omega)) (fun j hj => ?_)
        have hj2 := owns_ge HOW6.out hj
        unfold fourSet
        rw [heap_setCell_other _ _ j _ (by show j ≠ r + 1; omega), heap_setCell_other _ _ j _ (by show j ≠ r + 1; omega), heap_setCell_other _ _ j _ (by show j ≠ r + 1; omega), heap_setCell_other _ _ j _ (by show j ≠ r + 1; omega)]
      unfold fourSet at k0 k1 k2 k3 HFB HFO
      clear hset HST6 HOW6
      go_wp2_with fail
      refine bodyPost_ret (v := .agg #[.int .i64 m, .string p, .slice o4 ln c4, .string b]) (by simp [results, Try.results11, go_sem, k0, k1, k2, k3]) rfl ?_
      exact ⟨_, rfl, by rw [HR.out]; exact HFO.out, by rw [HR.out]; exact HFB.out⟩
    | false =>
      have HFE : Hid (askF m p fs b gs = dropF fs inmName) := HNO.out (.inr (fun h => nomatch hok.2 h))
      clear hok HYES HNO HOW6
      have hvd := HV.out _ HST6.out.low
      obtain ⟨⟨_, _, q2, _⟩, _⟩ := four_facts HST6.out.q0
      go_wp2_with fail
      refine (implDrop_any _ n base fs inmName _ hvd (by omega) HCF.out).mono ?_
      rintro e w8 ⟨zv, rfl, ownd, b8⟩
      obtain ⟨o8, c8, rfl⟩ := slice_of_owns ownd
      obtain ⟨ld, hld⟩ : ∃ x, x = (dropF fs inmName).length := ⟨_, rfl⟩
      have HLD : Hid ((dropF fs inmName).length = ld) := hld.symm
      rw [← hld] at ownd ⊢
      have HST8 : Hid (AkSt w r o m p (.slice oa n cap) b (.slice o4 ln c4) w8) := HST6.out.below b8
      obtain ⟨⟨_, _, f2, _⟩, _, _, y2, _⟩ := four_facts HST8.out.q2
      have HST9 : Hid (AkSt w r o m p (.slice oa n cap) b (.slice o8 ld c8) (w8.setCell ⟨o, 2, none⟩ (.slice o8 ld c8))) := HST8.out.set _
      have HOW9 : Hid ((w8.setCell ⟨o, 2, none⟩ (.slice o8 ld c8)).ownsRow (r + 1 + 1) 68 2 (.slice o8 ld c8) (dropF fs inmName).length (flatF (dropF fs inmName))) := by
        show World.ownsRow _ _ _ _ _ _ _
        rw [HLD.out]
        have h2 := HST6.out.size
        have h3 := HST6.out.ge
        refine owns_same (owns_wide ownd (by omega)) (fun j hj => ?_)
        have h1 := owns_ge ownd hj
        exact heap_setCell_other _ _ j _ (by show j ≠ o; omega)
      clear hld ownd b8 hvd q2 HST8
      obtain ⟨⟨e0, e1, e2, e3⟩, g0, g1, g2, g3⟩ := four_facts HST9.out.q1
      obtain ⟨⟨d0, d1, d2, d3⟩, _⟩ := four_facts HST9.out.q2
      have hset := four_set HST9.out.q1 (.int .i64 m) (.string p) (.slice o8 ld c8) (.string b)
      obtain ⟨⟨k0, k1, k2, k3⟩, _⟩ := four_facts hset
      have HFB : Hid (Below r w (fourSet (w8.setCell ⟨o, 2, none⟩ (.slice o8 ld c8)) (r + 1) (.int .i64 m) (.string p) (.slice o8 ld c8) (.string b))) := below_four HST9.out.low (by omega)
      have HFO : Hid ((fourSet (w8.setCell ⟨o, 2, none⟩ (.slice o8 ld c8)) (r + 1) (.int .i64 m) (.string p) (.slice o8 ld c8) (.string b)).ownsRow r 68 2 (.slice o8 ld c8) (askF m p fs b gs).length (flatF (askF m p fs b gs))) := by
        show World.ownsRow _ _ _ _ _ _ _
        rw [HFE.out]
        refine owns_same (owns_wide HOW9.out (by omega)) (fun j hj => ?_)
        have hj2 := owns_ge HOW9.out hj
        unfold fourSet
        rw [heap_setCell_other _ _ j _ (by show j ≠ r + 1; omega), heap_setCell_other _ _ j _ (by show j ≠ r + 1; omega), heap_setCell_other _ _ j _ (by show j ≠ r + 1; omega), heap_setCell_other _ _ j _ (by show j ≠ r + 1; omega)]
      unfold fourSet at k0 k1 k2 k3 HFB HFO
      clear hset HST9 HOW9
      go_wp2_with fail
      refine bodyPost_ret (v := .agg #[.int .i64 m, .string p, .slice o8 ld c8, .string b]) (by simp [results, Try.results11, go_sem, k0, k1, k2, k3]) rfl ?_
      exact ⟨_, rfl, by rw [HR.out]; exact HFO.out, by rw [HR.out]; exact HFB.out⟩

end Go.Proofs.Ythlmnmbhgkmbfaa
