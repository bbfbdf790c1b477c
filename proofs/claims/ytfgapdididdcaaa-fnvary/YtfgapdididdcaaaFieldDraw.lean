/- The fields that chapter 2's laws draw: contracts over the translation. -/
import Derived.Test.YtfgapdididdcaaaFieldPut
import Derived.Test.YtfgapdididdcaaaDraw
import Derived.Test.YtfgapdididdcaaaNum
namespace Go.Proofs.Ytfgapdididdcaaa
open Go.RowKit
open Go.Lib hiding intOf

/-- A pick out of texts that the caller has just laid. -/
theorem pick_new (c B : Nat) (xs : List ByteArray) (m : Nat) (hm : ∀ j, j < xs.length → (textAt xs j).size ≤ m) (a : Option Addr) (len cap : Nat) (zs : List Int) (w : World) (hcur : CurAt w c a len cap) (hcode : CodeAt w B a len zs) (hB : B ≤ c) (hn : 1 ≤ xs.length) (hn2 : xs.length ≤ 256) :
    Calls Try.prog 31 #[.pointer (some ⟨c, 0, none⟩), .slice (some ⟨w.heap.size, 0, none⟩) xs.length xs.length] (w.alloc (.cells (xs.map Value.string).toArray 9)) fun e w' => TextDrawn m w c a len cap e w' := by
  have hc := hcur.lt
  refine (l1Pick_any c B w.heap.size xs.length (textAt xs) a len cap zs _ (hcur.below ((Below.refl _ _).alloc (Nat.le_refl _) _) hc) (hcode.grown (World.grownBy_alloc w _ _) hB) hB hn hn2 (listAt_alloc w xs) (by omega)).mono ?_
  rintro e w1 ⟨j, hj, rfl, hcu, hg⟩
  exact ⟨_, rfl, hm j hj, hcu, grownBy_trans (World.grownBy_alloc w _ _) hg⟩

/-- A call on the cursor answers a field of short texts, and turns the cursor alone of what was there. -/
def FieldDrawn (w : World) (c : Nat) (a : Option Addr) (len cap : Nat) (e : Ending) (w' : World) : Prop :=
  ∃ nm vl : ByteArray, e = .returned (.agg #[.string nm, .string vl]) ∧ nm.size ≤ 64 ∧ vl.size ≤ 64 ∧ CurAt w' c a len cap ∧ w.grownBy w' (some c)

/-- The two cells of a field's memory, written. -/
def twoSet (w : World) (r : Nat) (nm vl : ByteArray) : World := (w.setCell ⟨r, 0, none⟩ (.string nm)).setCell ⟨r, 1, none⟩ (.string vl)
theorem twoSet_heap {w : World} {r : Nat} (nm vl : ByteArray) (h : w.heap[r]? = some (.cells #[.string ⟨#[]⟩, .string ⟨#[]⟩] 64)) : (twoSet w r nm vl).heap[r]? = some (.cells #[.string nm, .string vl] 64) := by
  have := heap_set _ r 1 _ _ _ (.string vl) (heap_set w r 0 _ _ _ (.string nm) h)
  simpa [twoSet] using this
theorem twoSet_grown (w : World) (r : Nat) (nm vl : ByteArray) : w.grownBy (twoSet w r nm vl) (some r) :=
  ⟨rfl, rfl, rfl, by simp [twoSet], fun k _ hk => by
    have hne : k ≠ r := fun e => hk (by rw [e])
    unfold twoSet
    rw [heap_setCell_other _ _ k _ (fun e => hne e), heap_setCell_other _ _ k _ (fun e => hne e)]⟩
theorem FieldDrawn.of {w w2 : World} {c r : Nat} {a : Option Addr} {len cap : Nat} {nm vl : ByteArray} (h1 : nm.size ≤ 64) (h2 : vl.size ≤ 64) (hcu : CurAt w2 c a len cap) (hg : w.grownBy w2 (some c)) (hrc : r ≠ c) (hrw : w.heap.size ≤ r) : FieldDrawn w c a len cap (.returned (.agg #[.string nm, .string vl])) (twoSet w2 r nm vl) :=
  ⟨nm, vl, rfl, h1, h2, hcu.grown (twoSet_grown w2 r nm vl) (fun e => hrc (Option.some.inj e)), grown_later hg (twoSet_grown w2 r nm vl) (fun g e => by cases e; exact hrw)⟩

set_option maxHeartbeats 2000000 in
theorem l2DrawField_any (c B : Nat) (a : Option Addr) (len cap : Nat) (zs : List Int) (w : World) (hcur : CurAt w c a len cap) (hcode : CodeAt w B a len zs) (hB : B ≤ c) :
    Calls Try.prog 49 #[.pointer (some ⟨c, 0, none⟩)] w fun e w' => FieldDrawn w c a len cap e w' := by
  go_enter Try.func49, Try.ntmps49
  go_wp2_with fail
  have hcw := hcur.lt
  have hg0 : w.grownBy (w.alloc (.cells #[.string ⟨#[]⟩, .string ⟨#[]⟩] 64)) (some c) := World.grownBy_alloc w _ _
  refine (l1Below_any c B 9 a len cap zs _ (hcur.below ((Below.refl _ _).alloc (Nat.le_refl _) _) hcw) (hcode.grown hg0 hB) hB (by omega) (by omega)).mono ?_
  rintro e w1 ⟨x, rfl, hx0, hx1, hcu1, hg1⟩
  obtain ⟨r, hr⟩ : ∃ r, r = w.heap.size := ⟨_, rfl⟩
  have hs1 : r < w1.heap.size := by have := hg1.size; simp at this; omega
  have hco1 := (hcode.grown hg0 hB).grown hg1 hB
  have hre1 : w1.heap[r]? = some (.cells #[.string ⟨#[]⟩, .string ⟨#[]⟩] 64) := by rw [hr, hg1.block _ (by simp) (fun e => by cases e; omega)]; exact heap_alloc_new w _
  have hgw1 := grownBy_trans hg0 hg1
  have hrc : r ≠ c := by omega
  have hrw : w.heap.size ≤ r := by omega
  rw [← hr]
  clear hcode hcur hg0 hg1 hr
  obtain rfl | rfl | rfl | rfl | rfl | rfl | rfl | rfl | rfl : x = 0 ∨ x = 1 ∨ x = 2 ∨ x = 3 ∨ x = 4 ∨ x = 5 ∨ x = 6 ∨ x = 7 ∨ x = 8 := by omega
  all_goals clear hx0 hx1
  · go_wp2_with fail
    refine (pick_new c B [⟨#[109, 97, 120, 45, 97, 103, 101, 61, 53]⟩, ⟨#[109, 97, 120, 45, 97, 103, 101, 61, 50, 48]⟩, ⟨#[110, 111, 45, 115, 116, 111, 114, 101]⟩, ⟨#[110, 111, 45, 99, 97, 99, 104, 101]⟩, ⟨#[112, 114, 105, 118, 97, 116, 101]⟩, ⟨#[109, 97, 120, 45, 97, 103, 101, 61, 57, 44, 32, 109, 117, 115, 116, 45, 114, 101, 118, 97, 108, 105, 100, 97, 116, 101]⟩, ⟨#[109, 97, 120, 45, 97, 103, 101, 61, 120]⟩, ⟨#[77, 65, 88, 45, 65, 71, 69, 61, 51]⟩] 64 (by decide) a len cap zs w1 hcu1 hco1 hB (by decide) (by decide)).mono ?_
    rintro e w2 ⟨t, rfl, ht, hcu2, hg2⟩
    have hgw2 := grownBy_trans hgw1 hg2
    have hre2 : w2.heap[r]? = some (.cells #[.string ⟨#[]⟩, .string ⟨#[]⟩] 64) := by rw [hg2.block _ hs1 (fun e => by cases e; omega)]; exact hre1
    have hc0 : w2.cell? ⟨r, 0, none⟩ = some (.string ⟨#[]⟩) := by simp [World.cell?, hre2]
    have hc1 : w2.cell? ⟨r, 1, none⟩ = some (.string ⟨#[]⟩) := by simp [World.cell?, hre2]
    have hf0 : w2.frozen? ⟨r, 0, none⟩ = false := by simp [World.frozen?, hre2]
    have hf1 : w2.frozen? ⟨r, 1, none⟩ = false := by simp [World.frozen?, hre2]
    clear hcu1 hco1 hre1 hgw1 hg2
    have hre3 := twoSet_heap ⟨#[99, 97, 99, 104, 101, 45, 99, 111, 110, 116, 114, 111, 108]⟩ t hre2
    have k0 : (twoSet w2 r ⟨#[99, 97, 99, 104, 101, 45, 99, 111, 110, 116, 114, 111, 108]⟩ t).cell? ⟨r, 0, none⟩ = some (.string ⟨#[99, 97, 99, 104, 101, 45, 99, 111, 110, 116, 114, 111, 108]⟩) := by simp [World.cell?, hre3]
    have k1 : (twoSet w2 r ⟨#[99, 97, 99, 104, 101, 45, 99, 111, 110, 116, 114, 111, 108]⟩ t).cell? ⟨r, 1, none⟩ = some (.string t) := by simp [World.cell?, hre3]
    unfold twoSet at k0 k1
    clear hre3
    go_wp2
    exact bodyPost_ret (v := .agg #[.string ⟨#[99, 97, 99, 104, 101, 45, 99, 111, 110, 116, 114, 111, 108]⟩, .string t]) (by simp [results, Try.results49, go_sem, k0, k1]) rfl (FieldDrawn.of (by decide) ht hcu2 hgw2 hrc hrw)
  · go_wp2_with fail
    refine (pick_new c B [⟨#[97]⟩, ⟨#[98]⟩] 64 (by decide) a len cap zs w1 hcu1 hco1 hB (by decide) (by decide)).mono ?_
    rintro e w2 ⟨t, rfl, ht, hcu2, hg2⟩
    have hgw2 := grownBy_trans hgw1 hg2
    have hre2 : w2.heap[r]? = some (.cells #[.string ⟨#[]⟩, .string ⟨#[]⟩] 64) := by rw [hg2.block _ hs1 (fun e => by cases e; omega)]; exact hre1
    have hc0 : w2.cell? ⟨r, 0, none⟩ = some (.string ⟨#[]⟩) := by simp [World.cell?, hre2]
    have hc1 : w2.cell? ⟨r, 1, none⟩ = some (.string ⟨#[]⟩) := by simp [World.cell?, hre2]
    have hf0 : w2.frozen? ⟨r, 0, none⟩ = false := by simp [World.frozen?, hre2]
    have hf1 : w2.frozen? ⟨r, 1, none⟩ = false := by simp [World.frozen?, hre2]
    clear hcu1 hco1 hre1 hgw1 hg2
    have hre3 := twoSet_heap ⟨#[101, 116, 97, 103]⟩ t hre2
    have k0 : (twoSet w2 r ⟨#[101, 116, 97, 103]⟩ t).cell? ⟨r, 0, none⟩ = some (.string ⟨#[101, 116, 97, 103]⟩) := by simp [World.cell?, hre3]
    have k1 : (twoSet w2 r ⟨#[101, 116, 97, 103]⟩ t).cell? ⟨r, 1, none⟩ = some (.string t) := by simp [World.cell?, hre3]
    unfold twoSet at k0 k1
    clear hre3
    go_wp2
    exact bodyPost_ret (v := .agg #[.string ⟨#[101, 116, 97, 103]⟩, .string t]) (by simp [results, Try.results49, go_sem, k0, k1]) rfl (FieldDrawn.of (by decide) ht hcu2 hgw2 hrc hrw)
  · go_wp2_with fail
    refine (pick_new c B [⟨#[108, 97, 110, 103]⟩, ⟨#[108, 97, 110, 103, 44, 32, 107, 105, 110, 100]⟩, ⟨#[42]⟩] 64 (by decide) a len cap zs w1 hcu1 hco1 hB (by decide) (by decide)).mono ?_
    rintro e w2 ⟨t, rfl, ht, hcu2, hg2⟩
    have hgw2 := grownBy_trans hgw1 hg2
    have hre2 : w2.heap[r]? = some (.cells #[.string ⟨#[]⟩, .string ⟨#[]⟩] 64) := by rw [hg2.block _ hs1 (fun e => by cases e; omega)]; exact hre1
    have hc0 : w2.cell? ⟨r, 0, none⟩ = some (.string ⟨#[]⟩) := by simp [World.cell?, hre2]
    have hc1 : w2.cell? ⟨r, 1, none⟩ = some (.string ⟨#[]⟩) := by simp [World.cell?, hre2]
    have hf0 : w2.frozen? ⟨r, 0, none⟩ = false := by simp [World.frozen?, hre2]
    have hf1 : w2.frozen? ⟨r, 1, none⟩ = false := by simp [World.frozen?, hre2]
    clear hcu1 hco1 hre1 hgw1 hg2
    have hre3 := twoSet_heap ⟨#[118, 97, 114, 121]⟩ t hre2
    have k0 : (twoSet w2 r ⟨#[118, 97, 114, 121]⟩ t).cell? ⟨r, 0, none⟩ = some (.string ⟨#[118, 97, 114, 121]⟩) := by simp [World.cell?, hre3]
    have k1 : (twoSet w2 r ⟨#[118, 97, 114, 121]⟩ t).cell? ⟨r, 1, none⟩ = some (.string t) := by simp [World.cell?, hre3]
    unfold twoSet at k0 k1
    clear hre3
    go_wp2
    exact bodyPost_ret (v := .agg #[.string ⟨#[118, 97, 114, 121]⟩, .string t]) (by simp [results, Try.results49, go_sem, k0, k1]) rfl (FieldDrawn.of (by decide) ht hcu2 hgw2 hrc hrw)
  · go_wp2_with fail
    refine (pick_new c B [⟨#[100, 101]⟩, ⟨#[101, 110]⟩] 64 (by decide) a len cap zs w1 hcu1 hco1 hB (by decide) (by decide)).mono ?_
    rintro e w2 ⟨t, rfl, ht, hcu2, hg2⟩
    have hgw2 := grownBy_trans hgw1 hg2
    have hre2 : w2.heap[r]? = some (.cells #[.string ⟨#[]⟩, .string ⟨#[]⟩] 64) := by rw [hg2.block _ hs1 (fun e => by cases e; omega)]; exact hre1
    have hc0 : w2.cell? ⟨r, 0, none⟩ = some (.string ⟨#[]⟩) := by simp [World.cell?, hre2]
    have hc1 : w2.cell? ⟨r, 1, none⟩ = some (.string ⟨#[]⟩) := by simp [World.cell?, hre2]
    have hf0 : w2.frozen? ⟨r, 0, none⟩ = false := by simp [World.frozen?, hre2]
    have hf1 : w2.frozen? ⟨r, 1, none⟩ = false := by simp [World.frozen?, hre2]
    clear hcu1 hco1 hre1 hgw1 hg2
    have hre3 := twoSet_heap ⟨#[108, 97, 110, 103]⟩ t hre2
    have k0 : (twoSet w2 r ⟨#[108, 97, 110, 103]⟩ t).cell? ⟨r, 0, none⟩ = some (.string ⟨#[108, 97, 110, 103]⟩) := by simp [World.cell?, hre3]
    have k1 : (twoSet w2 r ⟨#[108, 97, 110, 103]⟩ t).cell? ⟨r, 1, none⟩ = some (.string t) := by simp [World.cell?, hre3]
    unfold twoSet at k0 k1
    clear hre3
    go_wp2
    exact bodyPost_ret (v := .agg #[.string ⟨#[108, 97, 110, 103]⟩, .string t]) (by simp [results, Try.results49, go_sem, k0, k1]) rfl (FieldDrawn.of (by decide) ht hcu2 hgw2 hrc hrw)
  · go_wp2_with fail
    refine (pick_new c B [⟨#[120]⟩, ⟨#[121]⟩] 64 (by decide) a len cap zs w1 hcu1 hco1 hB (by decide) (by decide)).mono ?_
    rintro e w2 ⟨t, rfl, ht, hcu2, hg2⟩
    have hgw2 := grownBy_trans hgw1 hg2
    have hre2 : w2.heap[r]? = some (.cells #[.string ⟨#[]⟩, .string ⟨#[]⟩] 64) := by rw [hg2.block _ hs1 (fun e => by cases e; omega)]; exact hre1
    have hc0 : w2.cell? ⟨r, 0, none⟩ = some (.string ⟨#[]⟩) := by simp [World.cell?, hre2]
    have hc1 : w2.cell? ⟨r, 1, none⟩ = some (.string ⟨#[]⟩) := by simp [World.cell?, hre2]
    have hf0 : w2.frozen? ⟨r, 0, none⟩ = false := by simp [World.frozen?, hre2]
    have hf1 : w2.frozen? ⟨r, 1, none⟩ = false := by simp [World.frozen?, hre2]
    clear hcu1 hco1 hre1 hgw1 hg2
    have hre3 := twoSet_heap ⟨#[107, 105, 110, 100]⟩ t hre2
    have k0 : (twoSet w2 r ⟨#[107, 105, 110, 100]⟩ t).cell? ⟨r, 0, none⟩ = some (.string ⟨#[107, 105, 110, 100]⟩) := by simp [World.cell?, hre3]
    have k1 : (twoSet w2 r ⟨#[107, 105, 110, 100]⟩ t).cell? ⟨r, 1, none⟩ = some (.string t) := by simp [World.cell?, hre3]
    unfold twoSet at k0 k1
    clear hre3
    go_wp2
    exact bodyPost_ret (v := .agg #[.string ⟨#[107, 105, 110, 100]⟩, .string t]) (by simp [results, Try.results49, go_sem, k0, k1]) rfl (FieldDrawn.of (by decide) ht hcu2 hgw2 hrc hrw)
  · go_wp2_with fail
    refine (pick_new c B [⟨#[48]⟩, ⟨#[51]⟩, ⟨#[57, 48]⟩, ⟨#[120]⟩] 64 (by decide) a len cap zs w1 hcu1 hco1 hB (by decide) (by decide)).mono ?_
    rintro e w2 ⟨t, rfl, ht, hcu2, hg2⟩
    have hgw2 := grownBy_trans hgw1 hg2
    have hre2 : w2.heap[r]? = some (.cells #[.string ⟨#[]⟩, .string ⟨#[]⟩] 64) := by rw [hg2.block _ hs1 (fun e => by cases e; omega)]; exact hre1
    have hc0 : w2.cell? ⟨r, 0, none⟩ = some (.string ⟨#[]⟩) := by simp [World.cell?, hre2]
    have hc1 : w2.cell? ⟨r, 1, none⟩ = some (.string ⟨#[]⟩) := by simp [World.cell?, hre2]
    have hf0 : w2.frozen? ⟨r, 0, none⟩ = false := by simp [World.frozen?, hre2]
    have hf1 : w2.frozen? ⟨r, 1, none⟩ = false := by simp [World.frozen?, hre2]
    clear hcu1 hco1 hre1 hgw1 hg2
    have hre3 := twoSet_heap ⟨#[97, 103, 101]⟩ t hre2
    have k0 : (twoSet w2 r ⟨#[97, 103, 101]⟩ t).cell? ⟨r, 0, none⟩ = some (.string ⟨#[97, 103, 101]⟩) := by simp [World.cell?, hre3]
    have k1 : (twoSet w2 r ⟨#[97, 103, 101]⟩ t).cell? ⟨r, 1, none⟩ = some (.string t) := by simp [World.cell?, hre3]
    unfold twoSet at k0 k1
    clear hre3
    go_wp2
    exact bodyPost_ret (v := .agg #[.string ⟨#[97, 103, 101]⟩, .string t]) (by simp [results, Try.results49, go_sem, k0, k1]) rfl (FieldDrawn.of (by decide) ht hcu2 hgw2 hrc hrw)
  · go_wp2_with fail
    refine (pick_new c B [⟨#[97]⟩, ⟨#[98]⟩] 64 (by decide) a len cap zs w1 hcu1 hco1 hB (by decide) (by decide)).mono ?_
    rintro e w2 ⟨t, rfl, ht, hcu2, hg2⟩
    have hgw2 := grownBy_trans hgw1 hg2
    have hre2 : w2.heap[r]? = some (.cells #[.string ⟨#[]⟩, .string ⟨#[]⟩] 64) := by rw [hg2.block _ hs1 (fun e => by cases e; omega)]; exact hre1
    have hc0 : w2.cell? ⟨r, 0, none⟩ = some (.string ⟨#[]⟩) := by simp [World.cell?, hre2]
    have hc1 : w2.cell? ⟨r, 1, none⟩ = some (.string ⟨#[]⟩) := by simp [World.cell?, hre2]
    have hf0 : w2.frozen? ⟨r, 0, none⟩ = false := by simp [World.frozen?, hre2]
    have hf1 : w2.frozen? ⟨r, 1, none⟩ = false := by simp [World.frozen?, hre2]
    clear hcu1 hco1 hre1 hgw1 hg2
    have hre3 := twoSet_heap ⟨#[105, 102, 45, 110, 111, 110, 101, 45, 109, 97, 116, 99, 104]⟩ t hre2
    have k0 : (twoSet w2 r ⟨#[105, 102, 45, 110, 111, 110, 101, 45, 109, 97, 116, 99, 104]⟩ t).cell? ⟨r, 0, none⟩ = some (.string ⟨#[105, 102, 45, 110, 111, 110, 101, 45, 109, 97, 116, 99, 104]⟩) := by simp [World.cell?, hre3]
    have k1 : (twoSet w2 r ⟨#[105, 102, 45, 110, 111, 110, 101, 45, 109, 97, 116, 99, 104]⟩ t).cell? ⟨r, 1, none⟩ = some (.string t) := by simp [World.cell?, hre3]
    unfold twoSet at k0 k1
    clear hre3
    go_wp2
    exact bodyPost_ret (v := .agg #[.string ⟨#[105, 102, 45, 110, 111, 110, 101, 45, 109, 97, 116, 99, 104]⟩, .string t]) (by simp [results, Try.results49, go_sem, k0, k1]) rfl (FieldDrawn.of (by decide) ht hcu2 hgw2 hrc hrw)
  · go_wp2_with fail
    refine (pick_new c B [⟨#[120, 45, 97]⟩, ⟨#[120, 45, 98]⟩, ⟨#[100, 97, 116, 101]⟩] 64 (by decide) a len cap zs w1 hcu1 hco1 hB (by decide) (by decide)).mono ?_
    rintro e w2 ⟨t, rfl, ht, hcu2, hg2⟩
    have hco2 := hco1.grown hg2 hB
    have hgw2 := grownBy_trans hgw1 hg2
    have hs2 : r < w2.heap.size := by have := hg2.size; omega
    have hre2 : w2.heap[r]? = some (.cells #[.string ⟨#[]⟩, .string ⟨#[]⟩] 64) := by rw [hg2.block _ hs1 (fun e => by cases e; omega)]; exact hre1
    clear hcu1 hco1 hre1 hgw1 hg2
    go_wp2_with fail
    refine (pick_new c B [⟨#[49]⟩, ⟨#[116, 119, 111, 32, 119, 111, 114, 100, 115]⟩, ⟨#[113]⟩] 64 (by decide) a len cap zs w2 hcu2 hco2 hB (by decide) (by decide)).mono ?_
    rintro e w3 ⟨u, rfl, hu, hcu3, hg3⟩
    have hgw3 := grownBy_trans hgw2 hg3
    have hre3 : w3.heap[r]? = some (.cells #[.string ⟨#[]⟩, .string ⟨#[]⟩] 64) := by rw [hg3.block _ hs2 (fun e => by cases e; omega)]; exact hre2
    have hc0 : w3.cell? ⟨r, 0, none⟩ = some (.string ⟨#[]⟩) := by simp [World.cell?, hre3]
    have hc1 : w3.cell? ⟨r, 1, none⟩ = some (.string ⟨#[]⟩) := by simp [World.cell?, hre3]
    have hf0 : w3.frozen? ⟨r, 0, none⟩ = false := by simp [World.frozen?, hre3]
    have hf1 : w3.frozen? ⟨r, 1, none⟩ = false := by simp [World.frozen?, hre3]
    have hre4 := twoSet_heap t u hre3
    have k0 : (twoSet w3 r t u).cell? ⟨r, 0, none⟩ = some (.string t) := by simp [World.cell?, hre4]
    have k1 : (twoSet w3 r t u).cell? ⟨r, 1, none⟩ = some (.string u) := by simp [World.cell?, hre4]
    unfold twoSet at k0 k1
    clear hcu2 hco2 hre2 hgw2 hg3 hre4
    go_wp2
    exact bodyPost_ret (v := .agg #[.string t, .string u]) (by simp [results, Try.results49, go_sem, k0, k1]) rfl (FieldDrawn.of ht hu hcu3 hgw3 hrc hrw)
  · go_wp2_with fail
    refine (pick_new c B [⟨#[120, 45, 97]⟩, ⟨#[120, 45, 98]⟩, ⟨#[100, 97, 116, 101]⟩] 64 (by decide) a len cap zs w1 hcu1 hco1 hB (by decide) (by decide)).mono ?_
    rintro e w2 ⟨t, rfl, ht, hcu2, hg2⟩
    have hco2 := hco1.grown hg2 hB
    have hgw2 := grownBy_trans hgw1 hg2
    have hs2 : r < w2.heap.size := by have := hg2.size; omega
    have hre2 : w2.heap[r]? = some (.cells #[.string ⟨#[]⟩, .string ⟨#[]⟩] 64) := by rw [hg2.block _ hs1 (fun e => by cases e; omega)]; exact hre1
    clear hcu1 hco1 hre1 hgw1 hg2
    go_wp2_with fail
    refine (pick_new c B [⟨#[49]⟩, ⟨#[116, 119, 111, 32, 119, 111, 114, 100, 115]⟩, ⟨#[113]⟩] 64 (by decide) a len cap zs w2 hcu2 hco2 hB (by decide) (by decide)).mono ?_
    rintro e w3 ⟨u, rfl, hu, hcu3, hg3⟩
    have hgw3 := grownBy_trans hgw2 hg3
    have hre3 : w3.heap[r]? = some (.cells #[.string ⟨#[]⟩, .string ⟨#[]⟩] 64) := by rw [hg3.block _ hs2 (fun e => by cases e; omega)]; exact hre2
    have hc0 : w3.cell? ⟨r, 0, none⟩ = some (.string ⟨#[]⟩) := by simp [World.cell?, hre3]
    have hc1 : w3.cell? ⟨r, 1, none⟩ = some (.string ⟨#[]⟩) := by simp [World.cell?, hre3]
    have hf0 : w3.frozen? ⟨r, 0, none⟩ = false := by simp [World.frozen?, hre3]
    have hf1 : w3.frozen? ⟨r, 1, none⟩ = false := by simp [World.frozen?, hre3]
    have hre4 := twoSet_heap t u hre3
    have k0 : (twoSet w3 r t u).cell? ⟨r, 0, none⟩ = some (.string t) := by simp [World.cell?, hre4]
    have k1 : (twoSet w3 r t u).cell? ⟨r, 1, none⟩ = some (.string u) := by simp [World.cell?, hre4]
    unfold twoSet at k0 k1
    clear hcu2 hco2 hre2 hgw2 hg3 hre4
    go_wp2
    exact bodyPost_ret (v := .agg #[.string t, .string u]) (by simp [results, Try.results49, go_sem, k0, k1]) rfl (FieldDrawn.of ht hu hcu3 hgw3 hrc hrw)

end Go.Proofs.Ytfgapdididdcaaa
