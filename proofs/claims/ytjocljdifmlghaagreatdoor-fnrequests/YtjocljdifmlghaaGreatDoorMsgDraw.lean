/- What chapter 3's law draws: bodies, requests: contracts over the translation. -/
import Derived.Test.YtjocljdifmlghaaGreatDoorMsgReq
import Derived.Test.YtjocljdifmlghaaGreatDoorFieldDraw2
namespace Go.Proofs.YtjocljdifmlghaaGreatDoor
open Go.RowKit
open Go.Lib hiding intOf

def bodyL : List ByteArray := [⟨#[]⟩, ⟨#[104, 101, 108, 108, 111]⟩, ⟨#[13, 10, 13, 10]⟩, ⟨#[97, 0, 98]⟩, ⟨#[111, 110, 101, 32, 116, 119, 111]⟩]
set_option maxHeartbeats 1000000 in
set_option maxRecDepth 100000 in
theorem l3DrawBody_any (c B : Nat) (a : Option Addr) (len cap : Nat) (zs : List Int) (w : World) (hcur : CurAt w c a len cap) (hcode : CodeAt w B a len zs) (hB : B ≤ c) :
    Calls Tryz.prog 46 #[.pointer (some ⟨c, 0, none⟩)] w fun e w' => TextDrawn 14 w c a len cap e w' := by
  go_enter Tryz.func46, Tryz.ntmps46
  go_wp2_with fail
  refine (l1Once_any c B 2 a len cap zs _ hcur hcode hB (by omega) (by omega)).mono ?_
  rintro e w1 ⟨⟨b, rfl⟩, hcu1, hg1⟩
  have hco1 := hcode.grown hg1 hB
  clear hcur hcode
  cases b
  · go_wp2_with fail
    refine (l1DrawText_any c B a len cap zs _ hcu1 hco1 hB).mono ?_
    rintro e w2 ⟨t, rfl, ht, hcu2, hg2⟩
    have hg3 := grownBy_trans hg1 hg2
    clear hg1 hg2 hcu1 hco1
    go_wp2
    go_ret
    exact ⟨t, rfl, ht, hcu2, hg3⟩
  · go_wp2_with fail
    refine (pick_new c B bodyL 14 (by decide) a len cap zs w1 hcu1 hco1 hB (by decide) (by decide)).mono ?_
    rintro e w2 ⟨t, rfl, ht, hcu2, hg2⟩
    have hg3 := grownBy_trans hg1 hg2
    clear hg1 hg2 hcu1 hco1
    go_wp2
    go_ret
    exact ⟨t, rfl, ht, hcu2, hg3⟩

theorem ints_at (w : World) (xs : List Int) (j : Nat) (hj : j < xs.length) : (w.alloc (.cells (xs.map (Value.int .i64)).toArray 3)).cell? ⟨w.heap.size, j, none⟩ = some (.int .i64 (xs.getD j 0)) := by
  rw [World.cell?_alloc_new]
  simp [List.getD_eq_getElem?_getD, hj]
set_option maxHeartbeats 1000000 in
theorem pickInt_new (c B : Nat) (xs : List Int) (lo hi : Int) (hm : ∀ j, j < xs.length → lo ≤ xs.getD j 0 ∧ xs.getD j 0 ≤ hi) (a : Option Addr) (len cap : Nat) (zs : List Int) (w : World) (hcur : CurAt w c a len cap) (hcode : CodeAt w B a len zs) (hB : B ≤ c) (hn : 1 ≤ xs.length) (hn2 : xs.length ≤ 256) :
    Calls Tryz.prog 44 #[.pointer (some ⟨c, 0, none⟩), .slice (some ⟨w.heap.size, 0, none⟩) xs.length xs.length] (w.alloc (.cells (xs.map (Value.int .i64)).toArray 3)) fun e w' => ∃ n : Int, e = .returned (.int .i64 n) ∧ lo ≤ n ∧ n ≤ hi ∧ CurAt w' c a len cap ∧ w.grownBy w' (some c) := by
  have hc := hcur.lt
  have HL : Hid (∀ j, j < xs.length → (w.alloc (.cells (xs.map (Value.int .i64)).toArray 3)).cell? ⟨w.heap.size, j, none⟩ = some (.int .i64 (xs.getD j 0))) := ints_at w xs
  have HM : Hid (∀ j, j < xs.length → lo ≤ xs.getD j 0 ∧ xs.getD j 0 ≤ hi) := hm
  have hcu0 := hcur.below ((Below.refl _ w).alloc (Nat.le_refl _) (.cells (xs.map (Value.int .i64)).toArray 3)) hc
  have hg0 : w.grownBy (w.alloc (.cells (xs.map (Value.int .i64)).toArray 3)) (some c) := World.grownBy_alloc w _ _
  have hco0 := hcode.grown hg0 hB
  clear hm hcur hcode
  obtain ⟨w0, hw0⟩ : ∃ W, W = w.alloc (.cells (xs.map (Value.int .i64)).toArray 3) := ⟨_, rfl⟩
  rw [← hw0] at HL hcu0 hg0 hco0 ⊢
  obtain ⟨n, hnn⟩ : ∃ n, n = xs.length := ⟨_, rfl⟩
  rw [← hnn] at HL HM hn hn2 ⊢
  obtain ⟨g, hg⟩ : ∃ g, g = w.heap.size := ⟨_, rfl⟩
  have hgc : g ≠ c := by omega
  rw [← hg] at HL ⊢
  clear hw0 hnn hg
  go_enter Tryz.func44, Tryz.ntmps44
  go_wp2_with fail
  refine (l1Below_any c B n a len cap zs _ hcu0 hco0 hB (by omega) (by omega)).mono ?_
  rintro e w1 ⟨x, rfl, hx0, hx1, hcur1, hg1⟩
  obtain ⟨j, rfl⟩ := Int.eq_ofNat_of_zero_le hx0
  have hj : j < n := by omega
  have hcell : w1.cell? ⟨g, j, none⟩ = some (.int .i64 (xs.getD j 0)) := grown_cell hg1 (HL.out j hj) hgc
  have hjr := HM.out j hj
  have hg2 := grownBy_trans hg0 hg1
  clear hg0 hg1 hcu0 hco0
  go_wp2
  go_ret
  exact ⟨_, rfl, hjr.1, hjr.2, hcur1, hg2⟩

/-- A call on the cursor answers a request of short texts, in memory of its own, and turns the cursor alone of what was there. -/
def ReqDrawn (bmax : Nat) (w : World) (c : Nat) (a : Option Addr) (len cap : Nat) (e : Ending) (w' : World) : Prop :=
  ∃ (m : Int) (p : ByteArray) (v : Value) (fs : List (ByteArray × ByteArray)) (b : ByteArray), e = .returned (.agg #[.int .i64 m, .string p, v, .string b]) ∧ (-1000 ≤ m ∧ m ≤ 1000) ∧ p.size ≤ 64 ∧ w'.ownsRow w.heap.size 55 2 v fs.length (flatF fs) ∧ fs.length ≤ 40 ∧ ShortF fs ∧ b.size ≤ bmax ∧ CurAt w' c a len cap ∧ w.grownBy w' (some c)

theorem kind_list : (⟨#[107, 105, 110, 100]⟩ : ByteArray).toList = [107, 105, 110, 100] := by rw [ByteArray.toList_eq]
theorem cacheC_list : (⟨#[99, 97, 99, 104, 101, 45, 99, 111, 110, 116, 114, 111, 108]⟩ : ByteArray).toList = [99, 97, 99, 104, 101, 45, 99, 111, 110, 116, 114, 111, 108] := by rw [ByteArray.toList_eq]
theorem ifNone_list : (⟨#[105, 102, 45, 110, 111, 110, 101, 45, 109, 97, 116, 99, 104]⟩ : ByteArray).toList = [105, 102, 45, 110, 111, 110, 101, 45, 109, 97, 116, 99, 104] := by rw [ByteArray.toList_eq]
/-- A request that is being drawn: its memory, its fields, the cursor. -/
structure DReq (w : World) (c R r : Nat) (m : Int) (p : ByteArray) (fv : Value) (fs : List (ByteArray × ByteArray)) (b : ByteArray) (a : Option Addr) (len cap : Nat) (W : World) : Prop where
  hR : W.heap[R]? = some (.cells #[.int .i64 0, .string ⟨#[]⟩, .slice none 0 0, .string ⟨#[]⟩] 26)
  hr : W.heap[r]? = some (.cells #[.int .i64 m, .string p, fv, .string b] 26)
  own : W.ownsRow w.heap.size 55 2 fv fs.length (flatF fs)
  cur : CurAt W c a len cap
  grow : w.grownBy W (some c)
  apart : ∀ j, fv.ownBlock = some j → j ≠ R ∧ j ≠ r
theorem DReq.later {w : World} {c R r : Nat} {m : Int} {p : ByteArray} {fv : Value} {fs : List (ByteArray × ByteArray)} {b : ByteArray} {a : Option Addr} {len cap : Nat} {W W' : World} (h : DReq w c R r m p fv fs b a len cap W) (hcw : c < w.heap.size) (hRw : w.heap.size ≤ R) (hrw : w.heap.size ≤ r) (hcu : CurAt W' c a len cap) (hg : W.grownBy W' (some c)) : DReq w c R r m p fv fs b a len cap W' := by
  refine ⟨?_, ?_, ?_, hcu, grownBy_trans h.grow hg, h.apart⟩
  · rw [hg.block R ((Array.getElem?_eq_some_iff.1 h.hR).1) (fun e => by have := Option.some.inj e; omega)]; exact h.hR
  · rw [hg.block r ((Array.getElem?_eq_some_iff.1 h.hr).1) (fun e => by have := Option.some.inj e; omega)]; exact h.hr
  · exact h.own.kept hg (by cases h2 : fv.ownBlock <;> simp; exact fun e => by have h7 := owns_ge h.own h2; omega)

theorem owns_heap {w : World} {base : Nat} {t : TypeId} {size : Nat} {v : Value} {n : Nat} {xs : List Value} {j : Nat} (h : w.ownsRow base t size v n xs) (hj : v.ownBlock = some j) : ∃ cur, w.heap[j]? = some (.cells cur t (0, 0)) := by
  rcases h.2 with ⟨rfl, rfl⟩ | ⟨g, cap, cur, rfl, _, h1, _⟩
  · cases hj
  · cases hj; exact ⟨cur, h1⟩
/-- One field more. -/
theorem DReq.more {w : World} {c R r : Nat} {m : Int} {p : ByteArray} {fv : Value} {fs : List (ByteArray × ByteArray)} {b f v : ByteArray} {a : Option Addr} {len cap : Nat} {W W5 : World} {o : Obj} {v1 : Value} (h : DReq w c R r m p fv fs b a len cap W) (hcw : c < w.heap.size) (hRw : w.heap.size ≤ R) (hrw : w.heap.size ≤ r) (hrR : R ≠ r) (hg : (W.alloc o).grownBy W5 fv.ownBlock) (hown : W5.ownsRow w.heap.size 55 2 v1 (fs.length + 1) (flatF fs ++ [.string f, .string v])) :
    (W5.heap[r]? = some (.cells #[.int .i64 m, .string p, fv, .string b] 26)) ∧ DReq w c R r m p v1 (fs ++ [(f, v)]) b a len cap (W5.setCell ⟨r, 2, none⟩ v1) := by
  have hs : (W.alloc o).heap.size = W.heap.size + 1 := by simp
  have hRl := (Array.getElem?_eq_some_iff.1 h.hR).1
  have hrl := (Array.getElem?_eq_some_iff.1 h.hr).1
  have hcl := h.cur.lt
  have hR5 : W5.heap[R]? = some (.cells #[.int .i64 0, .string ⟨#[]⟩, .slice none 0 0, .string ⟨#[]⟩] 26) := by
    rw [hg.block R (by omega) (fun e => (h.apart R e.symm).1 rfl), heap_alloc_old _ _ hRl]; exact h.hR
  have hr5 : W5.heap[r]? = some (.cells #[.int .i64 m, .string p, fv, .string b] 26) := by
    rw [hg.block r (by omega) (fun e => (h.apart r e.symm).2 rfl), heap_alloc_old _ _ hrl]; exact h.hr
  have hap : ∀ j, v1.ownBlock = some j → j ≠ R ∧ j ≠ r := fun j hj => by
    obtain ⟨cur, hcj⟩ := owns_heap hown hj
    refine ⟨fun e => ?_, fun e => ?_⟩
    · rw [e, hR5] at hcj
      simp at hcj
    · rw [e, hr5] at hcj
      simp at hcj
  have hg5 : w.grownBy W5 (some c) := by
    have h1 := grownBy_trans h.grow (World.grownBy_alloc W o (some c))
    refine ⟨hg.os.trans h1.os, hg.tape.trans h1.tape, hg.output.trans h1.output, Nat.le_trans h1.size hg.size, fun i hi hne => ?_⟩
    rw [hg.block i (by have := h1.size; omega) (fun e => by have := owns_ge h.own e.symm; omega)]
    exact h1.block i hi hne
  refine ⟨hr5, ?_, ?_, ?_, ?_, grown_later hg5 (grown_set W5 r 2 v1) (fun g e => by cases e; exact hrw), hap⟩
  · rw [heap_setCell_other _ _ R _ (fun e => hrR e)]; exact hR5
  · have := heap_set W5 r 2 _ _ _ v1 hr5
    simpa using this
  · have h2 : (W5.setCell ⟨r, 2, none⟩ v1).ownsRow w.heap.size 55 2 v1 (fs.length + 1) (flatF fs ++ [.string f, .string v]) := hown.kept (grown_set W5 r 2 v1) (by cases h3 : v1.ownBlock <;> simp; exact (hap _ h3).2)
    rw [flatF_append, flatF_one]; simpa using h2
  · obtain ⟨i, hh, hi, h4⟩ := h.cur
    refine ⟨i, hh, hi, ?_⟩
    rw [heap_setCell_other _ _ c _ (fun e => by have e2 : c = r := e; omega), hg.block c (by omega) (fun e => by have := owns_ge h.own e.symm; omega), heap_alloc_old _ _ hcl]
    exact h4

/-- The body set. -/
theorem DReq.setBody {w : World} {c R r : Nat} {m : Int} {p : ByteArray} {fv : Value} {fs : List (ByteArray × ByteArray)} {b : ByteArray} {a : Option Addr} {len cap : Nat} {W : World} (h : DReq w c R r m p fv fs b a len cap W) (hcw : c < w.heap.size) (hrw : w.heap.size ≤ r) (hrR : R ≠ r) (b' : ByteArray) : DReq w c R r m p fv fs b' a len cap (W.setCell ⟨r, 3, none⟩ (.string b')) := by
  refine ⟨?_, ?_, ?_, ?_, grown_later h.grow (grown_set W r 3 _) (fun g e => by cases e; exact hrw), h.apart⟩
  · rw [heap_setCell_other _ _ R _ (fun e => hrR e)]; exact h.hR
  · have := heap_set W r 3 _ _ _ (.string b') h.hr
    simpa using this
  · exact h.own.kept (grown_set W r 3 _) (by cases h3 : fv.ownBlock <;> simp; exact (h.apart _ h3).2)
  · obtain ⟨i, hh, hi, h4⟩ := h.cur
    refine ⟨i, hh, hi, ?_⟩
    rw [heap_setCell_other _ _ c _ (fun e => by have e2 : c = r := e; omega)]
    exact h4
/-- The request handed back. -/
theorem DReq.fin {w : World} {c R r : Nat} {m : Int} {p : ByteArray} {fv : Value} {fs : List (ByteArray × ByteArray)} {b : ByteArray} {a : Option Addr} {len cap : Nat} {W : World} (h : DReq w c R r m p fv fs b a len cap W) (hcw : c < w.heap.size) (hRw : w.heap.size ≤ R) (hm : -1000 ≤ m ∧ m ≤ 1000) (hp : p.size ≤ 64) (hf : fs.length ≤ 40) (hsh : ShortF fs) {bmax : Nat} (hb : b.size ≤ bmax) :
    (fourSet W R (.int .i64 m) (.string p) fv (.string b)).heap[R]? = some (.cells #[.int .i64 m, .string p, fv, .string b] 26) ∧ ReqDrawn bmax w c a len cap (.returned (.agg #[.int .i64 m, .string p, fv, .string b])) (fourSet W R (.int .i64 m) (.string p) fv (.string b)) := by
  have hg : W.grownBy (fourSet W R (.int .i64 m) (.string p) fv (.string b)) (some R) := by
    unfold fourSet
    exact grown_then (grown_then (grown_then (grown_set _ _ _ _) (grown_set _ _ _ _)) (grown_set _ _ _ _)) (grown_set _ _ _ _)
  refine ⟨four_set h.hR _ _ _ _, m, p, fv, fs, b, rfl, hm, hp, ?_, hf, hsh, hb, ?_, grown_later h.grow hg (fun g e => by cases e; exact hRw)⟩
  · exact h.own.kept hg (by cases h3 : fv.ownBlock <;> simp; exact (h.apart _ h3).1)
  · obtain ⟨i, hh, hi, h4⟩ := h.cur
    refine ⟨i, hh, hi, ?_⟩
    rw [hg.block c (Array.getElem?_eq_some_iff.1 h4).1 (fun e => by have := Option.some.inj e; omega)]
    exact h4

set_option maxHeartbeats 1000000 in
set_option maxRecDepth 100000 in
theorem l3DrawReq_any (c B : Nat) (a : Option Addr) (len cap : Nat) (zs : List Int) (w : World) (hcur : CurAt w c a len cap) (hcode : CodeAt w B a len zs) (hB : B ≤ c) :
    Calls Tryz.prog 25 #[.pointer (some ⟨c, 0, none⟩)] w fun e w' => ReqDrawn 14 w c a len cap e w' := by
  obtain ⟨i0, hi, hz0, hz1, hz2⟩ := info_parts info33
  have hcw := hcur.lt
  have HCO : Hid (∀ W, w.grownBy W (some c) → CodeAt W B a len zs) := fun W h => hcode.grown h hB
  obtain ⟨R, hR⟩ : ∃ R, R = w.heap.size := ⟨_, rfl⟩
  have hg0 : w.grownBy (w.alloc (.cells #[.int .i64 0, .string ⟨#[]⟩, .slice none 0 0, .string ⟨#[]⟩] 26)) (some c) := World.grownBy_alloc w _ _
  have hcu0 := hcur.below ((Below.refl _ w).alloc (Nat.le_refl _) (.cells #[.int .i64 0, .string ⟨#[]⟩, .slice none 0 0, .string ⟨#[]⟩] 26)) hcw
  have hco0 := HCO.out _ hg0
  have hz0' : (w.alloc (.cells #[.int .i64 0, .string ⟨#[]⟩, .slice none 0 0, .string ⟨#[]⟩] 26)).heap[R]? = some (.cells #[.int .i64 0, .string ⟨#[]⟩, .slice none 0 0, .string ⟨#[]⟩] 26) := by rw [hR]; exact heap_alloc_new w _
  have hRlt : R < (w.alloc (.cells #[.int .i64 0, .string ⟨#[]⟩, .slice none 0 0, .string ⟨#[]⟩] 26)).heap.size := by rw [hR]; simp
  have hRc : R ≠ c := by omega
  have hRw : w.heap.size ≤ R := by omega
  have HRE : Hid (R = w.heap.size) := hR
  obtain ⟨w0, hw0⟩ : ∃ W, W = w.alloc (.cells #[.int .i64 0, .string ⟨#[]⟩, .slice none 0 0, .string ⟨#[]⟩] 26) := ⟨_, rfl⟩
  have HS0 : Hid (w0.heap.size = w.heap.size + 1) := by show _ = _; rw [hw0]; simp
  have HW0 : Hid (w0 = w.alloc (.cells #[.int .i64 0, .string ⟨#[]⟩, .slice none 0 0, .string ⟨#[]⟩] 26)) := hw0
  rw [← hw0] at hg0 hcu0 hco0 hz0' hRlt
  clear hcur hcode hR hw0
  go_enter Tryz.func25, Tryz.ntmps25
  go_wp2_with fail
  rw [← HW0.out, ← HS0.out]
  refine (pickInt_new c B [1, 1, 1, 1, 2, 3, 4] 1 4 (by decide) a len cap zs w0 hcu0 hco0 hB (by decide) (by decide)).mono ?_
  rintro e w1 ⟨m, rfl, hm1, hm2, hcu1, hg1⟩
  have hga1 := grownBy_trans hg0 hg1
  have hz1' : w1.heap[R]? = some (.cells #[.int .i64 0, .string ⟨#[]⟩, .slice none 0 0, .string ⟨#[]⟩] 26) := by rw [hg1.block R hRlt (fun e => hRc (Option.some.inj e))]; exact hz0'
  have hR1 : R < w1.heap.size := (Array.getElem?_eq_some_iff.1 hz1').1
  clear hg0 hg1 hcu0 hco0 hz0' hRlt
  go_wp2_with fail
  refine (pick_new c B [⟨#[47]⟩, ⟨#[47, 97]⟩, ⟨#[47, 97, 47, 98]⟩, ⟨#[47, 98]⟩] 64 (by decide) a len cap zs w1 hcu1 (HCO.out _ hga1) hB (by decide) (by decide)).mono ?_
  rintro e w2 ⟨p, rfl, hp, hcu2, hg2⟩
  have hga2 := grownBy_trans hga1 hg2
  have hz2' : w2.heap[R]? = some (.cells #[.int .i64 0, .string ⟨#[]⟩, .slice none 0 0, .string ⟨#[]⟩] 26) := by rw [hg2.block R hR1 (fun e => hRc (Option.some.inj e))]; exact hz1'
  have hR2 : R < w2.heap.size := (Array.getElem?_eq_some_iff.1 hz2').1
  rw [← HRE.out]
  clear hg2 hga1 hcu1 hz1' hR1
  obtain ⟨r, hr⟩ : ∃ r, r = w2.heap.size := ⟨_, rfl⟩
  have hrw : w.heap.size ≤ r := by rw [hr]; exact hga2.size
  have hrR : R ≠ r := by omega
  have HD0 : Hid (DReq w c R r m p (.slice none 0 0) [] ⟨#[]⟩ a len cap (w2.alloc (.cells #[.int .i64 m, .string p, .slice none 0 0, .string ⟨#[]⟩] 26))) := by
    have hgal : w2.grownBy (w2.alloc (.cells #[.int .i64 m, .string p, .slice none 0 0, .string ⟨#[]⟩] 26)) (some c) := World.grownBy_alloc w2 _ _
    refine ⟨?_, by rw [hr]; exact heap_alloc_new w2 _, ⟨rfl, .inl ⟨rfl, rfl⟩⟩, hcu2.below ((Below.refl _ w2).alloc (Nat.le_refl _) _) hcu2.lt, grownBy_trans hga2 hgal, fun j h => by cases h⟩
    rw [hgal.block R hR2 (fun e => hRc (Option.some.inj e))]; exact hz2'
  have HR' : Hid (r = w2.heap.size) := hr
  clear hr hz2' hR2 hcu2 hga2
  go_wp2_with fail
  rw [← HR'.out]
  go_loopw [4] (fun i wr => ∃ (k : Nat) (fs : List (ByteArray × ByteArray)) (fv : Value), k ≤ 4 ∧ fs.length ≤ k ∧ i = .int .i64 (k : Int) ∧ Hid (ShortF fs) ∧ Hid (DReq w c R r m p fv fs ⟨#[]⟩ a len cap wr)) (fun i _ => 4 - (intOf i).toNat)
  case atStart => exact ⟨0, [], _, by omega, Nat.le_refl _, rfl, (fun f hf => by cases hf), HD0⟩
  case round =>
    obtain ⟨k, fs, fv, hk, hfl, rfl, hsh, hd⟩ := hrel
    obtain ⟨fo, fc, rfl⟩ := slice_of_owns hd.out.own
    go_wp2_with fail
    refine (l1Below_any c B 4 a len cap zs _ hd.out.cur (HCO.out _ hd.out.grow) hB (by omega) (by omega)).mono ?_
    rintro e wa ⟨x, rfl, hx0, hx1, hcua, hgaa⟩
    have hda : Hid (DReq w c R r m p (.slice fo fs.length fc) fs ⟨#[]⟩ a len cap wa) := hd.out.later hcw hRw hrw hcua hgaa
    clear hcua hgaa hd
    by_cases hkx : (k : Int) < x
    · go_wp2_with fail
      refine (pick_new c B [⟨#[108, 97, 110, 103]⟩, ⟨#[107, 105, 110, 100]⟩, ⟨#[99, 97, 99, 104, 101, 45, 99, 111, 110, 116, 114, 111, 108]⟩, ⟨#[105, 102, 45, 110, 111, 110, 101, 45, 109, 97, 116, 99, 104]⟩, ⟨#[120, 45, 97]⟩] 64 (by decide) a len cap zs wa hda.out.cur (HCO.out _ hda.out.grow) hB (by decide) (by decide)).mono ?_
      rintro e wb ⟨f, rfl, hf, hcub, hgb⟩
      have hdb : Hid (DReq w c R r m p (.slice fo fs.length fc) fs ⟨#[]⟩ a len cap wb) := hda.out.later hcw hRw hrw hcub hgb
      obtain ⟨⟨c0, c1, c2, c3⟩, f0, f1, f2, f3⟩ := four_facts hdb.out.hr
      clear hcub hgb hda
      go_wp2_with fail
      refine (l2At_any _ fs.length _ fs f _ (FieldsV.of_owns hdb.out.own) (by omega)).mono ?_
      rintro e wc ⟨rfl, rfl⟩
      by_cases hat : atI fs f < 0
      · skip
        go_wp2_with fail
        refine (pick_new c B [⟨#[100, 101]⟩, ⟨#[101, 110]⟩] 64 (by decide) a len cap zs wc hdb.out.cur (HCO.out _ hdb.out.grow) hB (by decide) (by decide)).mono ?_
        rintro e wd ⟨v, rfl, hv, hcud, hgd⟩
        have hdd : Hid (DReq w c R r m p (.slice fo fs.length fc) fs ⟨#[]⟩ a len cap wd) := hdb.out.later hcw hRw hrw hcud hgd
        clear hcud hgd
        clear c0 c1 c2 c3 f0 f1 f2 f3
        by_cases e1 : f = ⟨#[107, 105, 110, 100]⟩
        · have ht := (text_beq _ _).2 e1
          rw [kind_list] at ht
          clear e1
          go_wp2_with fail
          refine (pick_new c B [⟨#[120]⟩, ⟨#[121]⟩] 64 (by decide) a len cap zs wd hdd.out.cur (HCO.out _ hdd.out.grow) hB (by decide) (by decide)).mono ?_
          rintro e we ⟨v2, rfl, hv2, hcue, hge⟩
          have hde : Hid (DReq w c R r m p (.slice fo fs.length fc) fs ⟨#[]⟩ a len cap we) := hdd.out.later hcw hRw hrw hcue hge
          clear hcue hge
          have h63 : fs.length + 1 ≤ maxLen := by unfold maxLen; omega
          have h47 : (fs.length + 1) * 32 ≤ 140737488355328 := by omega
          have HBS : ∀ o, w.heap.size ≤ (we.alloc o).heap.size := fun o => by have := hde.out.grow.size; simp; omega
          obtain ⟨⟨c0, c1, c2, c3⟩, f0, f1, f2, f3⟩ := four_facts hde.out.hr
          go_wp2_with (at_builtin; refine wpList_append_own _ rfl _ _ 24 rfl w.heap.size 55 i0 (.agg #[.string ⟨#[]⟩, .string ⟨#[]⟩]) 2 32 Tryz.underlying24 hi hz0 hz1 hz2 rfl (by decide) _ _ _ rfl (hde.out.own.alloc _) ⟨we.heap.size, 0, none⟩ 1 1 [.string f, .string v2] rfl rfl (cell_two_new _ _ _ _) (two_text _ _) h63 h47 (HBS _) ?_)
          intro v1 w5 hown5 hgrow _
          obtain ⟨fo1, fc1, rfl⟩ := slice_of_owns hown5
          obtain ⟨hr5, hd5⟩ := hde.out.more hcw hRw hrw hrR hgrow hown5
          have HD5 : Hid (DReq w c R r m p (.slice fo1 (fs.length + 1) fc1) (fs ++ [(f, v2)]) ⟨#[]⟩ a len cap (w5.setCell ⟨r, 2, none⟩ (.slice fo1 (fs.length + 1) fc1))) := hd5
          have HSH : Hid (ShortF (fs ++ [(f, v2)])) := hsh.out.snoc hf hv2
          clear c0 c1 c2 c3 f0 f1 f2 f3
          obtain ⟨⟨c0, c1, c2, c3⟩, f0, f1, f2, f3⟩ := four_facts hr5
          clear hr5 hd5 hgrow hown5 HBS
          go_wp2
          go_roundw
          case rel => exact ⟨k + 1, _, _, by omega, by simp; omega, by go_num, HSH, HD5⟩
          case measure => simp [intOf]; omega
        · have ht := text_beq_no e1
          rw [kind_list] at ht
          by_cases e2 : f = ⟨#[99, 97, 99, 104, 101, 45, 99, 111, 110, 116, 114, 111, 108]⟩
          · have ht2 := (text_beq _ _).2 e2
            rw [cacheC_list] at ht2
            clear e1 e2
            go_wp2_with fail
            refine (pick_new c B [⟨#[110, 111, 45, 99, 97, 99, 104, 101]⟩, ⟨#[110, 111, 45, 115, 116, 111, 114, 101]⟩, ⟨#[109, 97, 120, 45, 97, 103, 101, 61, 51]⟩] 64 (by decide) a len cap zs wd hdd.out.cur (HCO.out _ hdd.out.grow) hB (by decide) (by decide)).mono ?_
            rintro e we ⟨v2, rfl, hv2, hcue, hge⟩
            have hde : Hid (DReq w c R r m p (.slice fo fs.length fc) fs ⟨#[]⟩ a len cap we) := hdd.out.later hcw hRw hrw hcue hge
            clear hcue hge
            have h63 : fs.length + 1 ≤ maxLen := by unfold maxLen; omega
            have h47 : (fs.length + 1) * 32 ≤ 140737488355328 := by omega
            have HBS : ∀ o, w.heap.size ≤ (we.alloc o).heap.size := fun o => by have := hde.out.grow.size; simp; omega
            obtain ⟨⟨c0, c1, c2, c3⟩, f0, f1, f2, f3⟩ := four_facts hde.out.hr
            go_wp2_with (at_builtin; refine wpList_append_own _ rfl _ _ 24 rfl w.heap.size 55 i0 (.agg #[.string ⟨#[]⟩, .string ⟨#[]⟩]) 2 32 Tryz.underlying24 hi hz0 hz1 hz2 rfl (by decide) _ _ _ rfl (hde.out.own.alloc _) ⟨we.heap.size, 0, none⟩ 1 1 [.string f, .string v2] rfl rfl (cell_two_new _ _ _ _) (two_text _ _) h63 h47 (HBS _) ?_)
            intro v1 w5 hown5 hgrow _
            obtain ⟨fo1, fc1, rfl⟩ := slice_of_owns hown5
            obtain ⟨hr5, hd5⟩ := hde.out.more hcw hRw hrw hrR hgrow hown5
            have HD5 : Hid (DReq w c R r m p (.slice fo1 (fs.length + 1) fc1) (fs ++ [(f, v2)]) ⟨#[]⟩ a len cap (w5.setCell ⟨r, 2, none⟩ (.slice fo1 (fs.length + 1) fc1))) := hd5
            have HSH : Hid (ShortF (fs ++ [(f, v2)])) := hsh.out.snoc hf hv2
            clear c0 c1 c2 c3 f0 f1 f2 f3
            obtain ⟨⟨c0, c1, c2, c3⟩, f0, f1, f2, f3⟩ := four_facts hr5
            clear hr5 hd5 hgrow hown5 HBS
            go_wp2
            go_roundw
            case rel => exact ⟨k + 1, _, _, by omega, by simp; omega, by go_num, HSH, HD5⟩
            case measure => simp [intOf]; omega
          · have ht2 := text_beq_no e2
            rw [cacheC_list] at ht2
            by_cases e3 : f = ⟨#[105, 102, 45, 110, 111, 110, 101, 45, 109, 97, 116, 99, 104]⟩
            · have ht3 := (text_beq _ _).2 e3
              rw [ifNone_list] at ht3
              clear e1 e2 e3
              go_wp2_with fail
              refine (pick_new c B [⟨#[97]⟩, ⟨#[98]⟩] 64 (by decide) a len cap zs wd hdd.out.cur (HCO.out _ hdd.out.grow) hB (by decide) (by decide)).mono ?_
              rintro e we ⟨v2, rfl, hv2, hcue, hge⟩
              have hde : Hid (DReq w c R r m p (.slice fo fs.length fc) fs ⟨#[]⟩ a len cap we) := hdd.out.later hcw hRw hrw hcue hge
              clear hcue hge
              have h63 : fs.length + 1 ≤ maxLen := by unfold maxLen; omega
              have h47 : (fs.length + 1) * 32 ≤ 140737488355328 := by omega
              have HBS : ∀ o, w.heap.size ≤ (we.alloc o).heap.size := fun o => by have := hde.out.grow.size; simp; omega
              obtain ⟨⟨c0, c1, c2, c3⟩, f0, f1, f2, f3⟩ := four_facts hde.out.hr
              go_wp2_with (at_builtin; refine wpList_append_own _ rfl _ _ 24 rfl w.heap.size 55 i0 (.agg #[.string ⟨#[]⟩, .string ⟨#[]⟩]) 2 32 Tryz.underlying24 hi hz0 hz1 hz2 rfl (by decide) _ _ _ rfl (hde.out.own.alloc _) ⟨we.heap.size, 0, none⟩ 1 1 [.string f, .string v2] rfl rfl (cell_two_new _ _ _ _) (two_text _ _) h63 h47 (HBS _) ?_)
              intro v1 w5 hown5 hgrow _
              obtain ⟨fo1, fc1, rfl⟩ := slice_of_owns hown5
              obtain ⟨hr5, hd5⟩ := hde.out.more hcw hRw hrw hrR hgrow hown5
              have HD5 : Hid (DReq w c R r m p (.slice fo1 (fs.length + 1) fc1) (fs ++ [(f, v2)]) ⟨#[]⟩ a len cap (w5.setCell ⟨r, 2, none⟩ (.slice fo1 (fs.length + 1) fc1))) := hd5
              have HSH : Hid (ShortF (fs ++ [(f, v2)])) := hsh.out.snoc hf hv2
              clear c0 c1 c2 c3 f0 f1 f2 f3
              obtain ⟨⟨c0, c1, c2, c3⟩, f0, f1, f2, f3⟩ := four_facts hr5
              clear hr5 hd5 hgrow hown5 HBS
              go_wp2
              go_roundw
              case rel => exact ⟨k + 1, _, _, by omega, by simp; omega, by go_num, HSH, HD5⟩
              case measure => simp [intOf]; omega
            · have ht3 := text_beq_no e3
              rw [ifNone_list] at ht3
              clear e1 e2 e3
              have h63 : fs.length + 1 ≤ maxLen := by unfold maxLen; omega
              have h47 : (fs.length + 1) * 32 ≤ 140737488355328 := by omega
              have HBS : ∀ o, w.heap.size ≤ (wd.alloc o).heap.size := fun o => by have := hdd.out.grow.size; simp; omega
              obtain ⟨⟨c0, c1, c2, c3⟩, f0, f1, f2, f3⟩ := four_facts hdd.out.hr
              go_wp2_with (at_builtin; refine wpList_append_own _ rfl _ _ 24 rfl w.heap.size 55 i0 (.agg #[.string ⟨#[]⟩, .string ⟨#[]⟩]) 2 32 Tryz.underlying24 hi hz0 hz1 hz2 rfl (by decide) _ _ _ rfl (hdd.out.own.alloc _) ⟨wd.heap.size, 0, none⟩ 1 1 [.string f, .string v] rfl rfl (cell_two_new _ _ _ _) (two_text _ _) h63 h47 (HBS _) ?_)
              intro v1 w5 hown5 hgrow _
              obtain ⟨fo1, fc1, rfl⟩ := slice_of_owns hown5
              obtain ⟨hr5, hd5⟩ := hdd.out.more hcw hRw hrw hrR hgrow hown5
              have HD5 : Hid (DReq w c R r m p (.slice fo1 (fs.length + 1) fc1) (fs ++ [(f, v)]) ⟨#[]⟩ a len cap (w5.setCell ⟨r, 2, none⟩ (.slice fo1 (fs.length + 1) fc1))) := hd5
              have HSH : Hid (ShortF (fs ++ [(f, v)])) := hsh.out.snoc hf hv
              clear c0 c1 c2 c3 f0 f1 f2 f3
              obtain ⟨⟨c0, c1, c2, c3⟩, f0, f1, f2, f3⟩ := four_facts hr5
              clear hr5 hd5 hgrow hown5 HBS
              go_wp2
              go_roundw
              case rel => exact ⟨k + 1, _, _, by omega, by simp; omega, by go_num, HSH, HD5⟩
              case measure => simp [intOf]; omega
      · go_wp2
        go_roundw
        case rel => exact ⟨k + 1, fs, _, by omega, by omega, by go_num, hsh, hdb⟩
        case measure => simp [intOf]; omega
    · skip
      obtain ⟨⟨c0, c1, c2, c3⟩, f0, f1, f2, f3⟩ := four_facts hda.out.hr
      obtain ⟨⟨d0, d1, d2, d3⟩, g0, g1, g2, g3⟩ := four_facts hda.out.hR
      by_cases hm3 : m = 3
      · have hme : (m == 3) = true := by rw [beq_iff_eq]; exact hm3
        clear hm3
        go_wp2_with fail
        refine (l3DrawBody_any c B a len cap zs _ hda.out.cur (HCO.out _ hda.out.grow) hB).mono ?_
        rintro e wb ⟨b, rfl, hb, hcub, hgb⟩
        have hdb : Hid (DReq w c R r m p (.slice fo fs.length fc) fs ⟨#[]⟩ a len cap wb) := hda.out.later hcw hRw hrw hcub hgb
        clear c0 c1 c2 c3 f0 f1 f2 f3 d0 d1 d2 d3 g0 g1 g2 g3 hcub hgb hda
        obtain ⟨⟨c0, c1, c2, c3⟩, f0, f1, f2, f3⟩ := four_facts hdb.out.hr
        have hdc : Hid (DReq w c R r m p (.slice fo fs.length fc) fs b a len cap (wb.setCell ⟨r, 3, none⟩ (.string b))) := hdb.out.setBody hcw hrw hrR b
        obtain ⟨⟨i0', i1, i2, i3⟩, j0, j1, j2, j3⟩ := four_facts hdc.out.hr
        obtain ⟨⟨d0, d1, d2, d3⟩, g0, g1, g2, g3⟩ := four_facts hdc.out.hR
        obtain ⟨hh, hfin⟩ := hdc.out.fin (bmax := 14) hcw hRw ⟨by omega, by omega⟩ hp (by omega) hsh.out hb
        obtain ⟨⟨k0, k1, k2, k3⟩, _⟩ := four_facts hh
        have HFIN : Hid _ := hfin
        unfold fourSet at k0 k1 k2 k3
        clear hh hfin
        go_wp2_with fail
        exact bodyPost_ret (v := .agg #[.int .i64 m, .string p, .slice fo fs.length fc, .string b]) (by simp [results, Tryz.results25, go_sem, k0, k1, k2, k3]) rfl HFIN.out
      · have hme : (m == 3) = false := by rw [beq_eq_false_iff_ne]; exact hm3
        obtain ⟨hh, hfin⟩ := hda.out.fin (bmax := 14) hcw hRw ⟨by omega, by omega⟩ hp (by omega) hsh.out (by decide)
        obtain ⟨⟨k0, k1, k2, k3⟩, _⟩ := four_facts hh
        have HFIN : Hid _ := hfin
        unfold fourSet at k0 k1 k2 k3
        clear hh hfin
        go_wp2_with fail
        exact bodyPost_ret (v := .agg #[.int .i64 m, .string p, .slice fo fs.length fc, .string ⟨#[]⟩]) (by simp [results, Tryz.results25, go_sem, k0, k1, k2, k3]) rfl HFIN.out

end Go.Proofs.YtjocljdifmlghaaGreatDoor
