/- What the proof of FnExactKeep leans on: contracts of the program's and the specification's functions, and plain facts (part 8 of 12). -/
import Derived.Test.YtejoifianjgefaaGreatDoorFnExactKeepG
set_option maxHeartbeats 16000000
set_option maxRecDepth 100000
namespace Go.Proofs.YtejoifianjgefaaGreatDoor
open Go.Proofs.Tryz
open Go.Shelf Go.RowKit Go.Sort
open Go.Lib hiding intOf
def slT : Value → Oa × Nat × Nat
 | .slice o n c => (o, n, c)
 | _ => (none, 0, 0)
def ksOf (x : KpD × Value × Value × Value) : ByteArray × (Oa × Nat × Nat) × (Oa × Nat × Nat) × Int × (Oa × Nat × Nat) × ByteArray × Int × Int × Int := (x.1.p, slT x.2.1, slT x.2.2.1, x.1.st, slT x.2.2.2, x.1.b, x.1.t, x.1.a, x.1.q)
theorem cX4 {kv : Ks} (h : aO2 kv) {x : KpD × Value × Value × Value} (hx : x ∈ kv) : kpE (ksOf x) = kpC x := by
 obtain ⟨y, v1, v2, v3⟩ := x;obtain ⟨o1, c1, o2, c2, o3, c3, e1, e2, e3⟩ := h _ hx;dsimp only at e1 e2 e3;subst e1 e2 e3;rfl
theorem cB4 {kv : Ks} (h : aO2 kv) : ∀ l : Ks, (∀ x ∈ l, x ∈ kv) → (l.map ksOf).flatMap kpE = l.flatMap kpC
 | [], _ => rfl
 | x :: l, hl => by rw [List.map_cons, List.flatMap_cons, List.flatMap_cons, cX4 h (hl x List.mem_cons_self), cB4 h l (fun y hy => hl y (List.mem_cons_of_mem _ hy))]
theorem cT9 : ∀ (l : Ks) (m : List (ByteArray × (Oa × Nat × Nat) × (Oa × Nat × Nat) × Int × (Oa × Nat × Nat) × ByteArray × Int × Int × Int)), m.Perm (l.map ksOf) → ∃ l' : Ks, l'.Perm l ∧ l'.map ksOf = m := fun l m h => by
 induction m generalizing l with
 | nil =>
  have e : l.map ksOf = [] := h.symm.eq_nil
  exact ⟨[], by rw [List.map_eq_nil_iff.1 e], rfl⟩
 | cons y m ih =>
  have hy : y ∈ l.map ksOf := h.mem_iff.1 List.mem_cons_self
  obtain ⟨x, hx, rfl⟩ := List.mem_map.1 hy
  obtain ⟨s, t, rfl⟩ := List.append_of_mem hx
  have h2 : (ksOf x :: m).Perm (ksOf x :: ((s ++ t).map ksOf)) := h.trans (by rw [List.map_append, List.map_cons, List.map_append]; exact List.perm_middle)
  obtain ⟨l', h3, h4⟩ := ih (s ++ t) ((List.perm_cons _).1 h2)
  exact ⟨x :: l', (h3.cons x).trans List.perm_middle.symm, by rw [List.map_cons, h4]⟩
theorem bW3 {α : Type} : ∀ (l m : List α), l.Nodup → (∀ y ∈ l, y ∈ m) → l.length ≤ m.length
 | [], _, _, _ => Nat.zero_le _
 | x :: l, m, h, hs => by
  obtain ⟨s, t, rfl⟩ := List.append_of_mem (hs x List.mem_cons_self)
  have h1 := List.nodup_cons.1 h
  have h2 := bW3 l (s ++ t) h1.2 (fun y hy => by
   have h3 := hs y (List.mem_cons_of_mem _ hy)
   rcases List.mem_append.1 h3 with h4 | h4
   · exact List.mem_append_left _ h4
   ·rcases List.mem_cons.1 h4 with h5 | h5
    · exact absurd (by rw [← h5]; exact hy) h1.1
    · exact List.mem_append_right _ h5)
  simp only [List.length_append, List.length_cons] at h2 ⊢
  omega
theorem bM8 {α : Type} [Inhabited α] (enc : α → List Value) (k : Nat) (k0 : 0 < k) (hk : ∀ x, (enc x).length = k) (d : Array α) : (flatK enc k d).toList = d.toList.flatMap enc := by
 apply List.ext_getElem?
 intro t;by_cases ht : t < d.size * k
 rotate_left
 ·rw [List.getElem?_eq_none (by simp [size_flatK]; omega), List.getElem?_eq_none (by rw [aP5 enc k hk]; simp; omega)]
 have hi : t / k < d.size := (Nat.div_lt_iff_lt_mul k0).2 ht;have hj : t % k < k := Nat.mod_lt _ k0;have e : t / k * k + t % k = t := by rw [Nat.mul_comm]; exact Nat.div_add_mod t k
 have h1 := bE7 enc k hk d.toList (t / k) (t % k) (by simpa using hi) hj;rw [e] at h1;have hs : t < (flatK enc k d).size := by rw [size_flatK]; exact ht
 have h2 := get_flatK enc k d t ht;rw [getElem!_pos _ t hs] at h2;rw [h1, Array.getElem?_toList, Array.getElem?_eq_getElem hs, h2, getElem!_pos d _ hi, List.getElem?_eq_getElem (by rw [hk]; exact hj), getElem!_pos (enc _) _ (by rw [hk]; exact hj)];rfl
theorem cH8 {α : Type} [Inhabited α] {enc : α → List Value} {k : Nat} (k0 : 0 < k) (hk : ∀ x, (enc x).length = k) {w : World} {base : Nat} {T : TypeId} {g n cap : Nat} {l : List α} (h : w.ownsRow base T k (.slice (some ⟨g, 0, none⟩) n cap) n (l.flatMap enc)) : HoldsK enc k w g 0 l.toArray := by
 intro j hj;have e := bM8 enc k k0 hk l.toArray
 have h1 : (l.flatMap enc)[j]? = some ((flatK enc k l.toArray)[j]!) := by
  rw [show l = l.toArray.toList from rfl, ← e, Array.getElem?_toList, Array.getElem?_eq_getElem hj, getElem!_pos _ j hj]
 have h2 := bB4 h j _ h1;rw [Nat.zero_add];exact h2
theorem bR3 {α : Type} [Inhabited α] {enc : α → List Value} {k : Nat} {w : World} {g m : Nat} {os : Array Obj} (d : Array α) : w.grownBy (sortWorldK enc k w g 0 m d os) (some g) := by
 unfold sortWorldK putRowK;refine ⟨rfl, rfl, rfl, by simp, fun k hk a0 => ?_⟩
 rw [heap_grow_old _ _ (by simpa using hk)];have : g ≠ k := fun e => a0 (by rw [e])
 simp [putRow, mapBlock, Sort.ahead, Array.getElem?_modify, this]
theorem bW4 {α : Type} [Inhabited α] {enc : α → List Value} {k : Nat} (k0 : 0 < k) (hk : ∀ x, (enc x).length = k) {w : World} {base : Nat} {T : TypeId} {g n cap m : Nat} {xs : List Value} {os : Array Obj} (h : w.ownsRow base T k (.slice (some ⟨g, 0, none⟩) n cap) n xs) (d : Array α) (hd : d.size = n) : (sortWorldK enc k w g 0 m d os).ownsRow base T k (.slice (some ⟨g, 0, none⟩) n cap) n (d.toList.flatMap enc) := by
 rcases h.2 with ⟨h0, _⟩ | ⟨g', a1, a0, hv, hb, hh, hn, hm, hs, a3⟩
 ·cases h0
 injection hv with e1 e2 e3
 cases e1
 subst e3;have a2 : g < w.heap.size := (blt hh);have a4 : n * k ≤ a0.size := by rw [hs]; exact Nat.mul_le_mul_right k hn
 refine ⟨by rw [aP5 enc k hk]; simp [hd], .inr ⟨g, cap, putCells id 0 (flatK enc k d) a0, rfl, hb, ?_, hn, hm, by simp [putCells, hs], ?_⟩⟩
 ·unfold sortWorldK putRowK;rw [heap_grow_old _ _ (by simpa using a2)];simp [putRow, mapBlock, Sort.ahead, Array.getElem?_modify, hh, onCells]
 rw [← bM8 enc k k0 hk d];apply List.ext_getElem?
 intro j;by_cases hj : j < n * k
 rotate_left
 ·rw [List.getElem?_take_eq_none (by omega), List.getElem?_eq_none (by simp [hd]; omega)]
 rw [List.getElem?_take_of_lt hj, Array.getElem?_toList, Array.getElem?_toList];have h1 : j < (flatK enc k d).size := by rw [size_flatK, hd]; exact hj
 rw [Array.getElem?_eq_getElem h1, ← getElem!_pos _ j h1];have h3 : j < d.size * k := by rw [hd]; exact hj
 simp [putCells, h3, show j < a0.size by omega]
theorem cH9 {w w' : World} {b r n : Nat} {D : DataW Value} {left : Lit → Bool} {cnt : Nat} {base : Nat} {T : TypeId} {z m : Nat} {v : Value} {c : List Value} (h : w.ranges prog 3 mpR b r n D left cnt) (hr : w.ownsRow base T z v m c) (hg : w.grownBy w' v.ownBlock) : w'.ranges prog 3 mpR b r n D left cnt := by
 have a3 := h.owns.lt;have a4 := h.lt;obtain ⟨es, a0, a1, a2, c0, h1, h2, h3, h4, h5, h6⟩ := h;refine ⟨es, a0, a1, a2, c0, (hg.block b a3 (fun e => ?_)).trans h1, h2, h3, h4, (hg.block r a4 (fun e => ?_)).trans h5, h6⟩
 ·obtain ⟨cs, fr, hq⟩ := bQ3 hr e.symm;rw [h1] at hq;cases hq
 obtain ⟨cs, fr, hq⟩ := bQ3 hr e.symm;rw [h5] at hq;cases hq
theorem cM7 {w : World} {b r n : Nat} {D : DataW Value} {left : Lit → Bool} {cnt : Nat} {base : Nat} {T : TypeId} {z m : Nat} {v : Value} {c : List Value} (h : w.ranges prog 3 mpR b r n D left cnt) (hr : w.ownsRow base T z v m c) : v.ownBlock ≠ some r := fun e => by
 obtain ⟨es, clock, since, seen, c0, _, _, _, _, h5, _⟩ := h
 obtain ⟨cs, fr, hq⟩ := bQ3 hr e
 rw [h5] at hq
 cases hq
theorem cU0 {D : DataW Value} {kv : Ks} {a : Int} {v : Value} (hi : aM5 D kv) (hat : ∀ zd, D.atKey (.int .i64 a) zd = .held v) : ∃ x ∈ kv, x.1.a = a ∧ v = kpX x := by
 obtain ⟨x, hx, e⟩ := (hi.1 a).1 (Maps.has_true_of_atKey hat);have h1 := hi.2 x hx (.held v);rw [e, hat] at h1;injection h1 with h1
 exact ⟨x, hx, e, h1⟩
def cX5 (kv : Ks) (w : World) (e : Ending) (w' : World) : Prop := ∃ (kv' : Ks) (g c : Nat), e = .returned (.slice (some ⟨g, 0, none⟩) kv'.length c) ∧ kv'.Perm kv ∧ kv'.Pairwise (fun x y => x.1.q ≤ y.1.q) ∧ w'.ownsRow w.heap.size 82 9 (.slice (some ⟨g, 0, none⟩) kv'.length c) kv'.length (kv'.flatMap kpC) ∧ RowKit.Below w.heap.size w w'
theorem cB5 {kv acc : Ks} {d' : Array (ByteArray × (Oa × Nat × Nat) × (Oa × Nat × Nat) × Int × (Oa × Nat × Nat) × ByteArray × Int × Int × Int)} (hp : acc.Perm kv) (h1 : PermIn 0 (acc.map ksOf).toArray.size (acc.map ksOf).toArray d') (h2 : SortedIn (ltOf fun x y : ByteArray × (Oa × Nat × Nat) × (Oa × Nat × Nat) × Int × (Oa × Nat × Nat) × ByteArray × Int × Int × Int => Lib.compareInt x.2.2.2.2.2.2.2.2 y.2.2.2.2.2.2.2.2) 0 (acc.map ksOf).toArray.size d') : ∃ kv' : Ks, kv'.Perm kv ∧ kv'.map ksOf = d'.toList ∧ kv'.Pairwise (fun x y => x.1.q ≤ y.1.q) := by
 obtain ⟨hs, _, a0⟩ := h1;rw [Array.extract_eq_self_of_le (by rw [hs]; exact Nat.le_refl _), Array.extract_eq_self_of_le (Nat.le_refl _)] at a0;obtain ⟨l', h3, h4⟩ := cT9 acc d'.toList (by simpa using a0);refine ⟨l', h3.trans hp, h4, ?_⟩;rw [List.pairwise_iff_getElem];intro i j hi hj a2;have hl : l'.length = d'.size := by rw [← List.length_map (f := ksOf), h4]; simp
 have h5 := h2 i j (Nat.zero_le _) a2 (by rw [← hs]; omega);rw [cP9] at h5
 have e : ∀ k (hk : k < l'.length), d'[k]! = ksOf (l'[k]'hk) := fun k hk => by
  have a1 : k < d'.size := by omega
  rw [getElem!_pos d' k a1, ← Array.getElem_toList a1]
  simp only [← h4, List.getElem_map]
 rw [e i hi, e j hj] at h5;have h6 := of_decide_eq_false h5;unfold ksOf at h6;dsimp only at h6;omega
theorem cQ0 (b n : Nat) (D : DataW Value) (kv : Ks) (w : World) (hown : aC0 w b n D) (hi : aM5 D kv) (ha : aG2 kv) (hsl : aO2 kv) (hn : n ≤ 1048576) (hkl : kv.length ≤ 1048576) :
  Calls prog 146 #[.map (some b)] w fun e w' => cX5 kv w e w' := by
 unfold aC0 at hown
 obtain ⟨i0, hif, hz0, hz1, hz2⟩ := info_parts bA2
 have hns : Maps.size D ≤ n := hown.size_le
 obtain ⟨m0, hm0⟩ := exq (Maps.size D)
 obtain ⟨M, hM⟩ : ∃ M, M = madeCells (Value.cells (.agg #[.string ⟨#[]⟩, .slice none 0 0, .slice none 0 0, .int .i64 0, .slice none 0 0, .string ⟨#[]⟩, .int .i64 0, .int .i64 0, .int .i64 0])) (((m0 : Nat) : Int).toNat * i0.size) := ⟨_, rfl⟩
 have hmk : ∀ W : World, (Instr.makeSlice 40 (.int .i64 0) (.int .i64 (m0 : Int))).run prog W = .ok (.slice (some ⟨W.heap.size, 0, none⟩) 0 m0) (W.alloc (.cells M 82)) := fun W => by
  have h := run_make (P := prog) W 40 82 i0 (.agg #[.string ⟨#[]⟩, .slice none 0 0, .slice none 0 0, .int .i64 0, .slice none 0 0, .string ⟨#[]⟩, .int .i64 0, .int .i64 0, .int .i64 0]) underlying40 hif hz0 .i64 .i64 0 (m0 : Int) (by omega) (by omega) (by rw [hz2]; omega) (by omega)
  rw [← hM] at h
  simpa using h
 have hmk2 : ∀ W : World, (Instr.makeSlice 40 (.int .i64 0) (.int .i64 ((Maps.size D : Nat) : Int))).run prog W = .ok (.slice (some ⟨W.heap.size, 0, none⟩) 0 m0) (W.alloc (.cells M 82)) := by rw [← hm0]; exact hmk
 have HMs : Hid (M.size = m0 * 9) := by show _ = _; rw [hM, size_madeCells, hz1]; simp
 have HSL := hid hsl
 have HAP := hid ha
 have HI := hid hi
 have HKL := hid hkl
 have hml : m0 ≤ 1048576 := by omega
 clear hsl ha hi hkl hM hns hm0
 go_enter func146, ntmps146
 go_upto_region 2 with (first | (at_len; refine wpList_len_own _ rfl _ 141 rfl 3 82 underlying141 mpR b n D rfl hown ?_) | fail)
 obtain ⟨g0, hg0⟩ := exq (w.heap.size)
 obtain ⟨w1, hw1⟩ := exq (w.alloc (.cells M 82))
 rw [← hw1, ← hg0]
 have bw1 : RowKit.Below w.heap.size w w1 := by rw [hw1]; exact (RowKit.Below.refl _ _).alloc (Nat.le_refl _) _
 have HO1 : Hid (w1.ownsRow w.heap.size 82 9 (.slice (some ⟨g0, 0, none⟩) 0 m0) 0 ([] : List Value)) := ⟨rfl, .inr ⟨g0, m0, M, rfl, by omega, by rw [hw1, hg0]; exact heap_alloc_new _ _, Nat.zero_le _, by unfold maxLen; omega, HMs.out, by simp⟩⟩
 have hown1 := aF0 hown bw1
 have HB1 : Hid (RowKit.Below w.heap.size w w1) := bw1
 obtain ⟨r, hr⟩ := exq (w1.heap.size)
 have HRG : Hid (w.heap.size ≤ r) := by show _ ≤ _; rw [hr]; exact bw1.size
 clear hw1 hg0 hmk hmk2 HMs hown bw1
 go_wp2_with (first
  | (at_range; refine wpList_range_own _ rfl _ 141 rfl 3 82 bI3 underlying141 mpR b n D rfl hown1 ?_; intro w0 hrg0 hg0 hs0; rw [← hr] at hrg0 ⊢; clear hr)
  | go_in)
 have HO0 : Hid (w0.ownsRow w.heap.size 82 9 (.slice (some ⟨g0, 0, none⟩) 0 m0) 0 ([] : List Value)) := aA4 HO1.out (fun g hg => hg0.block g (aA5 HO1.out hg) (by simp))
 have HB0 : Hid (RowKit.Below w.heap.size w w0) := HB1.out.grown (hg0.but (some r)) HB1.out.size (by intro k hk; cases hk; exact HRG.out)
 clear hg0 hs0 hown1 HO1 HB1
 go_frame
 go_loopw [3] (fun x3 wr => ∃ (left : Lit → Bool) (cnt : Nat) (acc : Ks) (gz pz : Nat), x3 = .slice (some ⟨gz, 0, none⟩) acc.length pz ∧ wr.ranges prog 3 mpR b r n D left cnt ∧ Hid (aU6 left kv acc) ∧ Hid (wr.ownsRow w.heap.size 82 9 (.slice (some ⟨gz, 0, none⟩) acc.length pz) acc.length (acc.flatMap kpC)) ∧ Hid (RowKit.Below w.heap.size w wr)) (fun _ wr => wr.rangeLeft b r)
 case atStart => exact ⟨_, _, [], g0, m0, rfl, hrg0, aU6.start HI.out, HO0, HB0⟩
 case round =>
  clear HO0 HB0 hrg0
  obtain ⟨left, cnt, acc, gz, pz, rfl, hrg, HT, HO, HB⟩ := hrel
  have hal : acc.length ≤ 1048576 := by
   have h1 : acc.length ≤ kv.length := bW3 acc kv HT.out.1.nodup (fun y hy => ((HT.out.2 y).1 hy).1)
   have h2 := HKL.out
   omega
  go_wp2_with (first
   | (at_next; refine wpList_next_ranges _ rfl _ rfl 3 bI3 mpR (Value.int .i64) (fun v : Value => v) (fun key kl h => by obtain ⟨x, e, _⟩ := Maps.keyOf_int_inv underlying3 h; exact ⟨x, e⟩) (fun v y _ => ⟨v, rfl⟩) b r n D left cnt rfl hrg ?_ ?_)
   | go_in)
  ·intro _ hl0
   have HP : Hid (acc.Perm kv) := HT.out.perm HAP.out hl0
   have HSA : Hid ((acc.map ksOf).flatMap kpE = acc.flatMap kpC) := cB4 HSL.out acc (fun x hx => HP.out.mem_iff.1 hx)
   have hH : HoldsK kpE 9 wr gz 0 (acc.map ksOf).toArray := cH8 (T := 82) (base := w.heap.size) (n := acc.length) (cap := pz) (by decide) cB3 (by rw [HSA.out]; exact HO.out)
   have hgl : gz < wr.heap.size := aA5 HO.out rfl
   have hdz : (acc.map ksOf).toArray.size = acc.length := by simp
   have hcon := bW2 gz 0 pz (acc.map ksOf).toArray wr hH hgl (by rw [hdz]; omega)
   rw [hdz] at hcon
   clear hH hrg HT
   go_wp2_with fail
   refine hcon.mono ?_
   rintro e w5 ⟨rfl, d', mm, os, hp, hs, hw5⟩
   obtain ⟨kv', hk1, hk2, hk3⟩ := cB5 HP.out (by rw [hdz]; exact hp) (by rw [hdz]; exact hs)
   have hds : d'.size = acc.length := by rw [hp.1]; exact hdz
   have hkl' : kv'.length = acc.length := by rw [← List.length_map (f := ksOf), hk2]; simpa using hds
   have HO5 : Hid (w5.ownsRow w.heap.size 82 9 (.slice (some ⟨gz, 0, none⟩) acc.length pz) acc.length (kv'.flatMap kpC)) := by
    have h1 := bW4 (enc := kpE) (m := mm) (os := os) (by decide) cB3 HO.out d' hds
    rw [← hw5, ← hk2, cB4 HSL.out kv' (fun x hx => hk1.mem_iff.1 hx)] at h1
    exact h1
   have HB5 : Hid (RowKit.Below w.heap.size w w5) := HB.out.grown (by rw [hw5]; exact bR3 d') HB.out.size (by intro k hk; cases hk; exact aB7 HO.out rfl)
   have HK : Hid (kv'.Perm kv ∧ kv'.Pairwise (fun x y => x.1.q ≤ y.1.q) ∧ kv'.length = acc.length) := ⟨hk1, hk3, hkl'⟩
   clear hp hs hw5 hk1 hk2 hk3 hkl' hds hcon HSA HP HO HB hdz
   go_wp2_with fail
   go_ret
   exact ⟨kv', gz, pz, by rw [HK.out.2.2]; rfl, HK.out.1, HK.out.2.1, by rw [HK.out.2.2]; exact HO5.out, HB5.out⟩
  ·intro xa c kl yd yp w1 cnt1 hkey hlx hR hat hrg1 hlt hg1 hs1 hen
   obtain ⟨xb, exb, ekl, _⟩ := Maps.keyOf_int_inv underlying3 hkey
   cases exb
   subst ekl
   have ey := cL5 hR
   obtain ⟨ey1, _⟩ := Prod.mk.inj ey
   subst ey1
   obtain ⟨x, hxm, ea, ec⟩ := cU0 HI.out hat
   subst ea ec
   obtain ⟨y, v1, v2, v3⟩ := x
   obtain ⟨o1, c1, o2, c2, o3, c3, e1, e2, e3⟩ := HSL.out _ hxm
   dsimp only at e1 e2 e3
   subst e1 e2 e3
   dsimp only at hkey hat hlx hrg1 hen ⊢
   unfold kpX at hen
   dsimp only at hen
   have HXM := hid hxm
   have HLX := hid hlx
   have HB1 : Hid (RowKit.Below w.heap.size w w1) := HB.out.grown hg1 HB.out.size (by intro k hk; cases hk; exact HRG.out)
   have HO1 : Hid (w1.ownsRow w.heap.size 82 9 (.slice (some ⟨gz, 0, none⟩) acc.length pz) acc.length (acc.flatMap kpC)) := aA4 HO.out (fun g hg => hg1.block g (aA5 HO.out hg) (fun e => cM7 hrg HO.out (by rw [hg, e])))
   clear hkey hlx hat hxm hR hg1 hs1 HO HB
   unfold kpX
   dsimp only
   go_upto_region 5 with fail
   obtain ⟨q2, hq2⟩ := exq (w1.heap.size)
   obtain ⟨w2, hw2⟩ := exq (w1.alloc (.cells #[.string y.p, .slice o1 y.xs.length c1, .slice o2 y.ys.length c2, .int .i64 y.st, .slice o3 y.fs.length c3, .string y.b, .int .i64 y.t, .int .i64 y.a, .int .i64 y.q] 82))
   rw [← hw2, ← hq2]
   have bw2 : RowKit.Below w1.heap.size w1 w2 := by rw [hw2]; exact (RowKit.Below.refl _ _).alloc (Nat.le_refl _) _
   have HX2 : Hid (w2.heap[q2]? = some (.cells #[.string y.p, .slice o1 y.xs.length c1, .slice o2 y.ys.length c2, .int .i64 y.st, .slice o3 y.fs.length c3, .string y.b, .int .i64 y.t, .int .i64 y.a, .int .i64 y.q] 82)) := by show _ = _; rw [hw2, hq2]; exact heap_alloc_new _ _
   have HO2 := hown HO1 bw2
   have hrg2 := aQ9 hrg1 bw2
   have HB2 : Hid (RowKit.Below w.heap.size w w2) := HB1.out.trans (bw2.mono HB1.out.size)
   clear hw2 hq2 bw2 hrg1 HO1 HB1 hen
   have bw3 : RowKit.Below w2.heap.size w2 (w2.alloc (.cells #[.string y.p, .slice o1 y.xs.length c1, .slice o2 y.ys.length c2, .int .i64 y.st, .slice o3 y.fs.length c3, .string y.b, .int .i64 y.t, .int .i64 y.a, .int .i64 y.q] 82)) := (RowKit.Below.refl _ _).alloc (Nat.le_refl _) _
   have hown3 : (w2.alloc (.cells #[.string y.p, .slice o1 y.xs.length c1, .slice o2 y.ys.length c2, .int .i64 y.st, .slice o3 y.fs.length c3, .string y.b, .int .i64 y.t, .int .i64 y.a, .int .i64 y.q] 82)).ownsRow w.heap.size 82 9 (.slice (some ⟨gz, 0, none⟩) acc.length pz) acc.length (acc.flatMap kpC) := aC1 HO2.out bw3 (fun g hg => aA5 HO2.out hg)
   have hnews : ∀ j u, ([.string y.p, .slice o1 y.xs.length c1, .slice o2 y.ys.length c2, .int .i64 y.st, .slice o3 y.fs.length c3, .string y.b, .int .i64 y.t, .int .i64 y.a, .int .i64 y.q] : List Value)[j]? = some u → (w2.alloc (.cells #[.string y.p, .slice o1 y.xs.length c1, .slice o2 y.ys.length c2, .int .i64 y.st, .slice o3 y.fs.length c3, .string y.b, .int .i64 y.t, .int .i64 y.a, .int .i64 y.q] 82)).cell? ((⟨w2.heap.size, 0, none⟩ : Addr).add j) = some u := World.news_of_block (heap_alloc_new _ _)
   have h63 : acc.length + 1 ≤ maxLen := by unfold maxLen; omega
   have h47 : (acc.length + 1) * 136 ≤ 140737488355328 := by omega
   have hbs : w.heap.size ≤ (w2.alloc (.cells #[.string y.p, .slice o1 y.xs.length c1, .slice o2 y.ys.length c2, .int .i64 y.st, .slice o3 y.fs.length c3, .string y.b, .int .i64 y.t, .int .i64 y.a, .int .i64 y.q] 82)).heap.size := Nat.le_trans HB2.out.size bw3.size
   have c0 : w2.cell? ⟨q2, 0, none⟩ = some (.string y.p) := (aA9 HX2.out 0).trans rfl
   have c1' : w2.cell? ⟨q2, 1, none⟩ = some (.slice o1 y.xs.length c1) := (aA9 HX2.out 1).trans rfl
   have c2' : w2.cell? ⟨q2, 2, none⟩ = some (.slice o2 y.ys.length c2) := (aA9 HX2.out 2).trans rfl
   have c3' : w2.cell? ⟨q2, 3, none⟩ = some (.int .i64 y.st) := (aA9 HX2.out 3).trans rfl
   have c4 : w2.cell? ⟨q2, 4, none⟩ = some (.slice o3 y.fs.length c3) := (aA9 HX2.out 4).trans rfl
   have c5 : w2.cell? ⟨q2, 5, none⟩ = some (.string y.b) := (aA9 HX2.out 5).trans rfl
   have c6 : w2.cell? ⟨q2, 6, none⟩ = some (.int .i64 y.t) := (aA9 HX2.out 6).trans rfl
   have c7 : w2.cell? ⟨q2, 7, none⟩ = some (.int .i64 y.a) := (aA9 HX2.out 7).trans rfl
   have c8 : w2.cell? ⟨q2, 8, none⟩ = some (.int .i64 y.q) := (aA9 HX2.out 8).trans rfl
   go_wp2_with (at_builtin; refine wpList_append_lies _ rfl _ _ 40 rfl w.heap.size 82 i0 (.agg #[.string ⟨#[]⟩, .slice none 0 0, .slice none 0 0, .int .i64 0, .slice none 0 0, .string ⟨#[]⟩, .int .i64 0, .int .i64 0, .int .i64 0]) 9 136 underlying40 hif hz0 hz1 hz2 rfl (by decide) _ _ _ rfl hown3 ⟨w2.heap.size, 0, none⟩ 1 1 [.string y.p, .slice o1 y.xs.length c1, .slice o2 y.ys.length c2, .int .i64 y.st, .slice o3 y.fs.length c3, .string y.b, .int .i64 y.t, .int .i64 y.a, .int .i64 y.q] rfl rfl hnews (by intro u hu; simp only [List.mem_cons, List.not_mem_nil, or_false] at hu; rcases hu with rfl | rfl | rfl | rfl | rfl | rfl | rfl | rfl | rfl <;> rfl) (by decide) h63 h47 hbs _ rfl ?_)
   intro gL cpL w4 hown4 hgrow hloc hltg
   have hrg4 := cH9 (aQ9 hrg2 bw3) hown3 hgrow
   have HB4 : Hid (RowKit.Below w.heap.size w w4) := (HB2.out.trans (bw3.mono HB2.out.size)).grown hgrow hbs (fun g hg => aB7 hown3 hg)
   have HO4 : Hid (w4.ownsRow w.heap.size 82 9 (.slice (some ⟨gL, 0, none⟩) (acc ++ [((y, .slice o1 y.xs.length c1, .slice o2 y.ys.length c2, .slice o3 y.fs.length c3) : KpD × Value × Value × Value)]).length cpL) (acc ++ [((y, .slice o1 y.xs.length c1, .slice o2 y.ys.length c2, .slice o3 y.fs.length c3) : KpD × Value × Value × Value)]).length ((acc ++ [((y, .slice o1 y.xs.length c1, .slice o2 y.ys.length c2, .slice o3 y.fs.length c3) : KpD × Value × Value × Value)]).flatMap kpC)) := by
    show World.ownsRow _ _ _ _ _ _ _
    rw [List.length_append, List.flatMap_append]
    exact hown4
   have HE4 : Hid (Value.slice (some ⟨gL, 0, none⟩) (acc.length + 1) cpL = .slice (some ⟨gL, 0, none⟩) (acc ++ [((y, .slice o1 y.xs.length c1, .slice o2 y.ys.length c2, .slice o3 y.fs.length c3) : KpD × Value × Value × Value)]).length cpL) := by show _ = _; rw [List.length_append]; rfl
   clear hown4 hgrow hloc hltg hown3 hnews h63 h47 hbs bw3 hrg2 HO2 HB2 HX2 c0 c1' c2' c3' c4 c5 c6 c7 c8
   go_wp2_with fail
   go_roundw
   case rel => exact ⟨_, cnt1, acc ++ [((y, .slice o1 y.xs.length c1, .slice o2 y.ys.length c2, .slice o3 y.fs.length c3) : KpD × Value × Value × Value)], gL, cpL, HE4.out, hrg4, HT.out.more HAP.out HXM.out HLX.out, HO4, HB4⟩
   case measure => rw [hrg4.left_eq, hrg.left_eq]; exact hlt
end Go.Proofs.YtejoifianjgefaaGreatDoor
namespace Go.Proofs.YtejoifianjgefaaGreatDoor
open Go.Proofs.Tryz
open Go.RowKit
open Go.Lib hiding intOf
theorem aJ2 {w W : World} {base B : Nat} {v1 v2 V V' VB : Value} {kv : Ks} {cs : Ts} {ws : List (Int × ByteArray)} {bl : Bs} {x : KpD × Value × Value × Value} (h : aA2 w base (aB4 v1 v2 V VB kv cs ws bl)) (hx : aA2 w B (kpR x)) (hold : ∀ r ∈ aB4 v1 v2 V VB kv cs ws bl, ∀ g, r.v.ownBlock = some g → g < B) (hB : base ≤ B)
  (hg : w.grownBy W V.ownBlock) (hrow : W.ownsRow base 82 9 V' (kv.length + 1) (kv.flatMap kpC ++ kpC x)) (hv : ∀ g, V'.ownBlock = some g → V.ownBlock = some g ∨ w.heap.size ≤ g) : aA2 W base (aB4 v1 v2 V' VB (kv ++ [x]) cs ws bl) := by
 have h1 : aA2 w base (aB4 v1 v2 V VB kv cs ws bl ++ kpR x) := by
  refine ⟨fun r hr => ?_, List.pairwise_append.2 ⟨h.apart, hx.apart, fun a ha b hb g a4 a5 => ?_⟩⟩
  ·rcases List.mem_append.1 hr with hr | hr
   ·exact h.own r hr
   ·exact aF5 (hx.own r hr) hB
  ·have e1 := hold a ha g a4
   have e2 := hx.ge hb a5
   omega
 obtain ⟨a0, a1⟩ : ∃ a0, a0 = [(⟨9, 1, v1, cs.length, cs.map Value.string⟩ : Rw), ⟨155, 2, v2, ws.length, aA1 ws⟩] := ⟨_, rfl⟩;obtain ⟨bn, a3⟩ : ∃ bn, bn = (⟨62, 4, VB, bl.length, aB1 bl⟩ : Rw) := ⟨_, rfl⟩
 have e0 : aB4 v1 v2 V VB kv cs ws bl = a0 ++ aH2 V kv :: (kv.flatMap kpR ++ [bn]) := by
  rw [a1, a3]
  simp [aB4, aC9]
 rw [e0] at h1
 have h2 : aA2 w base (a0 ++ aH2 V kv :: (kv.flatMap kpR ++ (kpR x ++ [bn]))) := by
  refine h1.perm ?_
  rw [List.append_assoc, List.cons_append, List.append_assoc]
  exact (List.perm_append_left_iff _).2 (List.Perm.cons _ ((List.perm_append_left_iff _).2 List.perm_append_comm))
 have a2 : (aH2 V' (kv ++ [x])).own W base := by
  unfold Rw.own aH2
  simpa using hrow
 have h3 := h2.grow hg a2 hv
 have e1 : aB4 v1 v2 V' VB (kv ++ [x]) cs ws bl = a0 ++ aH2 V' (kv ++ [x]) :: (kv.flatMap kpR ++ (kpR x ++ [bn])) := by
  rw [a1, a3]
  simp [aB4, aC9]
 rw [e1];exact h3
def aJ5 (v1 v2 VB : Value) (cs : Ts) (ws : List (Int × ByteArray)) (bl : Bs) : List Rw := [(⟨9, 1, v1, cs.length, cs.map Value.string⟩ : Rw), ⟨155, 2, v2, ws.length, aA1 ws⟩, ⟨62, 4, VB, bl.length, aB1 bl⟩]
theorem aJ3 {w : World} {base : Nat} {v1 v2 VB : Value} {cs : Ts} {ws : List (Int × ByteArray)} {bl : Bs} (h : aA2 w base (aJ5 v1 v2 VB cs ws bl)) : aA2 w base (aB4 v1 v2 (.slice none 0 0) VB [] cs ws bl) := by
 have h1 : aA2 w base (aJ5 v1 v2 VB cs ws bl ++ [⟨82, 9, .slice none 0 0, 0, []⟩]) := by
  refine ⟨fun r hr => ?_, List.pairwise_append.2 ⟨h.apart, List.pairwise_singleton _ _, fun a _ b hb g _ a0 => ?_⟩⟩
  ·rcases List.mem_append.1 hr with hr | hr
   ·exact h.own r hr
   ·rw [List.mem_singleton.1 hr]
    exact World.ownsRow_nil _ _ _ _
  ·rw [List.mem_singleton.1 hb] at a0
   cases a0
 refine h1.perm ?_;unfold aJ5 aB4;show List.Perm ([_, _] ++ [_] ++ [_]) ([_, _] ++ [_] ++ [_])
 rw [List.append_assoc, List.append_assoc];exact (List.perm_append_left_iff _).2 List.perm_append_comm
theorem cI0 {w : World} {base : Nat} {v1 v2 V VB : Value} {kv : Ks} {cs : Ts} {ws : List (Int × ByteArray)} {bl : Bs} (h : aA2 w base (aB4 v1 v2 V VB kv cs ws bl)) : aA2 w base (aJ5 v1 v2 VB cs ws bl) := by
 refine aA2.sub h ?_;unfold aJ5 aB4;show List.Sublist ([_, _] ++ [_]) _
 exact List.Sublist.append (List.sublist_append_left _ _) (List.Sublist.refl _)
theorem bC4 {w W : World} {base B : Nat} {v1 v2 u1 u2 V VB : Value} {kv : Ks} {cs cs2 : Ts} {ws ws2 : List (Int × ByteArray)} {bl : Bs} (h : aA2 w base (aB4 v1 v2 V VB kv cs ws bl)) (hb : Below w.heap.size w W) (hd : aF4 W B u1 cs2.length cs2 u2 ws2.length ws2) (hB : w.heap.size ≤ B) (hB2 : base ≤ B) : aA2 W base (aB4 u1 u2 V VB kv cs2 ws2 bl) := by
 have h1 : aA2 w base (aC9 V kv ++ [(⟨62, 4, VB, bl.length, aB1 bl⟩ : Rw)]) := by
  refine aA2.sub h ?_
  unfold aB4
  rw [List.append_assoc]
  exact List.sublist_append_right _ _
 have h2 := h1.more hb (aS6 hd) hB hB2;refine h2.perm (List.perm_append_comm.trans (List.Perm.of_eq ?_));unfold aB4;simp
theorem cB6 (o : Oa) (n c : Nat) (w : World) (hc : n ≤ c) (hn : n ≤ 1048576) (ho : o = none → n = 0 ∧ c = 0) :
  Calls prog 164 #[.slice o n c] w fun e w' => e = .returned (.slice o n n) ∧ w' = w := by
 cases o with
 | none =>
  obtain ⟨rfl, rfl⟩ := ho rfl;go_enter func164, ntmps164;go_wp2
  go_ret;exact ⟨rfl, rfl⟩
 | some a =>
  clear ho
  go_enter func164, ntmps164
  go_wp2
  go_ret
  exact ⟨by simp, rfl⟩
def cU1 : Value → Value
 | .slice o n _ => .slice o n n
 | v => v
def cX6 (v1 v2 V VB : Value) (kv : Ks) (nx sq : Int) (w : World) (e : Ending) (w' : World) : Prop := ∃ (c b n : Nat) (D : DataW Value), e = .returned (.pointer (some ⟨c, 0, none⟩)) ∧ w'.heap[c]? = some (.cells #[v1, v2, V, cU1 VB, .int .i64 nx, .int .i64 sq, .map (some b)] 143) ∧ aC0 w' b n D ∧ MapN D kv ∧ n ≤ kv.length ∧ w.heap.size ≤ c ∧ w.heap.size ≤ b ∧ Below w.heap.size w w'
theorem cI1 (v1 v2 V VB : Value) (kv : Ks) (s : ShD) (B : Nat) (w : World) (h : aD8 w B v1 v2 V VB kv s) (hz : aG1 s) (hab : ∀ x ∈ kv, 0 ≤ x.1.a ∧ x.1.a ≤ 1000) :
  Calls prog 105 #[.agg #[v1, v2, V, VB, .int .i64 s.nx, .int .i64 s.sq]] w fun e w' => cX6 v1 v2 V VB kv s.nx s.sq w e w' := by
 have d1 := hid hab;clear hab
 have b8 : Hid (∀ o n c, VB = .slice o n c → n ≤ c ∧ (o = none → n = 0 ∧ c = 0)) := fun o n c e => by
  rcases h.bans.2 with ⟨h1, h2⟩ | ⟨g, e5, e6, h1, _, _, h2, _⟩
  ·rw [h1] at e
   injection e with e1 e2 e3
   subst e1 e2 e3
   exact ⟨Nat.le_refl _, fun _ => ⟨rfl, rfl⟩⟩
  ·rw [h1] at e
   injection e with e1 e2 e3
   subst e1 e2 e3
   exact ⟨h2, fun h => nomatch h⟩
 obtain ⟨o1, c1, e1⟩ := aA0 h.disk.cells;obtain ⟨o2, c2, e2⟩ := aA0 h.disk.pend;obtain ⟨o3, c3, e3⟩ := aA0 h.kept.row;obtain ⟨o4, c4, e4⟩ := aA0 h.bans;subst e1 e2 e3 e4;obtain ⟨n1, a7⟩ := exq (s.cs.length);obtain ⟨n2, a8⟩ := exq (s.ws.length);obtain ⟨n3, a4⟩ := exq kv.length;obtain ⟨n4, a9⟩ := exq (s.bl.length);rw [← a7, ← a8, ← a4, ← a9] at h ⊢;have d2 : Hid (s.cs.length = n1 ∧ s.ws.length = n2 ∧ kv.length = n3 ∧ s.bl.length = n4) := ⟨a7.symm, a8.symm, a4.symm, a9.symm⟩;have e7 : Hid (kv.map (·.1) = s.ks) := h.2;have HZ := hid hz;have e8 : n1 ≤ 1048576 := by rw [a7]; exact hz.c
 have e9 : n2 ≤ 1048576 := by rw [a8]; exact hz.w
 have d3 : n3 ≤ 1048576 := by rw [a4, ← List.length_map (f := (·.1)), h.2]; exact hz.k
 have d4 : n4 ≤ 1048576 := by rw [a9]; exact hz.b
 have f0 : Hid (∀ W, Bw w W → aD8 W B (.slice o1 n1 c1) (.slice o2 n2 c2) (.slice o3 n3 c3) (.slice o4 n4 c4) kv s) := fun W hb => h.below hb
 have d5 : Hid (∀ W, Bw w W → aB9 W B (.slice o3 n3 c3) kv) := fun W hb => (h.below hb).kept
 have d6 : Hid (kv.length = n3) := a4.symm;clear a7 a8 a4 a9 h hz;have b9 : Hid (n4 ≤ c4 ∧ (o4 = none → n4 = 0 ∧ c4 = 0)) := b8.out o4 n4 c4 (by rw [d2.out.2.2.2]);clear b8;have K0 := jnil w;go_enter func105, ntmps105;go_upto_region 1 with fail
 obtain ⟨q1, b3⟩ := exq (w.heap.size);obtain ⟨w1, a5⟩ := exq (w.alloc (.cells #[.slice o1 n1 c1, .slice o2 n2 c2, .slice o3 n3 c3, .slice o4 n4 c4, .int .i64 s.nx, .int .i64 s.sq] 43));have b4 := b3.symm;rw [← a5]; try rw [← b3];have d7 := hsa a5 b4;have bw := bal a5;have K1 := ja K0 a5 b4;clear bw a5 b4 K0;clear d7 b3;have a0 := c6c (jb K1 0 rfl);go_wp2_with fail
 refine (cB6 o4 n4 c4 _ b9.out.1 d4 b9.out.2).mono ?_;rintro e w2 ⟨rfl, c0⟩;have bw : Below w1.heap.size (w1) w2 := by rw [c0]; exact Below.refl _ _
 clear c0;have K2 := jw K1 bw;clear bw K1;clear a0;have a0 := c6f (jb K2 0 rfl);go_upto_region 2 with fail
 obtain ⟨w3, b5⟩ := exq (w2.setCell ⟨q1, 3, none⟩ (.slice o4 n4 n4));rw [← b5];have K3 := js K2 0 b5;clear b5 K2;clear a0;go_upto_region 2 with fail
 refine wp_region_held_drew (S := fun W => W.heap[q1]? = some (.cells #[.slice o1 n1 c1, .slice o2 n2 c2, .slice o3 n3 c3, .slice o4 n4 n4, .int .i64 s.nx, .int .i64 s.sq] 43)) (by kernel_rfl) (jb K3 0 rfl) (fun _ => ?_)
 obtain ⟨w4, hX⟩ := exq w3.drew;have bw := bdr hX;rw [← hX];have K4 := jw K3 bw;have b0 := (jb K4 0 rfl);clear bw hX K3;refine tkL 0 (.agg #[.slice o1 n1 c1, .slice o2 n2 c2, .slice o3 n3 c3, .slice o4 n4 n4, .int .i64 s.nx, .int .i64 s.sq]) 7 rfl rfl (Or.inl ⟨by rfl, by intro W hW; have a1 := hW; have y0 := c6c a1; go_simp⟩) b0 ?_;go_frame;refine tkP 1 (.pointer (some ⟨q1, 2, none⟩)) 8 rfl rfl b0 ?_;go_frame;refine tkL 2 (.slice o3 n3 c3) 9 rfl rfl (Or.inl ⟨by rfl, by intro W hW; have a1 := hW; have y2 := c6c a1; go_simp⟩) b0 ?_;go_frame;refine rd1 3 rfl (fun K hK => ?_)
 go_simp;have a6 := K4.hb.size;refine (bI4 _ kv B _ (d5.out _ K4.hb) (by rw [d6.out]; exact d3) d1.out).mono ?_;rintro e w5 ⟨bk, nk, Dk, rfl, c5, c6, c7, c8, bw⟩;have K5 := jw K4 bw;clear bw K4;have b6 : Hid (w.heap.size ≤ bk) := Nat.le_trans a6 c8;have a2 : Hid (aC0 w5 bk nk (Dk)) := c6;have d8 := hid c7;have d9 := hid c5;clear c6 c7 c5 c8 a6;have b7 := (jb K5 0 rfl);refine hK.out _ _ b7 (fun _ => ?_)
 clear hK K b0;refine tkP 4 (.agg #[.slice o1 n1 c1, .slice o2 n2 c2, .slice o3 n3 c3, .slice o4 n4 n4, .int .i64 s.nx, .int .i64 s.sq, .map (some bk)]) 11 rfl rfl b7 ?_;go_frame;refine rd1 5 rfl (fun K hK => ?_)
 go_simp;have bw : Below w5.heap.size w5 (w5.alloc (.cells #[.slice o1 n1 c1, .slice o2 n2 c2, .slice o3 n3 c3, .slice o4 n4 n4, .int .i64 s.nx, .int .i64 s.sq, .map (some bk)] 143)) := (Below.refl _ _).alloc (Nat.le_refl _) _;have c9 := aA6 (jb K5 0 rfl) bw;refine hK.out _ _ c9 (fun _ => ?_)
 clear hK K c9 bw b7;obtain ⟨q2, b1⟩ := exq (w5.heap.size);obtain ⟨w6, b2⟩ := exq ((w5.alloc (.cells #[.slice o1 n1 c1, .slice o2 n2 c2, .slice o3 n3 c3, .slice o4 n4 n4, .int .i64 s.nx, .int .i64 s.sq, .map (some bk)] 143)));rw [← b1, ← b2];have bw := bal b2;have K6 := ja K5 b2 b1.symm;have a3 : Hid (aC0 w6 bk nk (Dk)) := aF0 a2.out bw;have e0 : Hid (w.heap.size ≤ q2) := by show _ ≤ _; rw [b1]; exact K5.hb.size
 have d0 := (jb K6 1 rfl);clear bw b2 b1 K5;refine tkP 6 (.pointer (some ⟨q2, 0, none⟩)) 2 rfl rfl d0 ?_;go_frame;clear d0;refine wdn ?_;go_wp2_with fail
 go_ret;exact ⟨q2, bk, nk, Dk, rfl, (jb K6 0 rfl), a3.out, d8.out, d9.out, e0.out, b6.out, K6.hb⟩
def NoTy (rs : List Rw) : Prop := ∀ T, T ≠ 9 → T ≠ 155 → T ≠ 82 → T ≠ 62 → T ≠ 184 → ∀ r ∈ rs, T ≠ r.T
theorem aG6 {v1 v2 V VB : Value} {kv : Ks} {cs : Ts} {ws : List (Int × ByteArray)} {bl : Bs} : NoTy (aB4 v1 v2 V VB kv cs ws bl) := fun T h1 h2 h3 h4 h5 r hr => by
 unfold aB4 at hr
 rcases List.mem_append.1 hr with hr | hr
 ·rcases List.mem_append.1 hr with hr | hr
  ·simp only [List.mem_cons, List.not_mem_nil, or_false] at hr
   rcases hr with rfl | rfl
   · exact h1
   · exact h2
  ·rcases bB9 hr with e | e | e
   · rw [e]; exact h3
   · rw [e]; exact h1
   · rw [e]; exact h5
 · rw [List.mem_singleton.1 hr]; exact h4
theorem bF0 {v1 v2 V VB : Value} {kv : Ks} {cs : Ts} {ws : List (Int × ByteArray)} {bl : Bs} : ((aJ5 v1 v2 VB cs ws bl ++ kv.flatMap kpR) ++ [aH2 V kv]).Perm (aB4 v1 v2 V VB kv cs ws bl) := by
 unfold aJ5 aB4 aC9;simp only [List.cons_append, List.nil_append]
 refine List.Perm.cons _ (List.Perm.cons _ ?_);refine (List.perm_append_singleton _ _).symm.trans ?_;rw [List.append_assoc];exact List.perm_middle
theorem cE1 {v1 v2 VB : Value} {kv : Ks} {cs : Ts} {ws : List (Int × ByteArray)} {bl : Bs} : NoTy (aJ5 v1 v2 VB cs ws bl ++ kv.flatMap kpR) := fun T h1 h2 h3 h4 h5 r hr => aG6 T h1 h2 h3 h4 h5 r ((bF0 (V := .slice none 0 0)).mem_iff.1 (List.mem_append_left _ hr))
theorem cM8 {w w' : World} {B : Nat} {v1 v2 VB V : Value} {kv kvt : Ks} {cs : Ts} {ws : List (Int × ByteArray)} {bl : Bs} (h : aA2 w B (aJ5 v1 v2 VB cs ws bl ++ kv.flatMap kpR)) (hb : Below w.heap.size w w') (hp : kvt.Perm kv) (ho : w'.ownsRow w.heap.size 82 9 V kvt.length (kvt.flatMap kpC)) (hB : B ≤ w.heap.size) : aA2 w' B (aB4 v1 v2 V VB kvt cs ws bl) := by
 have h1 : aA2 w B (aJ5 v1 v2 VB cs ws bl ++ kvt.flatMap kpR) := h.perm (List.Perm.append_left _ (hp.symm.flatMap_right kpR));have h2 := h1.more hb (aA2.one (r := aH2 V kvt) ho) (Nat.le_refl _) hB;exact h2.perm bF0
theorem cI2 {cs : Ts} {ws : List (Int × ByteArray)} {kv kvt : Ks} {bl : Bs} {nx sq : Int} (h : aG1 ⟨cs, ws, kv.map (·.1), bl, nx, sq⟩) (hp : kvt.Perm kv) : aG1 ⟨cs, ws, kvt.map (·.1), bl, nx, sq⟩ :=
 ⟨h.c, h.w, by have h1 := h.k; dsimp only at h1 ⊢; rw [List.length_map] at h1 ⊢; rw [hp.length_eq]; exact h1, h.b, h.ct, h.wt, fun k hk => h.ks k ((hp.map _).mem_iff.1 hk), h.bt⟩
def cQ1 (c : Nat) (kv : Ks) (cs : Ts) (ws : List (Int × ByteArray)) (bl : Bs) (nx sq : Int) (w : World) (e : Ending) (w' : World) : Prop := ∃ (kvt : Ks) (va vb vc vd : Value) (kvc : Ks), kvt.Perm kv ∧ kvt.Pairwise (fun x y => x.1.q ≤ y.1.q) ∧ e = .returned (.agg #[va, vb, vc, vd, .int .i64 nx, .int .i64 sq]) ∧ aD8 w' w.heap.size va vb vc vd kvc (⟨cs, ws, kvt.map (·.1), bl, nx, sq⟩ : ShD) ∧ w.grownBy w' (some c)
end Go.Proofs.YtejoifianjgefaaGreatDoor
namespace Go.Proofs
open Go.Shelf
def Tryz.lays166_ren : Go.Shelf.Ren := ⟨fun | 166 => 175 | 240 => 209 | 276 => 242 | n => n, fun | 0 => 0 | 3 => 3 | 4 => 4 | 5 => 5 | 9 => 9 | 20 => 20 | 37 => 177 | 70 => 190 | 72 => 192 | 75 => 194 | 80 => 197 | 164 => 251 | n => n, fun | n => n⟩
theorem Tryz.lays166 : Go.Proofs.Lays.n166 prog Tryz.lays166_ren := {
  mixed := by kernel_rfl
  f166 := func175.trans (congrArg some (by kernel_rfl))
  f240 := func209.trans (congrArg some (by kernel_rfl))
  f276 := func242.trans (congrArg some (by kernel_rfl))
  t0 := underlying0
  a0 := isAgg0
  z0 := sizeOf0
  v0 := zeroValue0
  t3 := underlying3
  a3 := isAgg3
  z3 := sizeOf3
  v3 := zeroValue3
  t4 := underlying4
  a4 := isAgg4
  z4 := sizeOf4
  v4 := zeroValue4
  t9 := underlying9
  a9 := isAgg9
  z9 := sizeOf9
  v9 := zeroValue9
  t20 := underlying20
  a20 := isAgg20
  z20 := sizeOf20
  v20 := zeroValue20
  t37 := underlying177
  a37 := isAgg177
  z37 := sizeOf177
  v37 := zeroValue177
  t70 := underlying190
  a70 := isAgg190
  z70 := sizeOf190
  v70 := zeroValue190
  t72 := underlying192
  a72 := isAgg192
  z72 := sizeOf192
  v72 := zeroValue192
  t75 := underlying194
  a75 := isAgg194
  z75 := sizeOf194
  v75 := zeroValue194
  t164 := underlying251
  a164 := isAgg251
  z164 := sizeOf251
  v164 := zeroValue251 }
theorem Tryz.Builder_Extra_166 : Builder.Extra prog Tryz.lays166_ren := {
  sizeBuilder := by kernel_rfl
  liesBuilder := by kernel_rfl
  t5 := underlying5
  a5 := isAgg5
  z5 := sizeOf5
  v5 := zeroValue5
  infoByte := by kernel_rfl
  cellsByte := by kernel_rfl
  sizeByte := by kernel_rfl
  neB5 := by decide }
open Go.RowKit in
theorem Tryz.Builder_WriteString (B b : Nat) (bs : List Value) (s : ByteArray) (w : World) (h : Lib.IsBuilder 192 5 B b bs w) (hlen : bs.length + s.size ≤ 140737488355328) (hBw : B ≤ w.heap.size) :
    Calls prog 175 #[.pointer (some ⟨b, 0, none⟩), .string s] w fun e w' => e = .returned (.tuple #[.int .i64 s.size, .nilIface]) ∧ (Lib.BuilderAt 192 5 B b (.pointer (some ⟨b, 0, none⟩)) (bs ++ Lib.strCells s) w' ∧ Below B w w') := Any.Builder_WriteString Tryz.lays166 Tryz.Builder_Extra_166 B b bs s w h hlen hBw
end Go.Proofs
namespace Go.Proofs.YtejoifianjgefaaGreatDoor
open Go.Proofs.Tryz
open Go.RowKit
open Go.Lib hiding intOf
theorem bJ5 (a b : Tx) : strCells (a ++ b) = strCells a ++ strCells b := by simp [strCells]
def aG7 (B : Nat) (t : Tx) (w : World) : Prop := IsBuilder 192 5 B B (strCells t) w
theorem aQ1 (B : Nat) (t s : Tx) (w : World) (h : aG7 B t w) (hlen : t.size + s.size ≤ 140737488355328) (hBw : B ≤ w.heap.size) :
  Calls prog 175 #[.pointer (some ⟨B, 0, none⟩), .string s] w fun e w' => e = .returned (.tuple #[.int .i64 s.size, .nilIface]) ∧ aG7 B (t ++ s) w' ∧ Below B w w' := by
 refine (Tryz.Builder_WriteString B B _ s w h (by rw [strCells_length]; exact hlen) hBw).mono ?_;rintro e w' ⟨rfl, h1, h2⟩;exact ⟨rfl, .inr (by rw [bJ5]; exact h1), h2⟩
theorem cE2 (B : Nat) (t : Tx) (w : World) (h : aG7 B t w) (hBw : B ≤ w.heap.size) :
  Calls prog 178 #[.pointer (some ⟨B, 0, none⟩)] w fun e w' => e = .returned (.string t) ∧ Below B w w' :=
 Tryz.Builder_String_any B B t.data.toList w h hBw
theorem cE3 (v : Value) (n base : Nat) (fs : Fs) (w : World) (hv : aB2 w base v n fs) (hn : n ≤ 1073741824) (hsz : (aC5 fs).size ≤ 1099511627776) :
  Calls prog 267 #[v] w fun e w' => aD2 (aC5 fs) w e w' := by
 have hl := hv.len;obtain ⟨oa, d1, rfl, a6⟩ := hv.slice;have b1 := hid a6
 have HZ : Hid (∀ k, k < n → (ftTo fs (k + 1)).size ≤ 1099511627776) := fun k hk => by
  have := bS5 fs (k + 1) (fs.length - (k + 1))
  rw [show k + 1 + (fs.length - (k + 1)) = fs.length by omega] at this
  exact Nat.le_trans this hsz
 have HF : Hid (aC5 fs = ftTo fs n) := by show _ = _; unfold aC5; rw [hl]
 have H0 : Hid (aG7 w.heap.size ⟨#[]⟩ (w.alloc (.cells #[.pointer none, .slice none 0 0] 192))) := fresh_isBuilder 192 5 w;clear hsz hv a6;go_enter func267, ntmps267;go_wp2
 go_loopw [7] (fun i wr => ∃ k : Nat, k ≤ n ∧ i = .int .i64 (k : Int) ∧ Hid (aG7 w.heap.size (ftTo fs k) wr) ∧ Bw w wr) (fun i _ => n - (intOf i).toNat)
 case atStart => exact ⟨0, Nat.zero_le _, rfl, H0, (Below.refl _ _).alloc (Nat.le_refl _) _⟩
 case round =>
  obtain ⟨k, hk, rfl, hI, a4⟩ := hrel;by_cases hlt : k < n
  rotate_left
  ·obtain rfl : k = n := by omega
   go_wp2_with fail
   refine (cE2 w.heap.size _ _ hI.out a4.size).mono ?_;rintro e w1 ⟨rfl, a7⟩;have a0 := a4.trans a7;clear a7 a4 hI;go_wp2
   go_ret;exact aD2.of HF.out.symm a0
  have c5 : (k : Int) < (n : Int) := by omega
  obtain ⟨g, rfl, a8⟩ := b1.out k hlt;obtain ⟨nm, a9⟩ := exq (aC8 fs k);obtain ⟨vl, b0⟩ := exq (aH1 fs k);obtain ⟨a1, a2⟩ := exq (ftTo fs k)
  have HR : Hid (∀ W, Bw w W → W.cell? ⟨g, k * 2, none⟩ = some (.string nm) ∧ W.cell? ⟨g, k * 2 + 1, none⟩ = some (.string vl)) := fun W h => by
   rw [a9, b0]; exact ⟨(a8.below h a8.lt).name k hlt, (a8.below h a8.lt).val k hlt⟩
  have hz := HZ.out k hlt;rw [aZ1] at hz
  have HN : Hid (a1 ++ nm ++ ⟨#[58, 32]⟩ ++ vl ++ ⟨#[13, 10]⟩ = ftTo fs (k + 1)) := by
   show _ = _
   rw [ftTo, ← a2, a9, b0]
  rw [← a2, ← a9, ← b0] at hz;rw [← a2] at hI;have e1 : (⟨#[58, 32]⟩ : Tx).size = 2 := rfl;have e2 : (⟨#[13, 10]⟩ : Tx).size = 2 := rfl;have q1 : a1.size + nm.size ≤ 140737488355328 := by omega
  have q2 : (a1 ++ nm).size + (⟨#[58, 32]⟩ : Tx).size ≤ 140737488355328 := by rw [ByteArray.size_append]; omega
  have q3 : (a1 ++ nm ++ ⟨#[58, 32]⟩).size + vl.size ≤ 140737488355328 := by rw [ByteArray.size_append, ByteArray.size_append]; omega
  have q4 : (a1 ++ nm ++ ⟨#[58, 32]⟩ ++ vl).size + (⟨#[13, 10]⟩ : Tx).size ≤ 140737488355328 := by rw [ByteArray.size_append, ByteArray.size_append, ByteArray.size_append]; omega
  obtain ⟨c1, c2⟩ := HR.out wr a4;clear a9 b0 a2 hz a8;go_wp2_with fail
  refine (aQ1 w.heap.size a1 nm _ hI.out q1 a4.size).mono ?_;rintro e w1 ⟨rfl, b4, a7⟩;have a0 := a4.trans a7;have b5 := hid b4;obtain ⟨c6, c7⟩ := HR.out w1 a0;clear c1 c2 a7 b4 hI a4;go_wp2_with fail
  refine (aQ1 w.heap.size (a1 ++ nm) ⟨#[58, 32]⟩ _ b5.out q2 a0.size).mono ?_;rintro e w2 ⟨rfl, b6, b7⟩;have a3 := a0.trans b7;have b8 := hid b6;obtain ⟨c8, c9⟩ := HR.out w2 a3;clear c6 c7 b7 b6 b5 a0;go_wp2_with fail
  refine (aQ1 w.heap.size (a1 ++ nm ++ ⟨#[58, 32]⟩) vl _ b8.out q3 a3.size).mono ?_;rintro e w3 ⟨rfl, b9, c0⟩;have a5 := a3.trans c0;have c3 := hid b9;clear c8 c9 c0 b9 b8 a3;go_wp2_with fail
  refine (aQ1 w.heap.size (a1 ++ nm ++ ⟨#[58, 32]⟩ ++ vl) ⟨#[13, 10]⟩ _ c3.out q4 a5.size).mono ?_;rintro e w4 ⟨rfl, b2, c4⟩;have b3 := a5.trans c4;rw [HN.out] at b2;have d0 := hid b2;clear c4 b2 c3 a5;go_wp2
  go_roundw
  case rel => exact ⟨k + 1, by omega, by go_num, d0, b3⟩
  case measure => simp [intOf]; omega
def bJ6 (tell : Bool) (fs : Fs) (b : Tx) : ByteArray :=
 (if tell = true then aC5 fs ++ (⟨#[]⟩ ++ clen ++ ⟨#[58, 32]⟩ ++ aF1 b.size ++ ⟨#[13, 10]⟩) else aC5 fs) ++ ⟨#[13, 10]⟩ ++ b
theorem bM9 (a b : Tx) : aC5 [(a, b)] = ⟨#[]⟩ ++ a ++ ⟨#[58, 32]⟩ ++ b ++ ⟨#[13, 10]⟩ := rfl
theorem cU2 {w W : World} {base : Nat} {a b : ByteArray} (h : W.heap[w.heap.size]? = some (.cells #[.string a, .string b] 184)) (hb : base ≤ w.heap.size) (hl : w.heap.size < W.heap.size) : aB2 W base (.slice (some ⟨w.heap.size, 0, none⟩) 1 1) 1 [(a, b)] := by
 refine .inr ⟨w.heap.size, 1, rfl, by omega, ⟨rfl, hb, hl, Nat.le_refl _, by unfold maxLen; omega, _, h, rfl, ?_⟩⟩;intro i hi;obtain rfl : i = 0 := by omega
 exact ⟨rfl, rfl⟩
theorem cM9 (st : Int) (fs : Fs) (b : Tx) : ⟨#[72, 84, 84, 80, 47, 49, 46, 49, 32]⟩ ++ aF1 st.toNat ++ ⟨#[32]⟩ ++ ⟨#[46]⟩ ++ ⟨#[13, 10]⟩ ++ bJ6 true fs b = aT5 st fs b := by
 apply bT0
 unfold aT5 bJ6;simp [bs, bG1, cJ9, lnE2, cS1, clen]
theorem cI3 (tell : Bool) {fs : Fs} (hf : aK5 fs) {b : ByteArray} (hb : b.size ≤ 120) : (bJ6 tell fs b).size ≤ 1000 := by
 have h1 := bE8 hf;have h2 := aE1 b.size;have e1 : (⟨#[]⟩ : Tx).size = 0 := rfl;have e2 : clen.size = 14 := rfl;have e3 : (⟨#[58, 32]⟩ : Tx).size = 2 := rfl;have e4 : (⟨#[13, 10]⟩ : Tx).size = 2 := rfl;unfold bJ6;cases tell
 ·rw [if_neg (by decide)]; simp only [ByteArray.size_append]; omega
 rw [if_pos rfl]; simp only [ByteArray.size_append]; omega
theorem bW5 (v : Value) (b : Tx) (tell : Bool) (n base : Nat) (fs : Fs) (w : World) (hv : aB2 w base v n fs) (hn : n ≤ 1073741824) (hf : aK5 fs) (hb : b.size ≤ 120) (htab : aI5 w) :
  Calls prog 244 #[.agg #[v, .string b], .bool tell] w fun e w' => aD2 (bJ6 tell fs b) w e w' := by
 obtain ⟨oa, a0, rfl, _⟩ := hv.slice;obtain ⟨r, hr⟩ := exq (w.heap.size)
 have HR : Hid (∀ W, Below (w.alloc (.cells #[.slice oa n a0, .string b] 235)).heap.size (w.alloc (.cells #[.slice oa n a0, .string b] 235)) W → (W.cell? ⟨r, 0, none⟩ = some (.slice oa n a0) ∧ W.cell? ⟨r, 1, none⟩ = some (.string b)) ∧ aB2 W base (.slice oa n a0) n fs ∧ Bw w W) := fun W h => by
  have hh := aT6 h
  rw [← hr] at hh
  exact ⟨⟨by simp [World.cell?, hh], by simp [World.cell?, hh]⟩, hv.below (aF8 h), aF8 h⟩
 obtain ⟨_, a8, _⟩ := HR.out _ (Below.refl _ _);have b7 := bE8 hf;have HT : Hid ((aC5 fs).size ≤ 1099511627776) := by show _ ≤ _; omega
 have a4 := hid htab;go_enter func244, ntmps244;go_wp2_with fail
 refine (cE3 _ n base fs _ a8 hn HT.out).mono ?_;rintro e w1 ⟨rfl, a5⟩;rw [← hr];obtain ⟨⟨c0, c1⟩, _, a1⟩ := HR.out w1 a5;have a9 : Hid (Below (w.alloc (.cells #[.slice oa n a0, .string b] 235)).heap.size (w.alloc (.cells #[.slice oa n a0, .string b] 235)) w1) := a5;obtain ⟨ft, a6⟩ := exq (aC5 fs);rw [← a6] at b7 ⊢;have b0 : Hid (aC5 fs = ft) := a6.symm;clear hv a8 a5 hr hf htab a6 HT;have e2 : (⟨#[13, 10]⟩ : Tx).size = 2 := rfl;cases tell
 ·have HE : Hid (ft ++ ⟨#[13, 10]⟩ ++ b = bJ6 false fs b) := by
   show _ = _
   unfold bJ6
   rw [if_neg (by decide), b0.out]
  have q1 : ¬ 9223372036854775807 < ft.size + 2 := by omega
  have q2 : ¬ 9223372036854775807 < ft.size + 2 + b.size := by omega
  go_wp2_with fail
  go_ret;exact aD2.of HE.out a1
 have b1 : aI5 w1 := a4.out.below a1;have b8 := aE1 b.size;obtain ⟨nt, a3⟩ := exq (aF1 b.size)
 have b9 : Hid (aD1 (b.size : Int) = nt) := by
  show _ = _
  unfold aD1
  rw [if_neg (by omega), a3]
  rfl
 rw [← a3] at b8;obtain ⟨lt, a2⟩ : ∃ x, x = aC5 [((⟨#[99, 111, 110, 116, 101, 110, 116, 45, 108, 101, 110, 103, 116, 104]⟩ : Tx), nt)] := ⟨_, rfl⟩
 have c5 : lt.size ≤ 40 := by
  rw [a2, bM9]
  have k1 : (⟨#[]⟩ : Tx).size = 0 := rfl
  have k2 : (⟨#[99, 111, 110, 116, 101, 110, 116, 45, 108, 101, 110, 103, 116, 104]⟩ : Tx).size = 14 := rfl
  have k3 : (⟨#[58, 32]⟩ : Tx).size = 2 := rfl
  simp only [ByteArray.size_append]
  omega
 have c2 : Hid (aC5 [((⟨#[99, 111, 110, 116, 101, 110, 116, 45, 108, 101, 110, 103, 116, 104]⟩ : Tx), nt)] = lt) := a2.symm;have c3 : Hid ((aC5 [((⟨#[99, 111, 110, 116, 101, 110, 116, 45, 108, 101, 110, 103, 116, 104]⟩ : Tx), nt)]).size ≤ 1099511627776) := by show _ ≤ _; rw [← a2]; omega
 have HE : Hid (ft ++ lt ++ ⟨#[13, 10]⟩ ++ b = bJ6 true fs b) := by
  show _ = _
  unfold bJ6
  rw [if_pos rfl, b0.out, ← a3, a2, bM9]
  rfl
 clear a3 a2;go_wp2_with fail
 refine (aI6 (b.size : Int) _ (by omega) (by omega) b1).mono ?_;rintro e w2 ⟨rfl, b2⟩;rw [b9.out];clear c0 c1 b1;have b3 : Hid (Below (w.alloc (.cells #[.slice oa n a0, .string b] 235)).heap.size (w.alloc (.cells #[.slice oa n a0, .string b] 235)) w2) := a9.out.trans (b2.mono a9.out.size);clear b2 a1;obtain ⟨h3, c4⟩ := exq (w2.heap.size);have b4 : aB2 (w2.alloc (.cells #[.string ⟨#[99, 111, 110, 116, 101, 110, 116, 45, 108, 101, 110, 103, 116, 104]⟩, .string nt] 184)) w2.heap.size (.slice (some ⟨w2.heap.size, 0, none⟩) 1 1) 1 [(⟨#[99, 111, 110, 116, 101, 110, 116, 45, 108, 101, 110, 103, 116, 104]⟩, nt)] := cU2 (heap_alloc_new w2 _) (Nat.le_refl _) (by simp);have b5 : Hid (Below (w.alloc (.cells #[.slice oa n a0, .string b] 235)).heap.size (w.alloc (.cells #[.slice oa n a0, .string b] 235)) (w2.alloc (.cells #[.string ⟨#[99, 111, 110, 116, 101, 110, 116, 45, 108, 101, 110, 103, 116, 104]⟩, .string nt] 184))) := b3.out.alloc b3.out.size _;go_wp2_with fail
 refine (cE3 _ 1 w2.heap.size [(⟨#[99, 111, 110, 116, 101, 110, 116, 45, 108, 101, 110, 103, 116, 104]⟩, nt)] _ b4 (by omega) c3.out).mono ?_;rintro e w4 ⟨rfl, b6⟩;rw [c2.out];obtain ⟨⟨d0, d1⟩, _, a7⟩ := HR.out w4 (b5.out.trans (b6.mono b5.out.size));clear b4 b6 c4;have q1 : ¬ 9223372036854775807 < ft.size + lt.size := by omega
 have q2 : ¬ 9223372036854775807 < ft.size + lt.size + 2 := by omega
 have q3 : ¬ 9223372036854775807 < ft.size + lt.size + 2 + b.size := by omega
 go_wp2_with fail
 go_ret;exact aD2.of HE.out a7
theorem bW6 (st : Int) (v : Value) (b : Tx) (n base : Nat) (fs : Fs) (w : World) (hv : aB2 w base v n fs) (hn : n ≤ 1073741824) (hsz : aK2 n fs) (hb : b.size ≤ maxLen) (htab : aI5 w) :
  Calls prog 211 #[.agg #[v, .string b, .int .i64 st]] w fun e w' => bT1 (aM3 st fs b) (aT5 st fs b) w e w' := by
 obtain ⟨oa, a0, rfl, _⟩ := hv.slice;obtain ⟨r, hr⟩ := exq (w.heap.size)
 have HR : Hid (∀ W, Below (w.alloc (.cells #[.slice oa n a0, .string b, .int .i64 st] 237)).heap.size (w.alloc (.cells #[.slice oa n a0, .string b, .int .i64 st] 237)) W → (W.cell? ⟨r, 0, none⟩ = some (.slice oa n a0) ∧ W.cell? ⟨r, 1, none⟩ = some (.string b) ∧ W.cell? ⟨r, 2, none⟩ = some (.int .i64 st)) ∧ aB2 W base (.slice oa n a0) n fs ∧ Bw w W) := fun W h => by
  have hh := aT6 h
  rw [← hr] at hh
  exact ⟨⟨by simp [World.cell?, hh], by simp [World.cell?, hh], by simp [World.cell?, hh]⟩, hv.below (aF8 h), aF8 h⟩
 obtain ⟨_, b2, _⟩ := HR.out _ (Below.refl _ _);have a2 := hid htab;go_enter func211, ntmps211;go_wp2_with fail
 refine (bM5 st _ b n base fs _ b2 hn hsz hb).mono ?_;rintro e w1 ⟨b1, rfl, a4, a5⟩;rw [← hr];obtain ⟨⟨c0, c1, c2⟩, _, a1⟩ := HR.out w1 a5;clear hv b2 hsz hb htab hr;cases b1
 ·have HF : Hid (¬ aM3 st fs b) := fun h => by have := a4.2 h; cases this
  clear a4 a5;go_wp2_with fail
  go_ret;exact ⟨_, rfl, fun h => absurd h HF.out, fun _ => rfl, a1⟩
 have HY : Hid (aM3 st fs b) := a4.1 rfl;have c6 := HY.out.1;have b3 : b.size ≤ 120 := HY.out.2.2;have c3 := aE1 st.toNat;obtain ⟨nk, a6⟩ := exq (aF1 st.toNat);rw [← a6] at c3
 have c4 : Hid (aD1 st = nk) := by
  show _ = _
  unfold aD1
  rw [if_neg (by omega), a6]
 have c5 := cI3 true HY.out.2.1 b3;obtain ⟨rt, a7⟩ := exq (bJ6 true fs b);rw [← a7] at c5;have b4 : Hid (bJ6 true fs b = rt) := a7.symm
 have HE : Hid (⟨#[72, 84, 84, 80, 47, 49, 46, 49, 32]⟩ ++ nk ++ ⟨#[32]⟩ ++ ⟨#[46]⟩ ++ ⟨#[13, 10]⟩ ++ rt = aT5 st fs b) := by
  show _ = _
  rw [a6, ← b4.out]
  exact cM9 st fs b
 have a8 : Hid (Below (w.alloc (.cells #[.slice oa n a0, .string b, .int .i64 st] 237)).heap.size (w.alloc (.cells #[.slice oa n a0, .string b, .int .i64 st] 237)) w1) := a5;have b5 : aI5 w1 := a2.out.below a1;clear a4 a5 a6 a7 a1;have e1 : (⟨#[32]⟩ : Tx).size = 1 := rfl;have e2 : (⟨#[72, 84, 84, 80, 47, 49, 46, 49, 32]⟩ : Tx).size = 9 := rfl;have e3 : (⟨#[13, 10]⟩ : Tx).size = 2 := rfl;have e4 : (⟨#[46]⟩ : Tx).size = 1 := rfl;have q1 : ¬ 9223372036854775807 < 9 + nk.size := by omega
 have q2 : ¬ 9223372036854775807 < 9 + nk.size + 1 := by omega
 have q3 : ¬ 9223372036854775807 < 9 + nk.size + 1 + 1 := by omega
 have q4 : ¬ 9223372036854775807 < 9 + nk.size + 1 + 1 + 2 := by omega
 have q5 : ¬ 9223372036854775807 < 9 + nk.size + 1 + 1 + 2 + rt.size := by omega
 go_wp2_with fail
 refine (aI6 st _ (by omega) (by omega) b5).mono ?_;rintro e w2 ⟨rfl, b6⟩;rw [c4.out];have a9 : Hid (Below (w.alloc (.cells #[.slice oa n a0, .string b, .int .i64 st] 237)).heap.size (w.alloc (.cells #[.slice oa n a0, .string b, .int .i64 st] 237)) w2) := a8.out.trans (b6.mono a8.out.size);obtain ⟨⟨d0, d1, d2⟩, b7, a3⟩ := HR.out w2 a9.out;have b8 : aI5 w2 := a2.out.below a3;have hF := HY.out.2.1;clear c0 c1 c2 a8 b6 b5 a3;go_wp2_with fail
 refine (bW5 _ _ true n base fs _ b7 hn hF b3 b8).mono ?_;rintro e w3 ⟨rfl, b9⟩;rw [b4.out];obtain ⟨_, _, b0⟩ := HR.out w3 (a9.out.trans (b9.mono a9.out.size));clear b9 b7 b8 d0 d1 d2 hF;go_wp2_with fail
 go_ret;exact ⟨_, rfl, fun _ => HE.out, fun h => absurd HY.out h, b0⟩
theorem bE5 (m : Int) (v : Value) (b : Tx) (n base : Nat) (fs : Fs) (w : World) (hv : aB2 w base v n fs) (hn : n ≤ 1073741824) (hsz : aK2 n fs) (hb : b.size ≤ maxLen) (htab : aI5 w) :
  Calls prog 177 #[.agg #[.int .i64 m, v, .string b]] w fun e w' => bT1 (aM3 m fs b) (aT5 m fs b) w e w' := by
 obtain ⟨oa, a3, rfl, _⟩ := hv.slice;have a1 : Bw w (w.alloc (.cells #[.int .i64 m, .slice oa n a3, .string b] 49)) := (Below.refl _ _).alloc (Nat.le_refl _) _;have a2 := hid htab;clear htab;go_enter func177, ntmps177;go_wp2_with fail
 refine (bD4 m oa n a3 b _).mono ?_;rintro e w1 ⟨rfl, a4⟩;have a0 : Bw w w1 := a1.trans (a4.mono a1.size);have a5 := hv.below a0;clear a4 a1 hv;go_wp2_with fail
 refine (bW6 m _ b n base fs _ a5 hn hsz hb (a2.out.below a0)).mono ?_;rintro e w2 ⟨u, rfl, ku, kn, a6⟩;have a7 : Bw w w2 := a0.trans (a6.mono a0.size);have HK : Hid ((aM3 m fs b) → u = aT5 m fs b) := ku;have HN : Hid (¬ (aM3 m fs b) → u = ⟨#[]⟩) := kn;clear a5 hsz hb a6 a0 ku kn;go_wp2_with fail
 go_ret;exact ⟨u, rfl, HK.out, HN.out, a7⟩
theorem aG7.later {B : Nat} {t : ByteArray} {w w' : World} (h : aG7 B t w) (hb : Below w.heap.size w w') : aG7 B t w' := by
 have a0 : ∀ p, BuilderAt 192 5 B B p (strCells t) w → BuilderAt 192 5 B B p (strCells t) w' := by
  rintro p ⟨h1, v, h2, h3, h4⟩
  have a1 : B < w.heap.size := (blt h2)
  refine ⟨h1, v, by rw [hb.block _ a1]; exact h2, aC1 h3 hb (fun g hg => ?_), h4⟩
  rcases h3.2 with ⟨rfl, _⟩ | ⟨g', a2, a3, rfl, _, h5, _⟩
  ·simp [Value.ownBlock] at hg
  ·simp [Value.ownBlock] at hg
   subst hg
   exact (blt h5)
 rcases h with h | h
 ·exact .inl (a0 _ h)
 exact .inr (a0 _ h)
theorem bJ7 (p : Tx) (o1 : Oa) (n1 c1 : Nat) (xs : Ts) (o2 : Oa) (n2 c2 : Nat) (ys : Ts) (st : Int) (v3 : Value) (n3 base : Nat) (fs : Fs) (b : Tx) (t : Int) (w : World) (h1 : aB8 w o1 n1 xs) (h2 : aB8 w o2 n2 ys) (h3 : aB2 w base v3 n3 fs) (hn1 : n1 ≤ 2000000) (hn2 : n2 ≤ 2000000) (hn3 : n3 ≤ 2000000) (hs1 : ∀ i, i < n1 → (aA7 xs i).size ≤ maxLen) (hs2 : ∀ i, i < n2 → (aA7 ys i).size ≤ maxLen) (hs3 : aK2 n3 fs) (hp : p.size ≤ maxLen) (hx : b.size ≤ maxLen) (hg : (getV fs aE9).size ≤ 1048576) (hc : aR5 fs) (htab : aI5 w) :
  Calls prog 112 #[.agg #[.string p, .slice o1 n1 c1, .slice o2 n2 c2, .int .i64 st, v3, .string b, .int .i64 t]] w fun e w' => bT1 (ObjP p xs ys st fs b t) (objT p ys st fs b t) w e w' := by
 obtain ⟨o3, c3, rfl, _⟩ := h3.slice;have f7 : Hid (∀ W, Bw w W → aB8 W o1 n1 xs) := fun W h => h1.below h
 have e3 : Hid (∀ W, Bw w W → aB8 W o2 n2 ys) := fun W h => h2.below h
 have e4 : Hid (∀ W, Bw w W → aB2 W base (.slice o3 n3 c3) n3 fs) := fun W h => h3.below h
 have b2 : Hid (ys.length = n2) := h2.1;have f8 := hid hs1;have e5 := hid hs2;have e6 := hid hs3;have f9 := hid hp;have HX := hid hx;have HG := hid hg;have HC : Hid (aR5 fs) := hc;have b1 : Hid (∀ W, Bw w W → aI5 W) := fun W h => htab.below h
 clear hc htab;obtain ⟨tt, e7⟩ := exq (aD1 t);have c6 : Hid (aD1 t = tt) := e7.symm;obtain ⟨nn, e8⟩ : ∃ x, x = aD1 ((n2 : Nat) : Int) := ⟨_, rfl⟩;have c7 : Hid (aD1 ((n2 : Nat) : Int) = nn) := e8.symm;clear h1 h2 h3 hs1 hs2 hs3 hp hx hg e7 e8;have K0 := jnil w;go_enter func112, ntmps112;go_upto_region 1 with fail
 obtain ⟨q1, c8⟩ := exq (w.heap.size);obtain ⟨w1, b3⟩ := exq (w.alloc (.cells #[.string p, .slice o1 n1 c1, .slice o2 n2 c2, .int .i64 st, .slice o3 n3 c3, .string b, .int .i64 t] 51));have c9 := c8.symm;rw [← b3]; try rw [← c8];have hs1 := hsa b3 c9;have bw := bal b3;have K1 := ja K0 b3 c9;clear bw b3 c9 K0;clear hs1 c8;have d0 := c7c (jb K1 0 rfl);go_wp2_with fail
 refine (aL7 p _ n1 _ xs _ n2 _ ys st _ n3 base fs b t _ (f7.out _ K1.hb) (e3.out _ K1.hb) (e4.out _ K1.hb) (by omega) (by omega) (by omega) f8.out e5.out e6.out HC.out f9.out HX.out HG.out).mono ?_;rintro e w2 ⟨u1, rfl, a6, bw⟩;have K2 := jw K1 bw;clear bw K1;clear d0;cases u1
 ·have HF : Hid (¬ ObjP p xs ys st fs b t) := fun h => nomatch a6.2 h
  clear a6;go_wp2_with fail
  go_ret;exact ⟨⟨#[]⟩, rfl, fun h => absurd h HF.out, fun _ => rfl, K2.hb⟩
 have b0 : Hid (ObjP p xs ys st fs b t) := a6.1 rfl;clear a6;have HT : Hid (0 ≤ t ∧ t ≤ 1000000) := b0.out.2.2.1;have g0 : Hid (n2 ≤ 4) := by show _ ≤ _; have h4 := b0.out.2.2.2.1.2; have h5 := b0.out.2.2.2.2.2.1; have h6 := b2.out; omega
 obtain ⟨hd, b6⟩ := exq (bH1 p t n2)
 have g1 : Hid (((((((⟨#[111, 98, 106, 32]⟩ ++ p) ++ ⟨#[32]⟩) ++ tt) ++ ⟨#[32]⟩) ++ nn) ++ ⟨#[10]⟩) = hd) := by
  show _ = _
  rw [b6, ← c6.out, ← c7.out, aI8 HT.out.1, aI8 (by omega)]
  rfl
 have d1 : Hid (∀ k, k ≤ n2 → (aH3 hd ys k).size ≤ 400) := fun k hk => by
  have h := aW9 b0.out k (by rw [b2.out]; exact hk)
  rw [b2.out, ← b6] at h
  have := g0.out
  omega
 have d2 : Hid (objT p ys st fs b t = aH3 hd ys n2 ++ aT5 st fs b) := by
  show _ = _
  unfold objT
  rw [b2.out, ← b6]
 have e9 : Hid (aM3 st fs b) := b0.out.1;have zp : p.size ≤ 60 := b0.out.2.1.2.2.1;have i1 : tt.size ≤ 8 := by rw [← c6.out, aI8 HT.out.1]; exact aE1 _
 have i2 : nn.size ≤ 8 := by rw [← c7.out, aI8 (by omega)]; exact aE1 _
 clear b6;go_upto_region 4 with fail
 obtain ⟨q2, d3⟩ := exq (w2.heap.size);obtain ⟨w3, b4⟩ := exq (w2.alloc (.cells #[.pointer none, .slice none 0 0] 192));have b7 := d3.symm;rw [← b4]; try rw [← d3];have hs3 := hsa b4 b7;have bw := bal b4;have K3 := ja K2 b4 b7;have a2 : Hid (q1 < q2) := by have h1 := (Array.getElem?_eq_some_iff.1 (jb K2 0 rfl)).1; show _ < _; omega
 have b8 : Hid (w.heap.size ≤ q2) := by show _ ≤ _; rw [← b7]; exact K2.hb.size
 clear bw b4 b7 K2;clear hs3 d3;have d4 : Hid (aG7 q2 ⟨#[]⟩ w3) := Or.inl ⟨Nat.le_refl _, .slice none 0 0, (jb K3 0 rfl), World.ownsRow_nil _ _ _ _, by simp [Value.ownBlock]⟩;have g2 : Hid (q2 ≤ w3.heap.size) := Nat.le_of_lt (Array.getElem?_eq_some_iff.1 (jb K3 0 rfl)).1;go_upto_region 4 with fail
 refine wp_region_held_drew (S := fun W => W.heap[q1]? = some (.cells #[.string p, .slice o1 n1 c1, .slice o2 n2 c2, .int .i64 st, .slice o3 n3 c3, .string b, .int .i64 t] 51)) (by kernel_rfl) (jb K3 1 rfl) (fun _ => ?_)
 obtain ⟨w4, hX⟩ := exq w3.drew;have bw := bdr hX;rw [← hX];have K4 := jw K3 bw;have g3 := hsz bw;have d5 : Hid (aG7 q2 (⟨#[]⟩) w4) := d4.out.later bw;have a5 := (jb K4 1 rfl);clear bw hX K3;refine tkP 0 (.pointer (some ⟨q1, 0, none⟩)) 9 rfl rfl a5 ?_;go_frame;refine tkL 1 (.string p) 10 rfl rfl (Or.inl ⟨by rfl, by intro W hW; have a3 := hW; have y0 := c7c a3; go_simp⟩) a5 ?_;go_frame;refine tkL 2 (.string (⟨#[111, 98, 106, 32]⟩ ++ p)) 11 rfl rfl (Or.inl ⟨by rfl, by intro W _; go_simp <;> omega⟩) a5 ?_;go_frame;refine tkL 3 (.string ((⟨#[111, 98, 106, 32]⟩ ++ p) ++ ⟨#[32]⟩)) 12 rfl rfl (Or.inl ⟨by rfl, by intro W _; go_simp <;> omega⟩) a5 ?_;go_frame;refine tkP 4 (.pointer (some ⟨q1, 6, none⟩)) 13 rfl rfl a5 ?_;go_frame;refine tkL 5 (.int .i64 t) 14 rfl rfl (Or.inl ⟨by rfl, by intro W hW; have a3 := hW; have y6 := c7c a3; go_simp⟩) a5 ?_;go_frame;refine tkP 9 (.pointer (some ⟨q1, 2, none⟩)) 18 rfl rfl a5 ?_;go_frame;refine tkL 10 (.slice o2 n2 c2) 19 rfl rfl (Or.inl ⟨by rfl, by intro W hW; have a3 := hW; have y2 := c7c a3; go_simp⟩) a5 ?_;go_frame;refine tkP 11 (.int .i64 (n2 : Int)) 20 rfl rfl a5 ?_;go_frame;refine rd1 6 rfl (fun K hK => ?_)
 go_simp;refine (aI6 t _ (by have := HT.out; omega) (by have := HT.out; omega) (b1.out _ K4.hb)).mono ?_;rintro e w5 ⟨rfl, bw⟩;rw [c6.out];have K5 := jw K4 bw;have g4 := hsz bw;have d6 : Hid (aG7 q2 (⟨#[]⟩) w5) := d5.out.later bw;clear bw K4;have b9 := (jb K5 1 rfl);refine hK.out _ _ b9 (fun _ => ?_)
 clear hK K a5;refine tkL 7 (.string (((⟨#[111, 98, 106, 32]⟩ ++ p) ++ ⟨#[32]⟩) ++ tt)) 16 rfl rfl (Or.inl ⟨by rfl, by intro W _; go_simp <;> omega⟩) b9 ?_;go_frame;refine tkL 8 (.string ((((⟨#[111, 98, 106, 32]⟩ ++ p) ++ ⟨#[32]⟩) ++ tt) ++ ⟨#[32]⟩)) 17 rfl rfl (Or.inl ⟨by rfl, by intro W _; go_simp <;> omega⟩) b9 ?_;go_frame;refine rd1 12 rfl (fun K hK => ?_)
 go_simp;refine (aI6 ((n2 : Nat) : Int) _ (by omega) (by omega) (b1.out _ K5.hb)).mono ?_;rintro e w6 ⟨rfl, bw⟩;rw [c7.out];have K6 := jw K5 bw;have g5 := hsz bw;have b5 : Hid (aG7 q2 (⟨#[]⟩) w6) := d6.out.later bw;clear bw K5;have c0 := (jb K6 1 rfl);refine hK.out _ _ c0 (fun _ => ?_)
 clear hK K b9;refine tkL 13 (.string (((((⟨#[111, 98, 106, 32]⟩ ++ p) ++ ⟨#[32]⟩) ++ tt) ++ ⟨#[32]⟩) ++ nn)) 22 rfl rfl (Or.inl ⟨by rfl, by intro W _; go_simp <;> omega⟩) c0 ?_;go_frame;refine tkL 14 (.string ((((((⟨#[111, 98, 106, 32]⟩ ++ p) ++ ⟨#[32]⟩) ++ tt) ++ ⟨#[32]⟩) ++ nn) ++ ⟨#[10]⟩)) 23 rfl rfl (Or.inl ⟨by rfl, by intro W _; go_simp <;> omega⟩) c0 ?_;go_frame;refine rd1 15 rfl (fun K hK => ?_)
 go_simp;rw [g1.out];refine (aQ1 q2 ⟨#[]⟩ hd _ b5.out (by have := d1.out 0 (Nat.zero_le _); have e0 : (⟨#[]⟩ : Tx).size = 0 := rfl; unfold aH3 at this; omega) (Nat.le_of_lt (by rcases b5.out with ⟨_, v, h, _⟩ | ⟨_, v, h, _⟩ <;> exact (blt h)))).mono ?_;rintro e w7 ⟨rfl, a4, bm⟩;have a1 : aG7 q2 (aH3 hd ys 0) w7 := by rw [show (⟨#[]⟩ : Tx) ++ hd = hd from bT0 (by rw [bG2]; rfl)] at a4; exact a4
 clear a4;have f0 : Bw w w7 := K6.hb.trans (bm.mono b8.out);have g6 := hsz bm;have a7 : Hid (w7.heap[q1]? = some (.cells #[.string p, .slice o1 n1 c1, .slice o2 n2 c2, .int .i64 st, .slice o3 n3 c3, .string b, .int .i64 t] 51)) := (bm.block _ a2.out).trans (jb K6 1 rfl);have d7 : Hid (aG7 q2 (aH3 hd ys 0) w7) := a1;have K7 := jz K6 f0 (jzx (jzb a7.out (jzn _)));clear a1 bm K6;have f1 := a7.out;refine hK.out _ _ f1 (fun _ => ?_)
 clear hK K c0;clear f1;refine wdn ?_;have g7 := c7c a7.out;go_wp2_with fail
 go_loopw [28] (fun i wr => ∃ j : Nat, j ≤ n2 ∧ i = .int .i64 (j : Int) ∧ Hid (Bw w wr ∧ wr.heap[q1]? = some (.cells #[.string p, .slice o1 n1 c1, .slice o2 n2 c2, .int .i64 st, .slice o3 n3 c3, .string b, .int .i64 t] 51) ∧ aG7 q2 (aH3 hd ys j) wr ∧ q2 ≤ wr.heap.size)) (fun i _ => n2 - (intOf i).toNat)
 case atStart => exact ⟨0, Nat.zero_le _, rfl, ⟨f0, a7.out, d7.out, Nat.le_trans g2.out (by have := g3.out; have := g4.out; have := g5.out; have := g6.out; omega)⟩⟩
 case round =>
  obtain ⟨j, hj, rfl, HW⟩ := hrel;by_cases hlt : (j : Int) < (n2 : Int)
  ·obtain ⟨g, g8, hg, hc⟩ := (e3.out wr HW.out.1).2 j (by omega);subst g8;obtain ⟨x, c4⟩ := exq (aA7 ys j);have d8 := e5.out j (by omega);rw [← c4] at hc d8;obtain ⟨ot, a8⟩ := exq (aH3 hd ys j);have HN : Hid (ot ++ (x ++ ⟨#[10]⟩) = aH3 hd ys (j + 1)) := by show _ = _; rw [a8, c4, aH3, ByteArray.append_assoc]
   have zx : x.size ≤ 60 := by rw [c4]; exact (b0.out.2.2.2.2.2.2 _ (aM4 ys j (by rw [b2.out]; omega))).2.1
   have hz : ot.size + (x ++ ⟨#[10]⟩).size ≤ 140737488355328 := by
    have h1 := d1.out j (by omega)
    rw [← a8] at h1
    have e1 : (⟨#[10]⟩ : Tx).size = 1 := rfl
    unfold maxLen at d8
    rw [ByteArray.size_append]
    omega
   have f2 : Hid (aG7 q2 ot wr) := by show aG7 _ _ _; rw [a8]; exact HW.out.2.2.1
   clear c4 a8 d8;go_wp2_with fail
   have a0 := aQ1 q2 ot (x ++ ⟨#[10]⟩) wr f2.out hz HW.out.2.2.2;refine a0.mono ?_;clear a0;rintro e a9 ⟨rfl, a1, bm⟩;rw [HN.out] at a1;have c5 : Hid (Bw w a9 ∧ a9.heap[q1]? = some (.cells #[.string p, .slice o1 n1 c1, .slice (some ⟨g, 0, none⟩) n2 c2, .int .i64 st, .slice o3 n3 c3, .string b, .int .i64 t] 51) ∧ aG7 q2 (aH3 hd ys (j + 1)) a9 ∧ q2 ≤ a9.heap.size) := ⟨HW.out.1.trans (bm.mono b8.out), (bm.block _ a2.out).trans HW.out.2.1, a1, Nat.le_trans HW.out.2.2.2 bm.size⟩;clear a1 bm f2 HW hc hz;go_wp2_with fail
   go_roundw
   case rel => exact ⟨j + 1, by omega, by go_num, c5⟩
   case measure => simp [intOf]; omega
  obtain rfl : j = n2 := by omega
  obtain ⟨ot, a8⟩ := exq (aH3 hd ys j);have g9 : Hid (objT p ys st fs b t = ot ++ aT5 st fs b) := by show _ = _; rw [a8]; exact d2.out
  have HZ : Hid (ot.size + (aT5 st fs b).size ≤ 140737488355328) := by
   show _ ≤ _
   have h1 := d1.out j (by omega)
   rw [← a8] at h1
   have h2 := bB7 e9.out
   omega
  have HH : Hid (aG7 q2 ot wr) := by show aG7 _ _ _; rw [a8]; exact HW.out.2.2.1
  have h0 : wr.cell? ⟨q1, 3, none⟩ = some (.int .i64 st) := (aA9 HW.out.2.1 3).trans rfl;have h7 : wr.cell? ⟨q1, 4, none⟩ = some (.slice o3 n3 c3) := (aA9 HW.out.2.1 4).trans rfl;have h8 : wr.cell? ⟨q1, 5, none⟩ = some (.string b) := (aA9 HW.out.2.1 5).trans rfl;clear a8;go_wp2_with fail
  refine (bE5 st _ b n3 base fs _ (e4.out _ HW.out.1) (by omega) e6.out HX.out (b1.out _ HW.out.1)).mono ?_;rintro e a9 ⟨u, rfl, hu, _, bw⟩;have HU : Hid (u = aT5 st fs b) := hu e9.out;have c5 : Hid (Bw w a9) := HW.out.1.trans (bw.mono HW.out.1.size);have d9 : Hid (q2 ≤ a9.heap.size) := Nat.le_trans HW.out.2.2.2 bw.size;have f3 : Hid (aG7 q2 ot a9) := HH.out.later bw;clear bw hu h0 h7 h8 HW HH;go_wp2_with fail
  have a0 := aQ1 q2 ot u a9 f3.out (by rw [HU.out]; exact HZ.out) d9.out;refine a0.mono ?_;clear a0;rintro e e2 ⟨rfl, a1, bm⟩;have f4 : Hid (Bw w e2) := c5.out.trans (bm.mono b8.out);have f5 := hid a1;have f6 : Hid (q2 ≤ e2.heap.size) := Nat.le_trans d9.out bm.size;clear a1 bm f3 c5 d9;go_wp2_with fail
  have a0 := cE2 q2 (ot ++ u) e2 f5.out f6.out;refine a0.mono ?_;clear a0;rintro e h9 ⟨rfl, bm⟩;have i0 : Hid (Bw w h9) := f4.out.trans (bm.mono b8.out);clear bm f5 f6 f4;go_wp2_with fail
  go_ret;exact ⟨_, rfl, fun _ => by rw [g9.out, HU.out], fun h => absurd b0.out h, i0.out⟩
theorem aC4 {T : TypeId} (h1 : T ≠ 9) (h2 : T ≠ 155) (h3 : T ≠ 82) (h4 : T ≠ 62) (h5 : T ≠ 184) {v1 v2 V VB : Value} {kv : Ks} {cs : Ts} {ws : List (Int × ByteArray)} {bl : Bs} : ∀ r ∈ aB4 v1 v2 V VB kv cs ws bl, T ≠ r.T := by
 intro r hr;unfold aB4 at hr;rcases List.mem_append.1 hr with hr | hr
 ·rcases List.mem_append.1 hr with hr | hr
  ·simp only [List.mem_cons, List.not_mem_nil, or_false] at hr
   rcases hr with rfl | rfl
   ·exact h1
   exact h2
  rcases bB9 hr with e | e | e <;> rw [e] <;> assumption
 rw [List.mem_singleton.1 hr]; exact h4
def aR9 (cs : Ts) (ws : List (Int × ByteArray)) (x : Int) (t : Tx) (cs2 : Ts) (ws2 : List (Int × ByteArray)) : Prop :=
 if ws.length = 16 then cs2 = putC (aV6 cs ws (fun _ => true)) [] ∧ ws2 = putW (aV6 cs ws (fun _ => true)) [] x t else cs2 = putC cs ws ∧ ws2 = putW cs ws x t
theorem aR9.full {cs : Ts} {ws : List (Int × ByteArray)} {x : Int} {t : ByteArray} (h : ws.length = 16) : aR9 cs ws x t (putC (aV6 cs ws (fun _ => true)) []) (putW (aV6 cs ws (fun _ => true)) [] x t) := by unfold aR9; rw [if_pos h]; exact ⟨rfl, rfl⟩
theorem aR9.plain {cs : Ts} {ws : List (Int × ByteArray)} {x : Int} {t : ByteArray} (h : ¬ ws.length = 16) : aR9 cs ws x t (putC cs ws) (putW cs ws x t) := by unfold aR9; rw [if_neg h]; exact ⟨rfl, rfl⟩
theorem cI4 (v1 v2 V VB : Value) (kv : Ks) (cs : Ts) (ws : List (Int × ByteArray)) (bl : Bs) (nx sq x : Int) (t : Tx) (B0 : Nat) (w : World) (h : aA2 w B0 (aB4 v1 v2 V VB kv cs ws bl)) (hB : B0 ≤ w.heap.size) (bc : cs.length ≤ 1048576) (bw0 : ws.length ≤ 1048576) :
  Calls prog 39 #[.agg #[v1, v2, V, VB, .int .i64 nx, .int .i64 sq], .int .i64 x, .string t] w fun e w' => ∃ u1 u2 cs2 ws2, e = .returned (.agg #[u1, u2, V, VB, .int .i64 nx, .int .i64 sq]) ∧ aR9 cs ws x t cs2 ws2 ∧ aA2 w' B0 (aB4 u1 u2 V VB kv cs2 ws2 bl) ∧ Below w.heap.size w w' := by
 have f7 : w.ownsRow B0 9 1 v1 cs.length (cs.map Value.string) := h.own ⟨9, 1, v1, cs.length, cs.map Value.string⟩ (by simp [aB4]);have f8 : w.ownsRow B0 155 2 v2 ws.length (aA1 ws) := h.own ⟨155, 2, v2, ws.length, aA1 ws⟩ (by simp [aB4]);have f9 : w.ownsRow B0 82 9 V kv.length (kv.flatMap kpC) := h.own (aH2 V kv) (by simp [aB4, aC9]);have g0 : w.ownsRow B0 62 4 VB bl.length (aB1 bl) := h.own ⟨62, 4, VB, bl.length, aB1 bl⟩ (by simp [aB4]);obtain ⟨o1, c1, e1⟩ := aA0 f7;obtain ⟨o2, c2, e2⟩ := aA0 f8;obtain ⟨oK, cK, e3⟩ := aA0 f9;obtain ⟨oB, cB, e4⟩ := aA0 g0;clear f7 f8 f9 g0;subst e1 e2 e3 e4;have d9 := hid hB;have e0 : Hid (aA2 w B0 (aB4 (.slice o1 cs.length c1) (.slice o2 ws.length c2) (.slice oK kv.length cK) (.slice oB bl.length cB) kv cs ws bl)) := h;clear h hB;have K0 := jnil w;go_enter func39, ntmps39;go_upto_region 1 with fail
 obtain ⟨q1, e5⟩ := exq (w.heap.size);obtain ⟨w1, c5⟩ := exq (w.alloc (.cells #[.slice o1 cs.length c1, .slice o2 ws.length c2, .slice oK kv.length cK, .slice oB bl.length cB, .int .i64 nx, .int .i64 sq] 43));have e6 := e5.symm;rw [← c5]; try rw [← e5];have g1 := hsa c5 e6;have bw := bal c5;have K1 := ja K0 c5 e6;have e7 := hid (aA2.below e0.out bw);clear bw c5 e6 K0;obtain ⟨q2, e8⟩ := exq (q1 + 1);obtain ⟨w2, c6⟩ := exq (w1.alloc (.cells #[.slice none 0 0, .slice none 0 0, .slice none 0 0, .slice none 0 0, .int .i64 0, .int .i64 0] 43));have e9 : w1.heap.size = q2 := by rw [e8]; exact g1
 rw [← c6]; try rw [← e8];have g6 := hsa c6 e9;have bw := bal c6;have K2 := ja K1 c6 e9;have a3 := hid (aA2.below e7.out bw);clear bw c6 e9 K1;clear g6 e8 g1 e5;have c7 := c6c (jb K2 1 rfl);by_cases hc1 : (ws.length : Int) = 16
 rotate_left
 ·have f0 : (((ws.length : Int) : Int) == (16 : Int)) = false := by simpa using hc1
  have f1 : (((ws.length : Int) : Int) != (16 : Int)) = true := by simpa using hc1
  have f2 : Hid (¬ (ws.length = 16)) := (by have := hc1; show ¬ _; omega);have f3 := hid hc1;clear hc1;have a0 := c6c (jb K2 1 rfl);obtain ⟨a1, b4⟩ := exq (putC cs ws);obtain ⟨a2, b5⟩ := exq (putW cs ws x t);obtain ⟨bp, c8⟩ := exq (putB cs ws x);have c9 := hid b4;have d0 := hid b5;clear b4 b5;have f4 := hid c8;clear c8;go_wp2_with fail
  refine ((aW1 _ _ _ cs _ ws B0 _ (⟨a3.out.own ⟨9, 1, .slice o1 cs.length c1, cs.length, cs.map Value.string⟩ (by simp [aB4]), a3.out.own ⟨155, 2, .slice o2 ws.length c2, ws.length, aA1 ws⟩ (by simp [aB4])⟩ : aF4 _ B0 (.slice o1 cs.length c1) cs.length cs (.slice o2 ws.length c2) ws.length ws) (by omega) (by omega) x t).mono (fun e w' h => (by rw [← c9.out, ← d0.out, ← f4.out] at h; exact h : aU0 a1 a2 bp _ e w'))).mono ?_
  rintro e w3 ⟨va, vb, rfl, a4, bw⟩;obtain ⟨a9, b0, rfl⟩ := aA0 a4.cells;obtain ⟨b1, b2, rfl⟩ := aA0 a4.pend;have a5 : Hid (aA2 w3 B0 (aB4 (.slice a9 a1.length b0) (.slice b1 a2.length b2) (.slice oK kv.length cK) (.slice oB bl.length cB) kv a1 a2 bl)) := bC4 a3.out bw a4 (Nat.le_refl _) (Nat.le_trans d9.out K2.hb.size);have K3 := jw K2 bw;have a8 := hid (aA2.below a3.out bw);clear bw K2;have d1 := hid a4;clear a4;clear a8;have a8 : Hid (aA2 (w3) B0 (aB4 (.slice a9 a1.length b0) (.slice b1 a2.length b2) (.slice oK kv.length cK) (.slice oB bl.length cB) kv a1 a2 bl)) := a5.out;clear a5 d1;clear c7 a0;have a0 := c6f (jb K3 1 rfl);go_upto_region 4 with fail
  obtain ⟨w5, b7⟩ := exq ((w3.setCell ⟨q1, 0, none⟩ (.slice a9 a1.length b0)).setCell ⟨q1, 1, none⟩ (.slice b1 a2.length b2));rw [← b7];have K5 := jss K3 1 [(0, _), (1, _)] b7;have b3 := hid (jrs [(0, _), (1, _)] a8.out b7 (jb K3 1 rfl) (aC4 (by decide) (by decide) (by decide) (by decide) (by decide)));clear b7 K3;clear a0;have a0 := c6c (jb K5 1 rfl);have f5 := c6f (jb K5 0 rfl);go_wp2_with fail
  obtain ⟨g7, b8⟩ := exq ((((((w5.setCell ⟨q2, 0, none⟩ (.slice a9 a1.length b0)).setCell ⟨q2, 1, none⟩ (.slice b1 a2.length b2)).setCell ⟨q2, 2, none⟩ (.slice oK kv.length cK)).setCell ⟨q2, 3, none⟩ (.slice oB bl.length cB)).setCell ⟨q2, 4, none⟩ (.int .i64 nx)).setCell ⟨q2, 5, none⟩ (.int .i64 sq));rw [← b8];have g2 := jss K5 0 [(0, _), (1, _), (2, _), (3, _), (4, _), (5, _)] b8;have d2 := hid (jrs [(0, _), (1, _), (2, _), (3, _), (4, _), (5, _)] b3.out b8 (jb K5 0 rfl) (aC4 (by decide) (by decide) (by decide) (by decide) (by decide)));clear b8 K5;have b6 := c6c (jb g2 0 rfl);refine bodyPost_ret (v := .agg #[.slice a9 a1.length b0, .slice b1 a2.length b2, .slice oK kv.length cK, .slice oB bl.length cB, .int .i64 nx, .int .i64 sq]) (by simp [results, results39, go_sem, b6]) rfl ?_;refine ⟨.slice a9 a1.length b0, .slice b1 a2.length b2, a1, a2, rfl, ?_, d2.out, g2.hb⟩;rw [c9.out, d0.out];exact aR9.plain f2.out
 have f0 : (((ws.length : Int) : Int) == (16 : Int)) = true := by simpa using hc1
 have f1 : (((ws.length : Int) : Int) != (16 : Int)) = false := by simpa using hc1
 have f2 : Hid ((ws.length = 16)) := (by have := hc1; show _ = _; omega);have f3 := hid hc1;clear hc1;have a0 := c6c (jb K2 1 rfl);obtain ⟨a6, c0⟩ := exq (aV6 cs ws (fun _ => true))
 obtain ⟨a7, c3⟩ : ∃ l, l = ([] : List (Int × ByteArray)) := ⟨_, rfl⟩;have g3 := hid c0;have g4 := hid c3;have g8 : a6.length ≤ 1048577 := by rw [c0]; exact Nat.le_trans (bH0 _ _ _) (by omega)
 have g9 : a7.length ≤ 1048577 := by rw [c3]; decide
 clear c0 c3;go_wp2_with fail
 refine ((bQ9 _ _ _ cs _ ws B0 _ (⟨a3.out.own ⟨9, 1, .slice o1 cs.length c1, cs.length, cs.map Value.string⟩ (by simp [aB4]), a3.out.own ⟨155, 2, .slice o2 ws.length c2, ws.length, aA1 ws⟩ (by simp [aB4])⟩ : aF4 _ B0 (.slice o1 cs.length c1) cs.length cs (.slice o2 ws.length c2) ws.length ws) (by omega) (by omega)).mono (fun e w' h => (by rw [← g3.out, ← g4.out] at h; exact h : aX7 a6 a7 _ e w'))).mono ?_
 rintro e w3 ⟨va, vb, rfl, a4, bw⟩;obtain ⟨d3, d4, rfl⟩ := aA0 a4.cells;obtain ⟨d5, d6, rfl⟩ := aA0 a4.pend;have a5 : Hid (aA2 w3 B0 (aB4 (.slice d3 a6.length d4) (.slice d5 a7.length d6) (.slice oK kv.length cK) (.slice oB bl.length cB) kv a6 a7 bl)) := bC4 a3.out bw a4 (Nat.le_refl _) (Nat.le_trans d9.out K2.hb.size);have K3 := jw K2 bw;have a8 := hid (aA2.below a3.out bw);clear bw K2;have d1 := hid a4;clear a4;clear a8;have a8 : Hid (aA2 (w3) B0 (aB4 (.slice d3 a6.length d4) (.slice d5 a7.length d6) (.slice oK kv.length cK) (.slice oB bl.length cB) kv a6 a7 bl)) := a5.out;clear a5 d1;clear c7 a0;have a0 := c6f (jb K3 1 rfl);go_upto_region 3 with fail
 obtain ⟨w5, b7⟩ := exq ((w3.setCell ⟨q1, 0, none⟩ (.slice d3 a6.length d4)).setCell ⟨q1, 1, none⟩ (.slice d5 a7.length d6));rw [← b7];have K5 := jss K3 1 [(0, _), (1, _)] b7;have b3 := hid (jrs [(0, _), (1, _)] a8.out b7 (jb K3 1 rfl) (aC4 (by decide) (by decide) (by decide) (by decide) (by decide)));clear b7 K3;clear a0;have a0 := c6c (jb K5 1 rfl);obtain ⟨a1, b4⟩ := exq (putC a6 a7);obtain ⟨a2, b5⟩ := exq (putW a6 a7 x t);obtain ⟨bp, c8⟩ := exq (putB a6 a7 x);have c9 := hid b4;have d0 := hid b5;clear b4 b5;have f4 := hid c8;clear c8;go_wp2_with fail
 refine ((aW1 _ _ _ a6 _ a7 B0 _ (⟨b3.out.own ⟨9, 1, .slice d3 a6.length d4, a6.length, a6.map Value.string⟩ (by simp [aB4]), b3.out.own ⟨155, 2, .slice d5 a7.length d6, a7.length, aA1 a7⟩ (by simp [aB4])⟩ : aF4 _ B0 (.slice d3 a6.length d4) a6.length a6 (.slice d5 a7.length d6) a7.length a7) (by omega) (by omega) x t).mono (fun e w' h => (by rw [← c9.out, ← d0.out, ← f4.out] at h; exact h : aU0 a1 a2 bp _ e w'))).mono ?_
 rintro e w6 ⟨va, vb, rfl, a4, bw⟩;obtain ⟨a9, b0, rfl⟩ := aA0 a4.cells;obtain ⟨b1, b2, rfl⟩ := aA0 a4.pend;have a5 : Hid (aA2 w6 B0 (aB4 (.slice a9 a1.length b0) (.slice b1 a2.length b2) (.slice oK kv.length cK) (.slice oB bl.length cB) kv a1 a2 bl)) := bC4 b3.out bw a4 (Nat.le_refl _) (Nat.le_trans d9.out K5.hb.size);have K6 := jw K5 bw;have c4 := hid (aA2.below b3.out bw);clear bw K5;have d1 := hid a4;clear a4;clear c4;have c4 : Hid (aA2 (w6) B0 (aB4 (.slice a9 a1.length b0) (.slice b1 a2.length b2) (.slice oK kv.length cK) (.slice oB bl.length cB) kv a1 a2 bl)) := a5.out;clear a5 d1;clear a0;have a0 := c6f (jb K6 1 rfl);go_upto_region 4 with fail
 obtain ⟨w8, d8⟩ := exq ((w6.setCell ⟨q1, 0, none⟩ (.slice a9 a1.length b0)).setCell ⟨q1, 1, none⟩ (.slice b1 a2.length b2));rw [← d8];have K8 := jss K6 1 [(0, _), (1, _)] d8;have f6 := hid (jrs [(0, _), (1, _)] c4.out d8 (jb K6 1 rfl) (aC4 (by decide) (by decide) (by decide) (by decide) (by decide)));clear d8 K6;clear a0;have a0 := c6c (jb K8 1 rfl);have f5 := c6f (jb K8 0 rfl);go_wp2_with fail
 obtain ⟨h0, b9⟩ := exq ((((((w8.setCell ⟨q2, 0, none⟩ (.slice a9 a1.length b0)).setCell ⟨q2, 1, none⟩ (.slice b1 a2.length b2)).setCell ⟨q2, 2, none⟩ (.slice oK kv.length cK)).setCell ⟨q2, 3, none⟩ (.slice oB bl.length cB)).setCell ⟨q2, 4, none⟩ (.int .i64 nx)).setCell ⟨q2, 5, none⟩ (.int .i64 sq));rw [← b9];have g5 := jss K8 0 [(0, _), (1, _), (2, _), (3, _), (4, _), (5, _)] b9;have d7 := hid (jrs [(0, _), (1, _), (2, _), (3, _), (4, _), (5, _)] f6.out b9 (jb K8 0 rfl) (aC4 (by decide) (by decide) (by decide) (by decide) (by decide)));clear b9 K8;have b6 := c6c (jb g5 0 rfl);refine bodyPost_ret (v := .agg #[.slice a9 a1.length b0, .slice b1 a2.length b2, .slice oK kv.length cK, .slice oB bl.length cB, .int .i64 nx, .int .i64 sq]) (by simp [results, results39, go_sem, b6]) rfl ?_;refine ⟨.slice a9 a1.length b0, .slice b1 a2.length b2, a1, a2, rfl, ?_, d7.out, g5.hb⟩;rw [c9.out, d0.out];rw [g3.out, g4.out];exact aR9.full f2.out
def cU3 (st : Int) (fs : Fs) (b : Tx) (w : World) (e : Ending) (w' : World) : Prop :=
 ∃ v, e = .returned (.agg #[.int .i64 st, v, .string b]) ∧ w'.ownsRow w.heap.size 184 2 v fs.length (aE4 fs) ∧ Below w.heap.size w w'
theorem cB7 (W : World) (r j : Nat) (a b c : Value) (h : j ≠ r) : (aJ1 W r a b c).heap[j]? = W.heap[j]? := by
 unfold aJ1;rw [heap_setCell_other _ _ j _ h, heap_setCell_other _ _ j _ h, heap_setCell_other _ _ j _ h]
theorem cI5 (st : Int) (v : Value) (b : Tx) (n base : Nat) (fs : Fs) (w : World) (hv : aB2 w base v n fs) (hn : n ≤ 2000000) :
  Calls prog 99 #[.agg #[.int .i64 st, v, .string b]] w fun e w' => cU3 st fs b w e w' := by
 obtain ⟨oa, a0, rfl, _⟩ := hv.slice;obtain ⟨r, hr⟩ := exq (w.heap.size);have HR : Hid (w.heap.size = r) := hr.symm;obtain ⟨W1, a1⟩ := exq ((w.alloc (.cells #[.int .i64 st, .slice oa n a0, .string b] 49)).alloc (.cells #[.int .i64 0, .slice none 0 0, .string ⟨#[]⟩] 49));have a4 := hsy a1;have b1 : Below r w W1 := by rw [a1, hr]; exact ((Below.refl _ w).alloc (Nat.le_refl _) _).alloc (by simp) _
 have a5 := hv.below (by rw [hr] at b1; exact b1);have s1 : (w.alloc (.cells #[.int .i64 st, .slice oa n a0, .string b] 49)).heap.size = r + 1 := by rw [hr]; simp
 have s2 : W1.heap.size = r + 1 + 1 := by rw [a1, hr]; simp
 have H0 : Hid (W1.heap[r]? = some (.cells #[.int .i64 st, .slice oa n a0, .string b] 49) ∧ W1.heap[r + 1]? = some (.cells #[.int .i64 0, .slice none 0 0, .string ⟨#[]⟩] 49) ∧ Below r w W1) := by
  have e0 := heap_alloc_new w (.cells #[.int .i64 st, .slice oa n a0, .string b] 49)
  have e1 := heap_alloc_new (w.alloc (.cells #[.int .i64 st, .slice oa n a0, .string b] 49)) (.cells #[.int .i64 0, .slice none 0 0, .string ⟨#[]⟩] 49)
  rw [← hr] at e0
  rw [s1, ← a1] at e1
  have c1 : Below (r + 1) (w.alloc (.cells #[.int .i64 st, .slice oa n a0, .string b] 49)) W1 := by rw [a1, ← s1]; exact (Below.refl _ _).alloc (Nat.le_refl _) _
  exact ⟨by rw [c1.block r (by omega)]; exact e0, e1, b1⟩
 obtain ⟨⟨_, c1, _⟩, _⟩ := aH8 H0.out.1;have a6 : Hid (W1.heap.size = r + 1 + 1) := s2;have HL : Hid (fs.length = n) := hv.len;clear a1 hv b1 s1 s2;go_enter func99, ntmps99;go_upto_region 1 with fail
 rw [a4.out, ← hr];clear hr a4;go_wp2_with fail
 refine (cF9 _ n base fs _ a5 hn).mono ?_;rintro e w2 ⟨z, rfl, a2, b2⟩;obtain ⟨oz, cz, rfl⟩ := aA0 a2;rw [HL.out] at a2 ⊢;have a7 := a6.out;have b2 : Below _ _ _ := b2;rw [a7] at a2 b2
 have H2 : Hid (w2.heap[r]? = some (.cells #[.int .i64 st, .slice oa n a0, .string b] 49) ∧ w2.heap[r + 1]? = some (.cells #[.int .i64 0, .slice none 0 0, .string ⟨#[]⟩] 49) ∧ Below r w w2) :=
  ⟨by rw [b2.block r (by omega)]; exact H0.out.1, by rw [b2.block (r + 1) (by omega)]; exact H0.out.2.1, H0.out.2.2.trans (b2.mono (by omega))⟩
 have a3 : Hid (w2.ownsRow (r + 1 + 1) 184 2 (.slice oz n cz) n (aE4 fs)) := a2;obtain ⟨⟨_, d1, _⟩, _, y1, _⟩ := aH8 H2.out.1;clear a2 b2 a7 c1 a5 H0 a6
 have H3 : Hid ((w2.setCell ⟨r, 1, none⟩ (.slice oz n cz)).heap[r]? = some (.cells #[.int .i64 st, .slice oz n cz, .string b] 49) ∧ (w2.setCell ⟨r, 1, none⟩ (.slice oz n cz)).heap[r + 1]? = some (.cells #[.int .i64 0, .slice none 0 0, .string ⟨#[]⟩] 49)) := by
  refine ⟨?_, by rw [heap_setCell_other _ _ (r + 1) _ (by show r + 1 ≠ r; omega)]; exact H2.out.2.1⟩
  have := aC2 w2 r 1 _ _ _ (.slice oz n cz) H2.out.1
  simpa using this
 obtain ⟨⟨f0, f1, f2⟩, _⟩ := aH8 H3.out.1;obtain ⟨⟨g0, g1, g2⟩, x0, x1, x2⟩ := aH8 H3.out.2;have hset := bT5 H3.out.2 (.int .i64 st) (.slice oz n cz) (.string b);obtain ⟨⟨k0, k1, k2⟩, _⟩ := aH8 hset;have a8 : Hid (Below r w (aJ1 (w2.setCell ⟨r, 1, none⟩ (.slice oz n cz)) (r + 1) (.int .i64 st) (.slice oz n cz) (.string b))) := bG6 (H2.out.2.2.setCell (Nat.le_refl _) _) (by omega)
 have a9 : Hid ((aJ1 (w2.setCell ⟨r, 1, none⟩ (.slice oz n cz)) (r + 1) (.int .i64 st) (.slice oz n cz) (.string b)).ownsRow r 184 2 (.slice oz n cz) fs.length (aE4 fs)) := by
  show World.ownsRow _ _ _ _ _ _ _
  rw [HL.out]
  refine aA4 (aF5 a3.out (by omega)) (fun j hj => ?_)
  have b0 := aB7 a3.out hj
  rw [cB7 _ _ j _ _ _ (by omega), heap_setCell_other _ _ j _ (by show j ≠ r; omega)]
 unfold aJ1 at k0 k1 k2 a8 a9;clear hset H2 H3 a3;go_wp2_with fail
 refine bodyPost_ret (v := .agg #[.int .i64 st, .slice oz n cz, .string b]) (by simp [results, results99, go_sem, k0, k1, k2]) rfl ?_;exact ⟨_, rfl, by rw [HR.out]; exact a9.out, by show Below _ _ _; rw [HR.out]; exact a8.out⟩
theorem cY4 {w : World} {base n : Nat} {v : Value} {fs : Fs} (h : w.ownsRow base 184 2 v n (aE4 fs)) : fs.length = n := by
 have := h.1;rw [aS1] at this;omega
theorem aM8 (p : Tx) (n1 : Nat) (xs : Ts) (n2 : Nat) (ys : Ts) (st : Int) (n3 : Nat) (fs : Fs) (b : Tx) (t : Int) (v1 v2 v3 : Value) (B : Nat) (w : World) (hx : ObjO w B v1 n1 xs v2 n2 ys v3 n3 fs) (hn1 : n1 ≤ 2000000) (hn2 : n2 ≤ 2000000) (hn3 : n3 ≤ 2000000) :
  Calls prog 38 #[.agg #[.string p, v1, v2, .int .i64 st, v3, .string b, .int .i64 t]] w fun e w' => ∃ u1 u2 u3, e = .returned (.agg #[.string p, u1, u2, .int .i64 st, u3, .string b, .int .i64 t]) ∧ ObjO w' w.heap.size u1 n1 xs u2 n2 ys u3 n3 fs ∧ Below w.heap.size w w' := by
 obtain ⟨o5, o6, m1, m2, m3⟩ := info_parts bS3;obtain ⟨l7, l8, rfl⟩ := aA0 hx.names;obtain ⟨j6, j7, rfl⟩ := aA0 hx.vals;obtain ⟨l9, m0, rfl⟩ := aA0 hx.flds;have j8 : Hid (w.ownsRow B 9 1 (.slice l7 n1 l8) n1 (xs.map Value.string)) := hx.names;have j9 : Hid (w.ownsRow B 9 1 (.slice j6 n2 j7) n2 (ys.map Value.string)) := hx.vals;have k0 : Hid (w.ownsRow B 184 2 (.slice l9 n3 m0) n3 (aE4 fs)) := hx.flds;have p0 : Hid (fs.length = n3) := cY4 hx.flds;clear hx;have K0 := jnil w;go_enter func38, ntmps38;go_upto_region 1 with fail
 obtain ⟨q1, n8⟩ := exq (w.heap.size);obtain ⟨w1, m4⟩ := exq (w.alloc (.cells #[.string p, .slice l7 n1 l8, .slice j6 n2 j7, .int .i64 st, .slice l9 n3 m0, .string b, .int .i64 t] 51));have n9 := n8.symm;rw [← m4]; try rw [← n8];have o7 := hsa m4 n9;have bw := bal m4;have K1 := ja K0 m4 n9;have k1 := hown j8 bw;have k2 := hown j9 bw;have k3 := hown k0 bw;clear bw m4 n9 K0;obtain ⟨q2, o0⟩ := exq (q1 + 1);obtain ⟨w2, m5⟩ := exq (w1.alloc (.cells #[.string ⟨#[]⟩, .slice none 0 0, .slice none 0 0, .int .i64 0, .slice none 0 0, .string ⟨#[]⟩, .int .i64 0] 51));have o1 : w1.heap.size = q2 := by rw [o0]; exact o7
 rw [← m5]; try rw [← o0];have p1 := hsa m5 o1;have bw := bal m5;have K2 := ja K1 m5 o1;have a3 := hown k1 bw;have a7 := hown k2 bw;have a8 := hown k3 bw;clear bw m5 o1 K1;clear p1 o0 o7 n8;have k4 := c7c (jb K2 1 rfl);have k5 : ∀ o, (w2.alloc o).cell? ⟨q1, 1, none⟩ = some (.slice l7 n1 l8) := fun o => (aA9 (aA6 (jb K2 1 rfl) ((Below.refl _ _).alloc (Nat.le_refl _) o)) 1).trans rfl
 have i6 : ∀ o, (w2.alloc o).frozen? ⟨q1, 1, none⟩ = false := fun o => aD3 (aA6 (jb K2 1 rfl) ((Below.refl _ _).alloc (Nat.le_refl _) o)) 1
 have bA : Below w2.heap.size w2 (w2.alloc (.cells #[] 9)) := (Below.refl _ _).alloc (Nat.le_refl _) _;have a6 : (w2.alloc (.cells #[] 9)).ownsRow w2.heap.size 9 1 (.slice (some ⟨w2.heap.size, 0, none⟩) 0 0) 0 [] := ⟨rfl, .inr ⟨_, 0, #[], rfl, Nat.le_refl _, heap_alloc_new _ _, Nat.le_refl _, Nat.zero_le _, rfl, rfl⟩⟩;have m6 : 0 + n1 ≤ maxLen := by unfold maxLen; omega
 have m7 : (0 + n1) * 16 ≤ 140737488355328 := by omega
 have k6 : w2.heap.size ≤ (w2.alloc (.cells #[] 9)).heap.size := bA.size;go_wp2_with (at_builtin; refine aM6 (by rfl) _ _ _ (by rfl) w2.heap.size 9 o5 (.string ⟨#[]⟩) 1 16 underlying22 o6 m1 m2 m3 rfl (by decide) _ _ _ (by rfl) a6 _ _ _ (by rfl) (Src.texts (aC1 a3.out bA (fun g hg => aA5 a3.out hg))) m6 m7 k6 ?_)
 intro v1 w3 a1 a0;have a2 : w3.ownsRow w2.heap.size 9 1 v1 n1 (xs.map Value.string) := by first | exact a1 | (rw [Nat.zero_add, List.nil_append] at a1; exact a1) | simpa using a1
 clear a1;clear k4 k5 i6;have o8 : Bw w (w3) := (K2.hb.trans (bA.mono K2.hb.size)).grown a0 (Nat.le_trans K2.hb.size k6) (fun g hg => Nat.le_trans K2.hb.size (aB7 a6 hg))
 have g3 : Hid (w3.ownsRow B 9 1 (.slice l7 n1 l8) n1 (xs.map Value.string)) := aA4 a3.out (fun g hg => (a0.block g (Nat.lt_of_lt_of_le (aA5 a3.out hg) bA.size) (fun e => by have h1 := aA5 a3.out hg; simp [Value.ownBlock] at e; omega)).trans (bA.block g (aA5 a3.out hg)))
 have g4 : Hid (w3.ownsRow B 9 1 (.slice j6 n2 j7) n2 (ys.map Value.string)) := aA4 a7.out (fun g hg => (a0.block g (Nat.lt_of_lt_of_le (aA5 a7.out hg) bA.size) (fun e => by have h1 := aA5 a7.out hg; simp [Value.ownBlock] at e; omega)).trans (bA.block g (aA5 a7.out hg)))
 have g5 : Hid (w3.ownsRow B 184 2 (.slice l9 n3 m0) n3 (aE4 fs)) := aA4 a8.out (fun g hg => (a0.block g (Nat.lt_of_lt_of_le (aA5 a8.out hg) bA.size) (fun e => by have h1 := aA5 a8.out hg; simp [Value.ownBlock] at e; omega)).trans (bA.block g (aA5 a8.out hg)))
 have g2 : Hid (w3.heap[q1]? = some (.cells #[.string p, .slice l7 n1 l8, .slice j6 n2 j7, .int .i64 st, .slice l9 n3 m0, .string b, .int .i64 t] 51)) := (a0.block _ (Nat.lt_of_lt_of_le (Array.getElem?_eq_some_iff.1 (jb K2 1 rfl)).1 bA.size) (fun e => by have h1 := (Array.getElem?_eq_some_iff.1 (jb K2 1 rfl)).1; simp [Value.ownBlock] at e; omega)).trans (aA6 (jb K2 1 rfl) bA)
 have o2 : Hid (w3.heap[q2]? = some (.cells #[.string ⟨#[]⟩, .slice none 0 0, .slice none 0 0, .int .i64 0, .slice none 0 0, .string ⟨#[]⟩, .int .i64 0] 51)) := (a0.block _ (Nat.lt_of_lt_of_le (Array.getElem?_eq_some_iff.1 (jb K2 0 rfl)).1 bA.size) (fun e => by have h1 := (Array.getElem?_eq_some_iff.1 (jb K2 0 rfl)).1; simp [Value.ownBlock] at e; omega)).trans (aA6 (jb K2 0 rfl) bA)
 obtain ⟨d2, d3, rfl⟩ := aA0 a2;have d5 : Hid (w3.ownsRow w.heap.size 9 1 (.slice d2 n1 d3) n1 (xs.map Value.string)) := aF5 a2 K2.hb.size;have m8 : Hid (∀ g, (Value.ownBlock (.slice d2 n1 d3)) = some g → g < w3.heap.size) := fun g hg => aA5 a2 hg
 have K3 := jz K2 o8 (jzb o2.out (jzb g2.out (jzn _)));clear a2 a0 m6 m7 k6 a6 bA K2;have k4 := c7f g2.out;go_upto_region 2 with fail
 obtain ⟨w4, j2⟩ := exq (w3.setCell ⟨q1, 1, none⟩ (.slice d2 n1 d3));rw [← j2];have K4 := js K3 1 j2;have p2 : Hid (w3.heap.size ≤ w4.heap.size) := by show _ ≤ _; rw [j2]; simp
 have a9 := aB5 j2 (aA8 g3.out g2.out (by decide)) g3;have a4 := aB5 j2 (aA8 g4.out g2.out (by decide)) g4;have b0 := aB5 j2 (aA8 g5.out g2.out (by decide)) g5;have a5 := aB5 j2 (aA8 d5.out g2.out (by decide)) d5;clear o8 j2 K3;clear k4;have k7 := c7c (jb K4 1 rfl);have k8 : ∀ o, (w4.alloc o).cell? ⟨q1, 2, none⟩ = some (.slice j6 n2 j7) := fun o => (aA9 (aA6 (jb K4 1 rfl) ((Below.refl _ _).alloc (Nat.le_refl _) o)) 2).trans rfl
 have i7 : ∀ o, (w4.alloc o).frozen? ⟨q1, 2, none⟩ = false := fun o => aD3 (aA6 (jb K4 1 rfl) ((Below.refl _ _).alloc (Nat.le_refl _) o)) 2
 have bA : Below w4.heap.size w4 (w4.alloc (.cells #[] 9)) := (Below.refl _ _).alloc (Nat.le_refl _) _;have a6 : (w4.alloc (.cells #[] 9)).ownsRow w4.heap.size 9 1 (.slice (some ⟨w4.heap.size, 0, none⟩) 0 0) 0 [] := ⟨rfl, .inr ⟨_, 0, #[], rfl, Nat.le_refl _, heap_alloc_new _ _, Nat.le_refl _, Nat.zero_le _, rfl, rfl⟩⟩;have m6 : 0 + n2 ≤ maxLen := by unfold maxLen; omega
 have m7 : (0 + n2) * 16 ≤ 140737488355328 := by omega
 have k6 : w4.heap.size ≤ (w4.alloc (.cells #[] 9)).heap.size := bA.size;go_wp2_with (at_builtin; refine aM6 (by rfl) _ _ _ (by rfl) w4.heap.size 9 o5 (.string ⟨#[]⟩) 1 16 underlying22 o6 m1 m2 m3 rfl (by decide) _ _ _ (by rfl) a6 _ _ _ (by rfl) (Src.texts (aC1 a4.out bA (fun g hg => aA5 a4.out hg))) m6 m7 k6 ?_)
 intro v1 w5 a1 a0;have a2 : w5.ownsRow w4.heap.size 9 1 v1 n2 (ys.map Value.string) := by first | exact a1 | (rw [Nat.zero_add, List.nil_append] at a1; exact a1) | simpa using a1
 clear a1;clear k7 k8 i7;have o9 : Bw w (w5) := (K4.hb.trans (bA.mono K4.hb.size)).grown a0 (Nat.le_trans K4.hb.size k6) (fun g hg => Nat.le_trans K4.hb.size (aB7 a6 hg))
 have p3 : Hid (w4.heap.size ≤ w5.heap.size) := Nat.le_trans bA.size a0.size;have g6 : Hid (w5.ownsRow B 9 1 (.slice l7 n1 l8) n1 (xs.map Value.string)) := aA4 a9.out (fun g hg => (a0.block g (Nat.lt_of_lt_of_le (aA5 a9.out hg) bA.size) (fun e => by have h1 := aA5 a9.out hg; simp [Value.ownBlock] at e; omega)).trans (bA.block g (aA5 a9.out hg)))
 have g7 : Hid (w5.ownsRow B 9 1 (.slice j6 n2 j7) n2 (ys.map Value.string)) := aA4 a4.out (fun g hg => (a0.block g (Nat.lt_of_lt_of_le (aA5 a4.out hg) bA.size) (fun e => by have h1 := aA5 a4.out hg; simp [Value.ownBlock] at e; omega)).trans (bA.block g (aA5 a4.out hg)))
 have g8 : Hid (w5.ownsRow B 184 2 (.slice l9 n3 m0) n3 (aE4 fs)) := aA4 b0.out (fun g hg => (a0.block g (Nat.lt_of_lt_of_le (aA5 b0.out hg) bA.size) (fun e => by have h1 := aA5 b0.out hg; simp [Value.ownBlock] at e; omega)).trans (bA.block g (aA5 b0.out hg)))
 have d6 : Hid (w5.ownsRow w.heap.size 9 1 (.slice d2 n1 d3) n1 (xs.map Value.string)) := aA4 a5.out (fun g hg => (a0.block g (Nat.lt_of_lt_of_le (aA5 a5.out hg) bA.size) (fun e => by have h1 := aA5 a5.out hg; simp [Value.ownBlock] at e; omega)).trans (bA.block g (aA5 a5.out hg)))
 have d4 : Hid (w5.heap[q1]? = some (.cells #[.string p, .slice d2 n1 d3, .slice j6 n2 j7, .int .i64 st, .slice l9 n3 m0, .string b, .int .i64 t] 51)) := (a0.block _ (Nat.lt_of_lt_of_le (Array.getElem?_eq_some_iff.1 (jb K4 1 rfl)).1 bA.size) (fun e => by have h1 := (Array.getElem?_eq_some_iff.1 (jb K4 1 rfl)).1; simp [Value.ownBlock] at e; omega)).trans (aA6 (jb K4 1 rfl) bA)
 have o3 : Hid (w5.heap[q2]? = some (.cells #[.string ⟨#[]⟩, .slice none 0 0, .slice none 0 0, .int .i64 0, .slice none 0 0, .string ⟨#[]⟩, .int .i64 0] 51)) := (a0.block _ (Nat.lt_of_lt_of_le (Array.getElem?_eq_some_iff.1 (jb K4 0 rfl)).1 bA.size) (fun e => by have h1 := (Array.getElem?_eq_some_iff.1 (jb K4 0 rfl)).1; simp [Value.ownBlock] at e; omega)).trans (aA6 (jb K4 0 rfl) bA)
 obtain ⟨g9, h0, rfl⟩ := aA0 a2;have d7 : Hid (w5.ownsRow w.heap.size 9 1 (.slice g9 n2 h0) n2 (ys.map Value.string)) := aF5 a2 K4.hb.size;have m9 : Hid (∀ g, (Value.ownBlock (.slice g9 n2 h0)) = some g → w4.heap.size ≤ g) := fun g hg => aB7 a2 hg
 have K5 := jz K4 o9 (jzb o3.out (jzb d4.out (jzn _)));clear a2 a0 m6 m7 k6 a6 bA K4;have k7 := c7f d4.out;go_upto_region 3 with fail
 obtain ⟨w6, j3⟩ := exq (w5.setCell ⟨q1, 2, none⟩ (.slice g9 n2 h0));rw [← j3];have K6 := js K5 1 j3;have k9 := aB5 j3 (aA8 g6.out d4.out (by decide)) g6;have l0 := aB5 j3 (aA8 g7.out d4.out (by decide)) g7;have h3 := aB5 j3 (aA8 g8.out d4.out (by decide)) g8;have i8 := aB5 j3 (aA8 d6.out d4.out (by decide)) d6;have i9 := aB5 j3 (aA8 d7.out d4.out (by decide)) d7;clear o9 j3 K5;clear k7;have l1 := c7c (jb K6 1 rfl);go_wp2_with fail
 refine (cI5 st _ b n3 B fs _ (aB2.of_owns h3.out) hn3).mono ?_;rintro e w7 ⟨vf, rfl, j0, bw⟩;rw [p0.out] at j0;obtain ⟨oG, pG, rfl⟩ := aA0 j0;have K7 := jj K6 (jcR (jN bw) j0 jhn);have h4 := hown k9 bw;have h5 := hown l0 bw;have h6 := hown h3 bw;have d8 := hown i8 bw;have d9 := hown i9 bw;clear j0;clear bw K6;clear l1;have l1 := c7f (jb K7 2 rfl);go_upto_region 4 with fail
 obtain ⟨w8, j4⟩ := exq (w7.setCell ⟨q1, 3, none⟩ (.int .i64 st));rw [← j4];have K8 := js K7 2 j4;have h7 := aB5 j4 (aA8 h4.out (jb K7 2 rfl) (by decide)) h4;have h8 := aB5 j4 (aA8 h5.out (jb K7 2 rfl) (by decide)) h5;have h9 := aB5 j4 (aA8 h6.out (jb K7 2 rfl) (by decide)) h6;have e0 := aB5 j4 (aA8 d8.out (jb K7 2 rfl) (by decide)) d8;have e1 := aB5 j4 (aA8 d9.out (jb K7 2 rfl) (by decide)) d9;clear j4 K7;obtain ⟨w9, j5⟩ := exq (w8.setCell ⟨q1, 4, none⟩ (.slice oG n3 pG));rw [← j5];have K9 := js K8 2 j5;have i0 := aB5 j5 (aA8 h7.out (jb K8 2 rfl) (by decide)) h7;have i1 := aB5 j5 (aA8 h8.out (jb K8 2 rfl) (by decide)) h8;have i2 := aB5 j5 (aA8 h9.out (jb K8 2 rfl) (by decide)) h9;have e2 := aB5 j5 (aA8 e0.out (jb K8 2 rfl) (by decide)) e0;have e3 := aB5 j5 (aA8 e1.out (jb K8 2 rfl) (by decide)) e1;clear j5 K8;obtain ⟨p4, b1⟩ := exq (w9.setCell ⟨q1, 5, none⟩ (.string b));rw [← b1];have j1 := js K9 2 b1;have e4 := aB5 b1 (aA8 i0.out (jb K9 2 rfl) (by decide)) i0;have e5 := aB5 b1 (aA8 i1.out (jb K9 2 rfl) (by decide)) i1;have e6 := aB5 b1 (aA8 i2.out (jb K9 2 rfl) (by decide)) i2;have b2 := aB5 b1 (aA8 e2.out (jb K9 2 rfl) (by decide)) e2;have b3 := aB5 b1 (aA8 e3.out (jb K9 2 rfl) (by decide)) e3;clear b1 K9;clear l1;have p5 := c7c (jb j1 2 rfl);have p6 := c7f (jb j1 1 rfl);go_wp2_with fail
 obtain ⟨p7, b4⟩ := exq (p4.setCell ⟨q2, 0, none⟩ (.string p));rw [← b4];have l2 := js j1 1 b4;have e7 := aB5 b4 (aA8 e4.out (jb j1 1 rfl) (by decide)) e4;have e8 := aB5 b4 (aA8 e5.out (jb j1 1 rfl) (by decide)) e5;have e9 := aB5 b4 (aA8 e6.out (jb j1 1 rfl) (by decide)) e6;have b5 := aB5 b4 (aA8 b2.out (jb j1 1 rfl) (by decide)) b2;have b6 := aB5 b4 (aA8 b3.out (jb j1 1 rfl) (by decide)) b3;clear b4 j1;obtain ⟨p8, b7⟩ := exq (p7.setCell ⟨q2, 1, none⟩ (.slice d2 n1 d3));rw [← b7];have l3 := js l2 1 b7;have f0 := aB5 b7 (aA8 e7.out (jb l2 1 rfl) (by decide)) e7;have f1 := aB5 b7 (aA8 e8.out (jb l2 1 rfl) (by decide)) e8;have f2 := aB5 b7 (aA8 e9.out (jb l2 1 rfl) (by decide)) e9;have b8 := aB5 b7 (aA8 b5.out (jb l2 1 rfl) (by decide)) b5;have b9 := aB5 b7 (aA8 b6.out (jb l2 1 rfl) (by decide)) b6;clear b7 l2;obtain ⟨p9, c0⟩ := exq (p8.setCell ⟨q2, 2, none⟩ (.slice g9 n2 h0));rw [← c0];have l4 := js l3 1 c0;have f3 := aB5 c0 (aA8 f0.out (jb l3 1 rfl) (by decide)) f0;have f4 := aB5 c0 (aA8 f1.out (jb l3 1 rfl) (by decide)) f1;have f5 := aB5 c0 (aA8 f2.out (jb l3 1 rfl) (by decide)) f2;have c1 := aB5 c0 (aA8 b8.out (jb l3 1 rfl) (by decide)) b8;have c2 := aB5 c0 (aA8 b9.out (jb l3 1 rfl) (by decide)) b9;clear c0 l3;obtain ⟨q0, c3⟩ := exq (p9.setCell ⟨q2, 3, none⟩ (.int .i64 st));rw [← c3];have l5 := js l4 1 c3;have f6 := aB5 c3 (aA8 f3.out (jb l4 1 rfl) (by decide)) f3;have f7 := aB5 c3 (aA8 f4.out (jb l4 1 rfl) (by decide)) f4;have f8 := aB5 c3 (aA8 f5.out (jb l4 1 rfl) (by decide)) f5;have c4 := aB5 c3 (aA8 c1.out (jb l4 1 rfl) (by decide)) c1;have c5 := aB5 c3 (aA8 c2.out (jb l4 1 rfl) (by decide)) c2;clear c3 l4;obtain ⟨q3, c6⟩ := exq (q0.setCell ⟨q2, 4, none⟩ (.slice oG n3 pG))
 rw [← c6];have l6 := js l5 1 c6;have f9 := aB5 c6 (aA8 f6.out (jb l5 1 rfl) (by decide)) f6;have g0 := aB5 c6 (aA8 f7.out (jb l5 1 rfl) (by decide)) f7;have g1 := aB5 c6 (aA8 f8.out (jb l5 1 rfl) (by decide)) f8;have c7 := aB5 c6 (aA8 c4.out (jb l5 1 rfl) (by decide)) c4;have c8 := aB5 c6 (aA8 c5.out (jb l5 1 rfl) (by decide)) c5;clear c6 l5;obtain ⟨q4, c9⟩ := exq (q3.setCell ⟨q2, 5, none⟩ (.string b));rw [← c9];have n4 := js l6 1 c9;have n5 := aB5 c9 (aA8 f9.out (jb l6 1 rfl) (by decide)) f9;have n6 := aB5 c9 (aA8 g0.out (jb l6 1 rfl) (by decide)) g0;have n7 := aB5 c9 (aA8 g1.out (jb l6 1 rfl) (by decide)) g1;have d0 := aB5 c9 (aA8 c7.out (jb l6 1 rfl) (by decide)) c7;have d1 := aB5 c9 (aA8 c8.out (jb l6 1 rfl) (by decide)) c8;clear c9 l6;obtain ⟨q5, i3⟩ := exq (q4.setCell ⟨q2, 6, none⟩ (.int .i64 t));rw [← i3];have o4 := js n4 1 i3;have i4 := aB5 i3 (aA8 d0.out (jb n4 1 rfl) (by decide)) d0;have i5 := aB5 i3 (aA8 d1.out (jb n4 1 rfl) (by decide)) d1;clear i3 n4;have n0 := c7c (jb o4 1 rfl);refine bodyPost_ret (v := .agg #[.string p, .slice d2 n1 d3, .slice g9 n2 h0, .int .i64 st, .slice oG n3 pG, .string b, .int .i64 t]) (by simp [results, results38, go_sem, n0]) rfl ?_;exact ⟨_, _, _, rfl, ⟨i4.out, i5.out, (jo o4 0 rfl), fun g hg e => by have h1 := m9.out g e; have h2 := m8.out g hg; have := p2.out; have := p3.out; omega⟩, o4.hb⟩
end Go.Proofs.YtejoifianjgefaaGreatDoor
