/- What the proof of FnExactMount leans on: contracts of the program's and the specification's functions, and plain facts (part 7 of 12). -/
import Derived.Test.YtiobfnpmidjijaaGreatDoorFnExactMountF
set_option maxHeartbeats 16000000
set_option maxRecDepth 100000
namespace Go.Proofs.YtiobfnpmidjijaaGreatDoor
open Go.Proofs.Tryz
open Go.RowKit
open Go.Lib hiding intOf
theorem RdSt.set {w : World} {B b q : Nat} {T : TypeId} {bd : ByteArray} {tl : List Value} {fs : Fs} {left : ByteArray} {fv : Value} {W : World} {bd' : ByteArray} {tl' : List Value} (h : RdSt w B b q T bd tl fs left fv W) (hT : bZ2 T) (hq : B ≤ q) (o : Nat) (v : Value) (e : (⟨fv :: .string bd :: tl⟩ : Array Value).setIfInBounds o v = ⟨fv :: .string bd' :: tl'⟩) : RdSt w B b q T bd' tl' fs left fv (W.setCell ⟨q, o, none⟩ v) := by
 have a0 := h.bq;refine ⟨?_, ?_, ?_, h.low.setCell (p := ⟨q, o, none⟩) hq _⟩
 ·have := h.rd;unfold aK4 at this ⊢;rw [heap_setCell_other _ _ b _ (fun e => a0 e.symm)]; exact this
 ·rw [aA3 _ _ _ _ _ _ _ h.qc, e]
 exact aA9 h.own (fun j hj => heap_setCell_other _ _ j _ (fun e => by
  subst e
  exact bJ1 h.own hT h.qc hj))
theorem RdSt.rdc {w : World} {B b q : Nat} {T : TypeId} {bd : ByteArray} {tl : List Value} {fs : Fs} {left : ByteArray} {fv : Value} {W : World} (h : RdSt w B b q T bd tl fs left fv W) : W.cell? ⟨b, 0, none⟩ = some (.string left) := h.rd.cell
theorem cJ7 (w0 : World) (B b q : Nat) (T : TypeId) (bd : Tx) (tl : List Value) (s : Tx) (fv : Value) (w : World) (hst : RdSt w0 B b q T bd tl [] s fv w) (hT : bZ2 T) (hB : B ≤ w.heap.size) (hbB : B ≤ b) (hqB : B ≤ q) (hl : s.size ≤ 4000000) (hlen : aH5 w0) (hlB : 1 < B) :
  Calls prog 361 #[.pointer (some ⟨q, 0, none⟩), .pointer (some ⟨b, 0, none⟩)] w fun e w' => e = .returned (.tuple #[]) ∧ ∃ fv' left, RdSt w0 B b q T (aM9 s) tl (aP4 s) left fv' w' := by
 have a5 := hid hst;have b1 := hid hlen;clear hst hlen;go_enter func361, ntmps361;go_wp2
 go_loopw [4] (fun i wr => ∃ k : Nat, k ≤ 9 ∧ i = .int .i64 (k : Int) ∧ B ≤ wr.heap.size ∧ Hid (∃ fv', RdSt w0 B b q T bd tl (aJ9 ([], s) k).1 (aJ9 ([], s) k).2 fv' wr)) (fun i _ => 9 - (intOf i).toNat)
 case atStart => exact ⟨0, by omega, rfl, hB, ⟨fv, a5.out⟩⟩
 case round =>
  obtain ⟨k, hk, rfl, a6, hx⟩ := hrel;obtain ⟨a9, a0⟩ := hx.out;obtain ⟨z1, z2, _⟩ := bD7 s k;obtain ⟨x9, b2⟩ := exq (aJ9 ([], s) k);rw [← b2] at a0 z1 z2;obtain ⟨a4, lf⟩ := x9;have z1 : a4.length ≤ k := z1;have z2 : lf.size ≤ s.size := z2;have a0 : RdSt w0 B b q T bd tl a4 lf a9 wr := a0;have HX : Hid (aJ9 ([], s) k = (a4, lf)) := b2.symm;clear hx b2;by_cases hlt : (k : Int) < 9
  rotate_left
  ·obtain rfl : k = 9 := by omega
   have H9 := HX;go_wp2_with fail
   refine (bG9 b lf lnE _ a0.rd).mono ?_;rintro e w1 ⟨rfl, a7⟩;have a1 := a0.took a6 hbB a7;have a3 : B ≤ w1.heap.size := Nat.le_trans a6 a7.2.size;have y1 := aI6 lf lnE
   have b3 : Hid (aK5 lf lnE = aM9 s) := by
    show _ = _
    unfold aM9
    rw [H9.out]
   have b4 : Hid (a4 = aP4 s) := by
    show _ = _
    unfold aP4
    rw [H9.out]
   generalize aK5 lf lnE = body at *;have b5 := a1.rdc;clear a0 a7 a6;go_wp2_with fail
   refine (aF3 body _ (by omega)).mono ?_;rintro e w2 ⟨rfl, b0⟩;have a2 := a1.below a3 b0;obtain ⟨_, b6, _, b7⟩ := a2.qcell;have HS : Hid (RdSt w0 B b q T body tl a4 body a9 (w2.setCell ⟨q, 1, none⟩ (.string body))) := a2.set hT hqB 1 (.string body) rfl;clear a1 a2 b0 b5 a3;go_wp2_with fail
   exact bodyPost_end (v := .tuple #[]) (by simp [results, results361, go_sem]) rfl ⟨rfl, a9, body, by rw [← b3.out, ← b4.out]; exact HS.out⟩
  go_wp2_with fail
  refine (bV1 b lf _ a0.rd).mono ?_;rintro e w1 ⟨rfl, rfl⟩;by_cases hh : hasP lf lnE = true
  rotate_left
  ·have HS : Hid (aJ9 ([], s) (k + 1) = (bZ3 a4 lf, cE2 lf)) := by
    show _ = _
    rw [aJ9, HX.out]
    unfold bF2
    rw [if_neg hh]
    rfl
   have hf : hasP lf lnE = false := by simpa using hh
   rw [hf];clear hh hf;go_wp2_with fail
   refine (cJ5 w0 B b q T bd tl a4 lf a9 _ a0 hT a6 hbB hqB (by omega) (by omega) b1.out hlB).mono ?_;rintro e w2 ⟨rfl, b8, a8⟩;have b9 := hid a8
   have c0 : B ≤ w2.heap.size := by
    have := (Array.getElem?_eq_some_iff.1 a8.qc).1
    omega
   clear a8 a0;go_wp2_with fail
   go_roundw
   case rel => exact ⟨k + 1, by omega, by go_num, c0, ⟨b8, by rw [HS.out]; exact b9.out⟩⟩
   case measure => simp [intOf]; omega
  rw [hh]
  have H9 : Hid (aJ9 ([], s) 9 = (a4, lf)) := by
   show _ = _
   have := bX6 ([], s) k (by rw [HX.out]; exact hh) (9 - k)
   rw [show k + (9 - k) = 9 by omega, HX.out] at this
   exact this
  clear hh;go_wp2_with fail
  refine (bG9 b lf lnE _ a0.rd).mono ?_;rintro e w1 ⟨rfl, a7⟩;have a1 := a0.took a6 hbB a7;have a3 : B ≤ w1.heap.size := Nat.le_trans a6 a7.2.size;have y1 := aI6 lf lnE
  have b3 : Hid (aK5 lf lnE = aM9 s) := by
   show _ = _
   unfold aM9
   rw [H9.out]
  have b4 : Hid (a4 = aP4 s) := by
   show _ = _
   unfold aP4
   rw [H9.out]
  generalize aK5 lf lnE = body at *;have b5 := a1.rdc;clear a0 a7 a6;go_wp2_with fail
  refine (aF3 body _ (by omega)).mono ?_;rintro e w2 ⟨rfl, b0⟩;have a2 := a1.below a3 b0;obtain ⟨_, b6, _, b7⟩ := a2.qcell;have HS : Hid (RdSt w0 B b q T body tl a4 body a9 (w2.setCell ⟨q, 1, none⟩ (.string body))) := a2.set hT hqB 1 (.string body) rfl;clear a1 a2 b0 b5 a3;go_wp2_with fail
  exact bodyPost_end (v := .tuple #[]) (by simp [results, results361, go_sem]) rfl ⟨rfl, a9, body, by rw [← b3.out, ← b4.out]; exact HS.out⟩
theorem cE4 (w0 : World) (B b q : Nat) (s : Tx) (w : World) (hst : RdSt w0 B b q 227 ⟨#[]⟩ [.int .i64 0] [] s (.slice none 0 0) w) (hT : bZ2 227) (hB : B ≤ w.heap.size) (hbB : B ≤ b) (hqB : B ≤ q) (hl : s.size ≤ 4000000) (hlen : aH5 w0) (hlB : 1 < B) :
  Calls prog 337 #[.pointer (some ⟨q, 0, none⟩), .pointer (some ⟨b, 0, none⟩)] w fun e w' => e = .returned (.tuple #[]) ∧ ∃ fv left, ∃ st : Int, (aO1 (bI5 s) → st = valL (bI5 s).data.toList) ∧ RdSt w0 B b q 227 (aM9 (aL8 s)) [.int .i64 st] (aP4 (aL8 s)) left fv w' := by
 have HT := hid hT;have a2 := hid hlen;clear hT hlen;have a8 := a2.out.below hst.low hlB;go_enter func337, ntmps337;go_wp2_with fail
 refine (bG9 b s aJ6 _ hst.rd).mono ?_;rintro e w1 ⟨rfl, b0⟩;have a0 := hst.took hB hbB b0;have b1 : B ≤ w1.heap.size := Nat.le_trans hB b0.2.size;have z1 := aI6 s aJ6;obtain ⟨r1, b2⟩ := exq (aK5 s aJ6);have c1 := hid b2;rw [← b2] at a0 z1;have a1 := a2.out.below a0.low hlB;clear hst b0 a8 hB b2;go_wp2_with fail
 refine (aR8 b r1 blE _ a0.rd (by omega) a1).mono ?_;rintro e w2 ⟨rfl, b3⟩;have a3 := a0.took b1 hbB b3;have b4 : B ≤ w2.heap.size := Nat.le_trans b1 b3.2.size;have z2 := aH1 r1 blE;have z3 := aF9 r1 blE;obtain ⟨r2, b5⟩ := exq (cutB r1 blE);obtain ⟨d, hd⟩ := exq (cutA r1 blE);have c3 := hid b5
 have HD : Hid (d = bI5 s) := by
  show _ = _
  rw [hd, c1.out]
  rfl
 rw [← b5] at a3 z2;rw [← hd] at z3;rw [← hd];clear b5 hd b3 a0 b1 a1;go_wp2_with fail
 refine (aL0 d _ (by unfold maxLen; omega)).mono ?_;rintro e w3 ⟨t, st, rfl, k1, k2, _, b6⟩;have a4 := a3.below b4 b6;have c4 : B ≤ w3.heap.size := Nat.le_trans b4 b6.size
 have HK : Hid (aO1 (bI5 s) → st = valL (bI5 s).data.toList) := fun h => by
  rw [← HD.out] at h ⊢
  exact k2 (k1.2 h)
 have a5 : w3.cell? ⟨q, 2, none⟩ = some (.int .i64 0) ∧ w3.frozen? ⟨q, 2, none⟩ = false := by
  have := a4.qc
  constructor <;> simp [World.cell?, World.frozen?, this]
 obtain ⟨c2, f2⟩ := a5;have a9 := a4.set HT.out hqB 2 (.int .i64 st) rfl;have b7 := hid a9;have b8 : B ≤ (w3.setCell ⟨q, 2, none⟩ (.int .i64 st)).heap.size := by simp; omega
 clear a3 a4 a9 b6 k1 k2 b4 c4;go_wp2_with fail
 refine (bG9 b r2 cN1 _ b7.out.rd).mono ?_;rintro e w6 ⟨rfl, b9⟩;have a6 := b7.out.took b8 hbB b9;have c5 : B ≤ w6.heap.size := Nat.le_trans b8 b9.2.size;have z4 := aI6 r2 cN1;obtain ⟨r3, c0⟩ := exq (aK5 r2 cN1)
 have c6 : Hid (r3 = aL8 s) := by
  show _ = _
  rw [c0, c3.out, c1.out]
  rfl
 rw [← c0] at a6 z4;clear c0 b9 b7 b8 c2 f2;go_wp2_with fail
 refine (cJ7 w0 B b q _ _ _ r3 _ _ a6 HT.out c5 hbB hqB (by omega) a2.out hlB).mono ?_;rintro e w7 ⟨rfl, fv, lf, a7⟩;rw [c6.out] at a7;have c7 : Hid _ := a7;clear a7 a6;go_wp2_with fail
 exact bodyPost_end (v := .tuple #[]) (by simp [results, results337, go_sem]) rfl ⟨rfl, fv, lf, st, HK.out, c7.out⟩
theorem cO8 (r : Tx) : (aP4 r).length ≤ 9 ∧ ∀ i, i < (aP4 r).length → (aD0 (aP4 r) i).size ≤ r.size ∧ (aH7 (aP4 r) i).size ≤ r.size := by
 have h : (aP4 r).length ≤ 9 ∧ (aJ9 ([], r) 9).2.size ≤ r.size ∧ ∀ f ∈ aP4 r, f.1.size ≤ r.size ∧ f.2.size ≤ r.size := bD7 r 9;generalize aP4 r = l at *;refine ⟨h.1, fun i hi => ?_⟩
 have e := dB0 l i hi;have := h.2.2 (l[i]) (List.getElem_mem _);rw [← e] at this;exact this
theorem cE5 (r : Tx) : (aM9 r).size ≤ r.size := by
 obtain ⟨_, h2, _⟩ := bD7 r 9;exact Nat.le_trans (aI6 _ _) h2
theorem cE6 {w : World} {base : Nat} {t : TypeId} {size : Nat} {v x : Value} {n : Nat} {xs : List Value} {R o : Nat} {cs : Array Value} {T : TypeId} {fr : Nat × Nat} (h : w.ownsRow base t size v n xs) (hT : T ≠ t) (hR : w.heap[R]? = some (.cells cs T fr)) : (w.setCell ⟨R, o, none⟩ x).ownsRow base t size v n xs ∧ ∃ cs', (w.setCell ⟨R, o, none⟩ x).heap[R]? = some (.cells cs' T fr) :=
 ⟨aA9 h (fun j hj => heap_setCell_other _ _ j _ (fun e => by
  subst e
  exact bJ1 h hT hR hj)), _, aA3 _ _ _ _ _ _ _ hR⟩
theorem bL8 (s : Tx) (w : World) (hs : s.size ≤ 3000000) (htab : aG9 w) (hlen : aH5 w) :
  Calls prog 316 #[.string s] w fun e w' => dC5 s w e w' := by
 have d4 := hlen.lt;have a0 : aH5 (w.alloc (.cells #[.int .i64 0, .slice none 0 0, .string ⟨#[]⟩] 34)) := hlen.below ((Below.refl _ _).alloc (Nat.le_refl _) _) d4;have a6 : Below (w.heap.size + 1) (w.alloc (.cells #[.int .i64 0, .slice none 0 0, .string ⟨#[]⟩] 34)) (((w.alloc (.cells #[.int .i64 0, .slice none 0 0, .string ⟨#[]⟩] 34)).alloc (.cells #[.slice none 0 0, .string ⟨#[]⟩, .int .i64 0] 227)).alloc (.cells #[.string s] 285)) := ((Below.refl _ _).alloc (by simp) _).alloc (by simp) _
 have a7 : RdSt (w.alloc (.cells #[.int .i64 0, .slice none 0 0, .string ⟨#[]⟩] 34)) (w.heap.size + 1) (w.heap.size + 1 + 1) (w.heap.size + 1) 227 ⟨#[]⟩ [.int .i64 0] [] s (.slice none 0 0) (((w.alloc (.cells #[.int .i64 0, .slice none 0 0, .string ⟨#[]⟩] 34)).alloc (.cells #[.slice none 0 0, .string ⟨#[]⟩, .int .i64 0] 227)).alloc (.cells #[.string s] 285)) := by
  refine ⟨?_, ?_, ⟨rfl, .inl ⟨rfl, rfl⟩⟩, a6⟩
  ·have := heap_alloc_new ((w.alloc (.cells #[.int .i64 0, .slice none 0 0, .string ⟨#[]⟩] 34)).alloc (.cells #[.slice none 0 0, .string ⟨#[]⟩, .int .i64 0] 227)) (.cells #[.string s] 285)
   unfold aK4
   simpa using this
  ·have h1 := heap_alloc_new (w.alloc (.cells #[.int .i64 0, .slice none 0 0, .string ⟨#[]⟩] 34)) (.cells #[.slice none 0 0, .string ⟨#[]⟩, .int .i64 0] 227)
   rw [heap_alloc_old _ _ (by simp)]
   simpa using h1
 go_enter func316, ntmps316;go_wp2_with fail
 refine (cE4 _ (w.heap.size + 1) _ _ s _ a7 (by unfold bZ2; decide) (by simp) (by omega) (Nat.le_refl _) (by omega) a0 (by omega)).mono ?_;rintro e w1 ⟨rfl, fv, lf, m, a8, a9⟩;obtain ⟨R, hR⟩ := exq (w.heap.size);obtain ⟨q, hq⟩ := exq (w.heap.size + 1);have c3 : w.heap.size ≤ R := by omega
 obtain ⟨fs, b3⟩ := exq (aP4 (aL8 s));obtain ⟨bd, b4⟩ := exq (aM9 (aL8 s));rw [← b3, ← b4] at a9;obtain ⟨y1, y2⟩ := cO8 (aL8 s);have y3 := cE5 (aL8 s)
 have y4 : (aL8 s).size ≤ s.size := by
  unfold aL8
  exact Nat.le_trans (aI6 _ _) (Nat.le_trans (aH1 _ _) (aI6 _ _))
 rw [← b3] at y1 y2;rw [← b4] at y3;have b5 : bd.size ≤ maxLen := by unfold maxLen; omega
 obtain ⟨n, hn⟩ := exq fs.length
 have b6 : aR0 n fs := fun i hi => by
  have := y2 i (by omega)
  unfold maxLen
  omega
 have HC : Hid (∀ m' a4 b', aJ7 s m' a4 b' → m = m' ∧ fs = a4 ∧ bd = b') := fun m' a4 b' h => by
  obtain ⟨e1, e3, e4⟩ := dC2 h
  have hr := h.1.1
  have h2 := bQ1 m'.toNat (by omega)
  rw [← e1] at h2
  have h3 := a8 h2
  rw [e1, show (aB7 m'.toNat).data.toList = numL m'.toNat from rfl, aK3 _ (by omega)] at h3
  exact ⟨by omega, by rw [b3, e3], by rw [b4, e4]⟩
 have hown := a9.own;rw [← hn] at hown;obtain ⟨oa, cp, rfl⟩ := aA0 hown;have b7 := a9.qc;rw [← hq] at b7;have a5 := a9.low;have c4 : Bw w w1 := ((Below.refl _ w).alloc (Nat.le_refl _) _).trans (a5.mono (by omega));have c5 : q < w1.heap.size := (blt b7)
 have d5 : w1.heap[R]? = some (.cells #[.int .i64 0, .slice none 0 0, .string ⟨#[]⟩] 34) := by
  rw [hR, a5.block _ (by omega)]
  exact heap_alloc_new w _
 have HZ : Hid (∀ W, Below w1.heap.size w1 W → W.heap[R]? = some (.cells #[.int .i64 0, .slice none 0 0, .string ⟨#[]⟩] 34) ∧ Bw w W) := fun W h =>
  ⟨by rw [h.block _ (by omega)]; exact d5, c4.trans (h.mono c4.size)⟩
 have HQ : Hid (∀ W, Below w1.heap.size w1 W → (W.cell? ⟨q, 0, none⟩ = some (.slice oa n cp) ∧ W.cell? ⟨q, 1, none⟩ = some (.string bd) ∧ W.cell? ⟨q, 2, none⟩ = some (.int .i64 m)) ∧ aB4 W w.heap.size (.slice oa n cp) n fs ∧ W.ownsRow w.heap.size 232 2 (.slice oa n cp) n (aE5 fs)) := fun W h => by
  have hh : W.heap[q]? = _ := (h.block q c5).trans b7
  have ho : W.ownsRow w.heap.size 232 2 (.slice oa n cp) n (aE5 fs) := aF5 (aA9 hown (fun j hj => h.block j (aR9 hown hj).2)) (by omega)
  exact ⟨⟨by simp [World.cell?, hh], by simp [World.cell?, hh], by simp [World.cell?, hh]⟩, aB4.of_owns ho, ho⟩
 have c6 := hid htab;have HN := hid hn;have e2 : Hid (Below w1.heap.size w1 w1) := Below.refl _ _;rw [← hq, ← hR];have n9 : n ≤ 9 := by omega
 clear a9 hown b7 a5 c4 d5 a7 a6 hlen a0 htab hn b3 b4 y1 y2 y3 y4 hR hq hs d4 a8;obtain ⟨⟨d0, d1, d2⟩, d6, _⟩ := HQ.out w1 e2.out;go_wp2_with fail
 refine (bJ3 m _ bd n w.heap.size fs _ d6 (by omega) b6 b5).mono ?_;rintro e w2 ⟨b1, rfl, b8, d7⟩;have b0 : Hid (Below w1.heap.size w1 w2) := d7;clear d0 d1 d2 d6 d7;obtain ⟨⟨d0, d1, d2⟩, c7, _⟩ := HQ.out w2 b0.out;cases b1
 ·have c8 : Hid (∀ m fs b, ¬ aJ7 s m fs b) := fun m' a4 b' h => by
   obtain ⟨e1, e3, e4⟩ := HC.out m' a4 b' h
   subst e1 e3 e4
   have := b8.2 h.1
   cases this
  obtain ⟨z, a1⟩ := HZ.out w2 b0.out;obtain ⟨⟨c0, c1, c2⟩, f0, f1, f2⟩ := aC3 z;obtain ⟨⟨k0, k1, k2⟩, _⟩ := aC3 (aL4 z (.int .i64 0) (.slice none 0 0) (.string ⟨#[]⟩));have b2 : Hid (Bw w (aD2 w2 R (.int .i64 0) (.slice none 0 0) (.string ⟨#[]⟩))) := aH0 a1 c3;unfold aD2 at k0 k1 k2;clear z a1 b8 c7 b6 b5;go_wp2_with fail
  exact bodyPost_ret (v := .tuple #[.agg #[.int .i64 0, .slice none 0 0, .string ⟨#[]⟩], .bool false]) (by simp [results, results316, go_sem, k0, k1, k2]) rfl (.inr ⟨rfl, c8.out, b2.out⟩)
 have HP : Hid (aN1 m fs bd) := b8.1 rfl;have d8 : aG9 w2 := c6.out.below (HZ.out w2 b0.out).2;clear b8;go_wp2_with fail
 refine (bK9 m _ bd n w.heap.size fs _ c7 (by omega) b6 b5 d8).mono ?_;rintro e w3 ⟨u, rfl, ku, _, d9⟩;have HU : Hid (u = aL7 m fs bd) := ku HP.out;have b9 : Hid (Below w1.heap.size w1 w3) := b0.out.trans (d9.mono b0.out.size);clear d0 d1 d2 c7 d9 ku d8 b6 b5;obtain ⟨⟨d0, d1, d2⟩, _, a2⟩ := HQ.out w3 b9.out;by_cases hus : u = s
 rotate_left
 ·have c8 : Hid (∀ m fs b, ¬ aJ7 s m fs b) := fun m' a4 b' h => by
   obtain ⟨e1, e3, e4⟩ := HC.out m' a4 b' h
   subst e1 e3 e4
   exact hus (HU.out.trans h.2)
  have e5 := aB8 hus;obtain ⟨z, a1⟩ := HZ.out w3 b9.out;obtain ⟨⟨c0, c1, c2⟩, f0, f1, f2⟩ := aC3 z;obtain ⟨⟨k0, k1, k2⟩, _⟩ := aC3 (aL4 z (.int .i64 0) (.slice none 0 0) (.string ⟨#[]⟩));have b2 : Hid (Bw w (aD2 w3 R (.int .i64 0) (.slice none 0 0) (.string ⟨#[]⟩))) := aH0 a1 c3;unfold aD2 at k0 k1 k2;clear z a1 hus a2;go_wp2_with fail
  exact bodyPost_ret (v := .tuple #[.agg #[.int .i64 0, .slice none 0 0, .string ⟨#[]⟩], .bool false]) (by simp [results, results316, go_sem, k0, k1, k2]) rfl (.inr ⟨rfl, c8.out, b2.out⟩)
 have e6 : Hid (aJ7 s m fs bd) := ⟨HP.out, by rw [← HU.out]; exact hus⟩;have e5 : (u.toList == s.toList) = true := (aD3 _ _).2 hus;clear hus a2;go_wp2_with fail
 refine (dE4 m oa n cp bd _).mono ?_;rintro e w4 ⟨rfl, e0⟩;have c9 : Below w1.heap.size w1 w4 := b9.out.trans (e0.mono b9.out.size);obtain ⟨_, _, a3⟩ := HQ.out w4 c9;obtain ⟨z, a1⟩ := HZ.out w4 c9;obtain ⟨⟨c0, c1, c2⟩, f0, f1, f2⟩ := aC3 z;obtain ⟨⟨k0, k1, k2⟩, _⟩ := aC3 (aL4 z (.int .i64 m) (.slice oa n cp) (.string bd));have b2 : Hid (Bw w (aD2 w4 R (.int .i64 m) (.slice oa n cp) (.string bd))) := aH0 a1 c3
 have d3 : Hid ((aD2 w4 R (.int .i64 m) (.slice oa n cp) (.string bd)).ownsRow w.heap.size 232 2 (.slice oa n cp) fs.length (aE5 fs)) := by
  show World.ownsRow _ _ _ _ _ _ _
  unfold aD2
  rw [← HN.out]
  obtain ⟨o1, _, r1⟩ := cE6 (o := 0) (x := .int .i64 m) a3 (by decide) z
  obtain ⟨o2, _, r2⟩ := cE6 (o := 1) (x := .slice oa n cp) o1 (by decide) r1
  exact (cE6 (o := 2) o2 (by decide) r2).1
 unfold aD2 at k0 k1 k2;clear z a1 a3 c9 e0 d0 d1 d2;go_wp2_with fail
 exact bodyPost_ret (v := .tuple #[.agg #[.int .i64 m, .slice oa n cp, .string bd], .bool true]) (by simp [results, results316, go_sem, k0, k1, k2]) rfl (.inl ⟨m, fs, bd, _, rfl, e6.out, d3.out, b2.out⟩)
attribute [local go_sem] Oper.semAt_some
theorem bC7 (v : Value) (n base : Nat) (fs : Fs) (w : World) (hv : aB4 w base v n fs) (hn : n ≤ 1073741824) (hcp : aU0 fs) (hsz : (getV fs aF0).size ≤ 1048576) :
  Calls prog 184 #[v] w fun e w' => bD2 w.heap.size (aC1 fs) w e w' := by
 obtain ⟨s, hs⟩ := exq (getV fs aF0);have HS := hid hs.symm;have HE : Hid (aC1 fs = (aR6 s).map aL1) := by show _ = _; unfold aC1; rw [HS.out]
 rw [← hs] at hsz;have a2 := (bE9 s).1;clear hs;go_enter func184, ntmps184;go_wp2_with fail
 refine (bQ4 v n base fs aF0 _ hv hn hcp).mono ?_;rintro e w1 ⟨rfl, b1⟩;rw [HS.out];clear hv;go_wp2_with fail
 refine (cB6 s _ hsz).mono ?_;rintro e w2 ⟨V, rfl, O, b2⟩;obtain ⟨xs, a3⟩ := exq (aR6 s);rw [← a3] at a2 O HE;obtain ⟨m, hm⟩ := exq xs.length;rw [← hm] at a2 O;have HM := hid hm.symm;have O := cG2 O b1.size;have b2 : Bw w w2 := b1.trans (b2.mono b1.size);clear a3 hm b1;rcases aM8 O with ⟨oa, ca, rfl, h0, h1⟩ | ⟨g, cap, rfl, hp, r1⟩
 ·subst h0 h1;go_wp2_with fail
  refine wp_loop_rounds 1 ?_;rw [rounds_succ];go_wp2_with fail
  go_ret;exact bD2.of (by rw [HE.out]; rfl) rfl O b2
 clear O;have a5 : Hid (Bw w w2) := b2;have a6 : Hid (aF1 w.heap.size w2 g m cap (loTo xs 0)) := by show aF1 _ _ _ _ _ _; rw [cH2]; exact r1
 clear b2 r1;go_wp2_with fail
 go_loopw [17] (fun i wr => ∃ j : Nat, j ≤ m ∧ i = .int .i64 (j : Int) ∧ Hid (Bw w wr) ∧ Hid (aF1 w.heap.size wr g m cap (loTo xs j))) (fun i _ => m - (intOf i).toNat)
 case atStart => exact ⟨0, Nat.zero_le _, rfl, a5, a6⟩
 case round =>
  obtain ⟨j, hj, rfl, HB, HR⟩ := hrel;by_cases hlt : j < m
  rotate_left
  ·obtain rfl : j = m := by omega
   go_wp2_with fail
   go_ret;exact bD2.of (by rw [HE.out, bM7 xs j (by rw [HM.out]; exact Nat.le_refl _)]) (by rw [bM7 xs j (by rw [HM.out]; exact Nat.le_refl _), List.length_map, HM.out]) HR.out.owns HB.out
  have a7 : (j : Int) < (m : Int) := by omega
  obtain ⟨x, hx⟩ := exq (aA7 xs j);have hc := HR.out.cell j hlt;rw [dB4, ← hx] at hc;have a4 : Hid ((loTo xs j).set j (aL1 x) = loTo xs (j + 1)) := by show _ = _; rw [hx]; exact cH3 xs j (by rw [HM.out]; exact hlt)
  clear hx;go_wp2_with fail
  refine (cB2 x _).mono ?_;rintro e w3 ⟨rfl, a1⟩;have a0 := HR.out.below a1 HR.out.lt;have b0 := a0.cell j hlt;have b3 := a0.frozen j;have a8 : Hid (Bw w (w3.setCell ⟨g, j, none⟩ (.string (aL1 x)))) := (HB.out.trans (a1.mono HB.out.size)).setCell HR.out.base _
  have a9 : Hid (aF1 w.heap.size (w3.setCell ⟨g, j, none⟩ (.string (aL1 x))) g m cap (loTo xs (j + 1))) := by
   show aF1 _ _ _ _ _ _
   rw [← a4.out]
   exact a0.set j hlt _
  clear a1 a0 HB HR a4 hc;go_wp2_with fail
  go_roundw
  case rel => exact ⟨j + 1, by omega, by go_num, a8, a9⟩
  case measure => simp [intOf]; omega
theorem RdX.notLen {w : World} {b : Nat} {left : ByteArray} {tl : List Value} {T : TypeId} (h : RdX w b left tl T) (hm : aH5 w) : 1 ≠ b := fun e => by
 obtain ⟨m, hm⟩ := hm
 have hc := h.cell
 rw [← e, hm] at hc
 cases hc
theorem aH5.grown {w w' : World} {b : Nat} (h : aH5 w) (hg : w.grownBy w' (some b)) (hb : 1 ≠ b) : aH5 w' := by
 have a0 := h.lt;obtain ⟨m, hm⟩ := h;refine ⟨m, ?_⟩;rw [← hm];unfold World.cell?;rw [hg.block _ a0 (fun e => hb (Option.some.inj e))]
theorem RdX.set {w : World} {b : Nat} {left : ByteArray} {tl : List Value} {T : TypeId} (h : RdX w b left tl T) (k : Nat) (x : Value) : RdX (w.setCell ⟨b, k + 1, none⟩ x) b left (tl.set k x) T := by
 have h2 := aA3 w b (k + 1) _ _ _ x h;unfold RdX;simpa using h2
theorem RdX.at {w : World} {b : Nat} {left : ByteArray} {tl : List Value} {T : TypeId} (h : RdX w b left tl T) (k : Nat) : w.cell? ⟨b, k + 1, none⟩ = tl[k]? := by
 unfold RdX at h;simp [World.cell?, h]
theorem RdX.fr {w : World} {b : Nat} {left : ByteArray} {tl : List Value} {T : TypeId} (h : RdX w b left tl T) (k : Nat) : w.frozen? ⟨b, k, none⟩ = false := by
 unfold RdX at h;simp [World.frozen?, h]
theorem RdX.lt {w : World} {b : Nat} {left : ByteArray} {tl : List Value} {T : TypeId} (h : RdX w b left tl T) : b < w.heap.size := (blt h)
theorem RdX.below {w w' : World} {b : Nat} {left : ByteArray} {tl : List Value} {T : TypeId} (h : RdX w b left tl T) (hb : Below w.heap.size w w') : RdX w' b left tl T := (hb.block b h.lt).trans h
theorem cJ8 (b : Nat) (s : Tx) (a1 : Value) (tl : List Value) (w : World) (h : RdX w b s (a1 :: tl) 288) (ha : ∃ x, a1 = .string x) (hl : s.size ≤ 4000000) (hm : aH5 w) :
  Calls prog 286 #[.pointer (some ⟨b, 0, none⟩)] w fun e w' => e = .returned (.tuple #[]) ∧ RdX w' b (bU8 s) (.string (cutA (aK5 s objW) blE) :: tl) 288 ∧ w.grownBy w' (some b) := by
 obtain ⟨x0, rfl⟩ := ha;have a2 : Hid (1 ≠ b) := h.notLen hm;have HZ : Hid ((aK5 s objW).size ≤ s.size) := aI6 _ _;go_enter func286, ntmps286;go_wp2_with fail
 refine (dE3 b s objW _ _ _ h).mono ?_;rintro e w1 ⟨rfl, h1, g1⟩;have a0 := hm.grown g1 a2.out;clear h hm;go_wp2_with fail
 refine (bH0 b _ blE _ _ _ h1 (by have := HZ.out; omega) a0).mono ?_;rintro e w2 ⟨rfl, h2, g2⟩;have G2 : Hid (w.grownBy w2 (some b)) := aB6 g1 g2;obtain ⟨x, hx⟩ := exq (cutA (aK5 s objW) blE);have a4 : x.size ≤ 4000000 := by rw [hx]; have := aF9 (aK5 s objW) blE; have := HZ.out; omega
 have H2 := hid h2;rw [← hx];have a3 := hid hx;clear h1 g1 g2 h2 hx a0;go_wp2_with fail
 refine (aF3 x _ (by omega)).mono ?_;rintro e w3 ⟨rfl, bw⟩;have h3 := H2.out.below bw;have hc : w3.cell? ⟨b, 1, none⟩ = some (.string x0) := (h3.at 0).trans rfl;have hf := h3.fr 1
 have HE : Hid (RdX (w3.setCell ⟨b, 1, none⟩ (.string x)) b (bU8 s) (.string (cutA (aK5 s objW) blE) :: tl) 288 ∧ w.grownBy (w3.setCell ⟨b, 1, none⟩ (.string x)) (some b)) := ⟨by
  have h : RdX (w3.setCell ⟨b, 1, none⟩ (.string x)) b (bU8 s) (.string x :: tl) 288 := h3.set 0 _
  have e : (Value.string (cutA (aK5 s objW) blE)) = .string x := by rw [a3.out]
  rw [e]
  exact h, aB6 (aB6 G2.out (aE6 bw _)) (aD9 _ _ _ _)⟩
 clear h3 H2 bw G2;go_wp2_with fail
 exact bodyPost_end (v := .tuple #[]) (by simp [results, results286, go_sem]) rfl ⟨rfl, HE.out⟩
theorem cJ9 (b : Nat) (s : Tx) (a1 a2 a3 a4 a5 a6 : Value) (t0 : Int) (tl : List Value) (w : World) (h : RdX w b s (a1 :: a2 :: a3 :: a4 :: a5 :: a6 :: .int .i64 t0 :: tl) 288) (hl : s.size ≤ 4000000) (hm : aH5 w) :
  Calls prog 287 #[.pointer (some ⟨b, 0, none⟩)] w fun e w' => e = .returned (.tuple #[]) ∧ ∃ t : Int, (0 ≤ t ∧ t ≤ 1000000) ∧ (aO1 (cutA s blE) → t = valL (cutA s blE).data.toList) ∧ RdX w' b (cutB s blE) (a1 :: a2 :: a3 :: a4 :: a5 :: a6 :: .int .i64 t :: tl) 288 ∧ w.grownBy w' (some b) := by
 go_enter func287, ntmps287;go_wp2_with fail
 refine (bH0 b _ blE _ _ _ h hl hm).mono ?_;rintro e w2 ⟨rfl, h2, g2⟩;obtain ⟨x, hx⟩ := exq (cutA s blE);have a9 := hid hx;have b0 : x.size ≤ maxLen := by rw [hx]; have := aF9 s blE; unfold maxLen; omega
 have H2 := hid h2;have G2 : Hid (w.grownBy w2 (some b)) := g2;rw [← hx];clear h hm h2 g2 hx;go_wp2_with fail
 refine (aL0 x _ b0).mono ?_;rintro e w3 ⟨bo, n, rfl, a0, a7, a8, bw⟩
 have b1 : Hid (0 ≤ n ∧ n ≤ 1000000) := by
  show _ ∧ _
  cases bo with
  | false => rw [a8 rfl]; decide
  | true =>
   have h1 := (a0.1 rfl).2.2.2
   have h2 := a7 rfl
   omega
 have b2 : Hid (aO1 (cutA s blE) → n = valL (cutA s blE).data.toList) := by
  show _ → _
  rw [← a9.out]
  exact fun h => a7 (a0.2 h)
 have h3 := H2.out.below bw;have hc : w3.cell? ⟨b, 7, none⟩ = some (.int .i64 t0) := (h3.at 6).trans rfl;have hf := h3.fr 7;have HE : Hid (RdX (w3.setCell ⟨b, 7, none⟩ (.int .i64 n)) b (cutB s blE) (a1 :: a2 :: a3 :: a4 :: a5 :: a6 :: .int .i64 n :: tl) 288 ∧ w.grownBy (w3.setCell ⟨b, 7, none⟩ (.int .i64 n)) (some b)) := ⟨h3.set 6 _, aB6 (aB6 G2.out (aE6 bw _)) (aD9 _ _ _ _)⟩;clear h3 H2 bw G2 a0 a7 a8;go_wp2_with fail
 exact bodyPost_end (v := .tuple #[]) (by simp [results, results287, go_sem]) rfl ⟨rfl, n, b1.out, b2.out, HE.out⟩
theorem cE7 (b : Nat) (s : Tx) (a1 a2 a3 a4 a5 a6 a7 : Value) (t0 : Int) (tl : List Value) (w : World) (h : RdX w b s (a1 :: a2 :: a3 :: a4 :: a5 :: a6 :: a7 :: .int .i64 t0 :: tl) 288) (hl : s.size ≤ 4000000) (hm : aH5 w) :
  Calls prog 288 #[.pointer (some ⟨b, 0, none⟩)] w fun e w' => e = .returned (.tuple #[]) ∧ ∃ t : Int, (0 ≤ t ∧ t ≤ 1000000) ∧ (aO1 (cutA s nlE) → t = valL (cutA s nlE).data.toList) ∧ RdX w' b (cutB s nlE) (a1 :: a2 :: a3 :: a4 :: a5 :: a6 :: a7 :: .int .i64 t :: tl) 288 ∧ w.grownBy w' (some b) := by
 go_enter func288, ntmps288;go_wp2_with fail
 refine (bH0 b _ nlE _ _ _ h hl hm).mono ?_;rintro e w2 ⟨rfl, h2, g2⟩;obtain ⟨x, hx⟩ := exq (cutA s nlE);have b0 := hid hx;have b1 : x.size ≤ maxLen := by rw [hx]; have := aF9 s nlE; unfold maxLen; omega
 have H2 := hid h2;have G2 : Hid (w.grownBy w2 (some b)) := g2;rw [← hx];clear h hm h2 g2 hx;go_wp2_with fail
 refine (aL0 x _ b1).mono ?_;rintro e w3 ⟨bo, n, rfl, a0, a8, a9, bw⟩
 have b2 : Hid (0 ≤ n ∧ n ≤ 1000000) := by
  show _ ∧ _
  cases bo with
  | false => rw [a9 rfl]; decide
  | true =>
   have h1 := (a0.1 rfl).2.2.2
   have h2 := a8 rfl
   omega
 have b3 : Hid (aO1 (cutA s nlE) → n = valL (cutA s nlE).data.toList) := by
  show _ → _
  rw [← b0.out]
  exact fun h => a8 (a0.2 h)
 have h3 := H2.out.below bw;have hc : w3.cell? ⟨b, 8, none⟩ = some (.int .i64 t0) := (h3.at 7).trans rfl;have hf := h3.fr 8;have HE : Hid (RdX (w3.setCell ⟨b, 8, none⟩ (.int .i64 n)) b (cutB s nlE) (a1 :: a2 :: a3 :: a4 :: a5 :: a6 :: a7 :: .int .i64 n :: tl) 288 ∧ w.grownBy (w3.setCell ⟨b, 8, none⟩ (.int .i64 n)) (some b)) := ⟨h3.set 7 _, aB6 (aB6 G2.out (aE6 bw _)) (aD9 _ _ _ _)⟩;clear h3 H2 bw G2 a0 a8 a9;go_wp2_with fail
 exact bodyPost_end (v := .tuple #[]) (by simp [results, results288, go_sem]) rfl ⟨rfl, n, b2.out, b3.out, HE.out⟩
def aY4 (ys : Ts) (old : List Value) : List Value := ys.map Value.string ++ old.drop ys.length
theorem cX3 {ys : Ts} {old : List Value} (h : ys.length < old.length) : ∃ v, (aY4 ys old)[ys.length]? = some v := by
 refine ⟨old[ys.length]'h, ?_⟩;unfold aY4;rw [List.getElem?_append_right (by simp), List.length_map, Nat.sub_self, List.getElem?_drop, Nat.add_zero, List.getElem?_eq_getElem h]
theorem cX4 {ys : Ts} {old : List Value} (h : ys.length < old.length) (y : Tx) : (aY4 ys old).set ys.length (.string y) = aY4 (ys ++ [y]) old := by
 unfold aY4;rw [List.set_append_right _ _ (by simp), List.length_map, Nat.sub_self, List.drop_eq_getElem_cons h, List.set_cons_zero, List.map_append, List.length_append];simp
theorem dE6 {w W W2 w' : World} {b : Nat} (h1 : w.grownBy W (some b)) (h2 : W.grownBy W2 (some b)) (h3 : Below W.heap.size W2 w') : w.grownBy w' (some b) :=
 have h := aB6 h1 h2
 ⟨h3.os.trans h.os, h3.tape.trans h.tape, h3.output.trans h.output, Nat.le_trans h.size h3.size, fun i hi hne => (h3.block i (Nat.lt_of_lt_of_le hi h1.size)).trans (h.block i hi hne)⟩
theorem dK1 {w0 w' : World} {g k : Nat} {ys : Ts} {cs : Array Value} (hlen : ys.length = k) (hg : w0.heap.size ≤ g) (hk : k ≤ 4) (hcs : cs.toList = ys.map Value.string) (h : w'.heap[g]? = some (.cells cs 9)) : aF1 w0.heap.size w' g k k ys := by
 have hz : cs.size = k := by rw [← Array.length_toList, hcs, List.length_map, hlen]
 refine ⟨hlen, hg, (blt h), Nat.le_refl _, by unfold maxLen; omega, cs, h, hz, fun i hi => ?_⟩
 rw [← Array.getElem?_toList, hcs, List.getElem?_map, List.getElem?_eq_getElem (by omega)];simp [aA7, List.getD_eq_getElem?_getD, List.getElem?_eq_getElem (show i < ys.length by omega)]
theorem bV4 (b : Nat) (x : Tx) (a1 a2 a4 a5 a6 a7 : Value) (n : Int) (k : Nat) (hk : min n 4 = (k : Int)) (hn : 0 ≤ n ∧ n ≤ 1000000) (v0 v1 v2 v3 : Tx) (w : World) (h : RdX w b x [a1, a2, .slice none 0 0, a4, a5, a6, a7, .int .i64 n, .string v0, .string v1, .string v2, .string v3] 288) (hl : x.size ≤ 4000000) (hm : aH5 w) :
  Calls prog 289 #[.pointer (some ⟨b, 0, none⟩)] w fun e w' => e = .returned (.tuple #[]) ∧ ∃ v vs, RdX w' b (lnTo x k).2 (a1 :: a2 :: v :: a4 :: a5 :: a6 :: a7 :: .int .i64 n :: vs) 288 ∧ w'.ownsRow w.heap.size 9 1 v k ((lnTo x k).1.map Value.string) ∧ w.grownBy w' (some b) := by
 obtain ⟨i0, hi, b8, b9, c0⟩ := info_parts bU4;have c1 : Hid (k ≤ 4) := by show _ ≤ _; omega
 have e6 : ∀ W : World, (Instr.sliceAt 286 (.pointer (some ⟨b, 9, none⟩)) none (some (.int .i64 (k : Int))) none).run prog W = .ok (.slice (some ⟨b, 9, none⟩) k 4) W := fun W => by
  have e1 : prog.arrayLen 286 = 4 := by kernel_rfl
  have e2 : prog.elem 286 = 9 := by kernel_rfl
  have h := run_sliceAt_array_h (P := prog) W 286 ⟨b, 9, none⟩ (by kernel_rfl) .i64 (k : Int) (by omega) (by rw [e1]; omega)
  rw [e1, e2] at h
  rw [h]
  simp [slicedAt, go_sem, sizeOf9, Addr.add]
 obtain ⟨M, hM⟩ : ∃ M, M = madeCells (Value.string ⟨#[]⟩).cells (((k : Nat) : Int).toNat * i0.size) := ⟨_, rfl⟩
 have d0 : ∀ W : World, (Instr.makeSlice 24 (.int .i64 (k : Int)) (.int .i64 (k : Int))).run prog W = .ok (.slice (some ⟨W.heap.size, 0, none⟩) k k) (W.alloc (.cells M 9)) := fun W => by
  have h := run_make (P := prog) W 24 9 i0 (.string ⟨#[]⟩) underlying24 hi b8 .i64 .i64 (k : Int) (k : Int) (by omega) (by omega) (by rw [c0]; omega) (by omega)
  rw [← hM] at h
  simpa using h
 have d1 : Hid (M = (List.replicate k (Value.string ⟨#[]⟩)).toArray) := by
  show _ = _
  apply Array.toList_inj.1
  rw [hM, b9, show ((k : Nat) : Int).toNat * 1 = k by omega]
  exact toList_madeCells_one (.string ⟨#[]⟩) k
 clear hM b8 b9 c0 hi;have d2 : w.cell? ⟨b, 8, none⟩ = some (.int .i64 n) := (h.at 7).trans rfl;have H0 := hid h;have d3 : Hid (1 ≠ b) := h.notLen hm;have HM : Hid (aH5 w) := hm;have c2 : Hid (∀ j, (lnTo x j).2.size ≤ 4000000) := fun j => Nat.le_trans (aV9 x j).2.1 hl
 have b0 : Hid (∀ j, (lnTo x j).1.length = j) := fun j => (aV9 x j).1
 clear h hm;go_enter func289, ntmps289;go_wp2_with fail
 go_region_held3 (fun W => W.cell? ⟨b, 8, none⟩ = some (.int .i64 n)) (first | assumption | go_keep) (fail)
 clear d2;have H1 : Hid (RdX w.drew b x ([a1, a2, .slice none 0 0, a4, a5, a6, a7, .int .i64 n] ++ aY4 [] [.string v0, .string v1, .string v2, .string v3]) 288 ∧ w.grownBy w.drew (some b)) := ⟨H0.out, ⟨rfl, rfl, rfl, Nat.le_refl _, fun _ _ _ => rfl⟩⟩
 go_wp2_with fail
 go_loopw [15] (fun i wr => ∃ j : Nat, j ≤ k ∧ i = .int .i64 (j : Int) ∧ Hid (RdX wr b (lnTo x j).2 ([a1, a2, .slice none 0 0, a4, a5, a6, a7, .int .i64 n] ++ aY4 (lnTo x j).1 [.string v0, .string v1, .string v2, .string v3]) 288 ∧ w.grownBy wr (some b))) (fun i _ => k - (intOf i).toNat)
 case atStart => exact ⟨0, Nat.zero_le _, rfl, H1⟩
 case round =>
  obtain ⟨j, hj, rfl, HW⟩ := hrel;by_cases hlt : (j : Int) < (k : Int)
  ·have c3 : aH5 wr := HM.out.grown HW.out.2 d3.out;go_wp2_with fail
   refine (bH0 b _ nlE _ _ _ HW.out.1 (c2.out j) c3).mono ?_;rintro e w2 ⟨rfl, h2, g2⟩;obtain ⟨y, hy⟩ := exq (cutA (lnTo x j).2 nlE);have e7 : y.size ≤ 4000000 := by rw [hy]; exact Nat.le_trans (aF9 _ _) (c2.out j)
   have d4 : Hid (lnTo x (j + 1) = ((lnTo x j).1 ++ [y], cutB (lnTo x j).2 nlE)) := by show _ = _; rw [lnTo, hy]
   have H2 : Hid (RdX w2 b (cutB (lnTo x j).2 nlE) ([a1, a2, .slice none 0 0, a4, a5, a6, a7, .int .i64 n] ++ aY4 (lnTo x j).1 [.string v0, .string v1, .string v2, .string v3]) 288 ∧ w.grownBy w2 (some b)) := ⟨h2, aB6 HW.out.2 g2⟩;rw [← hy];clear hy h2 g2 c3 HW;go_wp2_with fail
   refine (aF3 y _ (by omega)).mono ?_;rintro e w3 ⟨rfl, bw⟩;have h3 := H2.out.1.below bw
   have b2 : (lnTo x j).1.length < [Value.string v0, Value.string v1, Value.string v2, Value.string v3].length := by
    rw [b0.out]; have := c1.out; simp; omega
   obtain ⟨ov, c4⟩ : ∃ ov, ([a1, a2, .slice none 0 0, a4, a5, a6, a7, .int .i64 n] ++ aY4 (lnTo x j).1 [.string v0, .string v1, .string v2, .string v3])[8 + j]? = some ov := by
    obtain ⟨v, e⟩ := cX3 b2
    rw [b0.out j] at e
    exact ⟨_, by rw [List.getElem?_append_right (by simp), show 8 + j - [a1, a2, .slice none 0 0, a4, a5, a6, a7, .int .i64 n].length = j by simp]; exact e⟩
   have hc : w3.cell? ⟨b, 9 + j, none⟩ = some ov := by
    rw [show 9 + j = 8 + j + 1 by omega, h3.at (8 + j)]; exact c4
   have hf := h3.fr (9 + j)
   have HE : Hid (RdX (w3.setCell ⟨b, 9 + j, none⟩ (.string y)) b (lnTo x (j + 1)).2 ([a1, a2, .slice none 0 0, a4, a5, a6, a7, .int .i64 n] ++ aY4 (lnTo x (j + 1)).1 [.string v0, .string v1, .string v2, .string v3]) 288 ∧ w.grownBy (w3.setCell ⟨b, 9 + j, none⟩ (.string y)) (some b)) := by
    refine ⟨?_, aB6 (aB6 H2.out.2 (aE6 bw _)) (aD9 _ _ _ _)⟩
    have h4 := h3.set (8 + j) (.string y)
    rw [List.set_append_right _ _ (by simp), show 8 + j - [a1, a2, .slice none 0 0, a4, a5, a6, a7, .int .i64 n].length = (lnTo x j).1.length by rw [b0.out]; simp, cX4 b2, show 8 + j + 1 = 9 + j by omega] at h4
    rw [d4.out]
    exact h4
   clear h3 H2 bw c4 b2;go_wp2_with fail
   go_roundw
   case rel => exact ⟨j + 1, by omega, by go_num, HE⟩
   case measure => simp [intOf]; omega
  obtain rfl : j = k := by omega
  obtain ⟨V, hV⟩ := exq (aY4 (lnTo x j).1 [.string v0, .string v1, .string v2, .string v3]);have h1 := HW.out.1;rw [← hV] at h1;have hc := (show wr.cell? ⟨b, 3, none⟩ = some (.slice none 0 0) from (h1.at 2).trans rfl);have hf := h1.fr 3;obtain ⟨g, hg⟩ := exq (wr.heap.size);obtain ⟨W2, a3⟩ := exq ((wr.alloc (.cells M 9)).setCell ⟨b, 3, none⟩ (.slice (some ⟨g, 0, none⟩) j j));have b3 : b < wr.heap.size := h1.lt;have c5 : g ≠ b := by omega
  have a8 : Below wr.heap.size wr (wr.alloc (.cells M 9)) := (Below.refl _ _).alloc (Nat.le_refl _) _;have d5 : (wr.alloc (.cells M 9)).cell? ⟨b, 3, none⟩ = some (.slice none 0 0) := ((h1.below a8).at 2).trans rfl;have d6 := (h1.below a8).fr 3
  have H2 : Hid (RdX W2 b (lnTo x j).2 (a1 :: a2 :: .slice (some ⟨g, 0, none⟩) j j :: a4 :: a5 :: a6 :: a7 :: .int .i64 n :: V) 288) := by
   show RdX _ _ _ _ _
   rw [a3]
   exact (h1.below a8).set 2 _
  have d7 : Hid (wr.grownBy W2 (some b)) := by
   show wr.grownBy _ _
   rw [a3]
   exact aB6 (aE6 a8 _) (aD9 _ _ _ _)
  have c6 : Hid (W2.heap[g]? = some (.cells (List.replicate j (Value.string ⟨#[]⟩)).toArray 9)) := by
   show _ = _
   rw [a3, heap_setCell_other _ _ _ _ c5, hg, ← d1.out]
   exact heap_alloc_new _ _
  have c7 : Hid (∀ i v, ((lnTo x j).1.map Value.string)[i]? = some v → W2.cell? ((⟨b, 9, none⟩ : Addr).add i) = some v) := by
   intro i v hv
   have hi := (List.getElem?_eq_some_iff.1 hv).1
   have h := H2.out.at (8 + i)
   rw [show (⟨b, 9, none⟩ : Addr).add i = ⟨b, 9 + i, none⟩ by simp [Addr.add]]
   rw [show 9 + i = 8 + i + 1 by omega, h, show 8 + i = i + 8 by omega]
   show V[i]? = _
   rw [hV]
   unfold aY4
   rw [List.getElem?_append_left hi]
   exact hv
  have c8 := hid hg;have b1 : Hid ((lnTo x j).1.length = j) := b0.out j;have e8 : W2.cell? ⟨b, 3, none⟩ = some (.slice (some ⟨g, 0, none⟩) j j) := (H2.out.at 2).trans rfl;have c9 := hid a3.symm;clear h1 a8 a3 hV b3 c5;go_upto_region 7 with fail
  rw [← hg, c9.out];clear hc hf d5 d6 hg c9 d0;obtain ⟨cs, a0⟩ := exq ((lnTo x j).1.map Value.string);have a9 : (prog.info? 9).map (·.size) = some 1 := by kernel_rfl
  have d8 : Hid (cs.length = Nat.min j j) := by show _ = _; rw [a0, List.length_map, b1.out]; exact (Nat.min_self j).symm
  have b4 : Hid (∀ i v, cs[i]? = some v → W2.cell? ((⟨b, 9, none⟩ : Addr).add i) = some v) := by rw [a0]; exact c7
  have b5 : Hid (0 + cs.length ≤ (List.replicate j (Value.string ⟨#[]⟩)).toArray.size) := by show _ ≤ _; rw [a0]; simp [b1.out]
  have b6 : Hid (∀ v ∈ cs, v.oneCell' = true) := fun v hv => by
   rw [a0] at hv
   obtain ⟨y, _, rfl⟩ := List.mem_map.1 hv
   rfl
  have d9 := run_copy_row (P := prog) W2 24 24 3 9 g 0 j j ⟨b, 9, none⟩ j 4 _ 9 cs underlying24 a9 c6.out d8.out b4.out b5.out b6.out;obtain ⟨C, hC⟩ := exq (((List.replicate j (Value.string ⟨#[]⟩)).toArray.toList.take 0 ++ cs ++ (List.replicate j (Value.string ⟨#[]⟩)).toArray.toList.drop (0 + cs.length)).toArray);rw [← hC] at d9
  have e0 : Hid (C.toList = (lnTo x j).1.map Value.string) := by
   show _ = _
   rw [hC, a0]
   simp [b1.out]
  have b7 : Below wr.heap.size W2 (W2.setRow g C) := by rw [← c8.out]; exact Go.below_setRow (Below.refl _ _) (Nat.le_refl _) C
  have e3 : Hid (RdX (W2.setRow g C) b (lnTo x j).2 (a1 :: a2 :: .slice (some ⟨g, 0, none⟩) j j :: a4 :: a5 :: a6 :: a7 :: .int .i64 n :: V) 288) := (b7.block b HW.out.1.lt).trans H2.out;have e4 : Hid ((W2.setRow g C).heap[g]? = some (.cells C 9)) := setRow_heap _ _ _ _ _ _ c6.out;have HR : Hid ((W2.setRow g C).ownsRow w.heap.size 9 1 (.slice (some ⟨g, 0, none⟩) j j) j ((lnTo x j).1.map Value.string)) := (dK1 (w0 := w) b1.out (by rw [c8.out]; exact HW.out.2.size) c1.out e0.out e4.out).owns;have e5 : Hid (w.grownBy (W2.setRow g C) (some b)) := dE6 HW.out.2 d7.out b7;clear a0 c7 hC b7 a9;go_wp2_with fail
  exact bodyPost_end (v := .tuple #[]) (by simp [results, results289, go_sem]) rfl ⟨rfl, _, ⟨_, e3.out⟩, HR.out, e5.out⟩
theorem aM1 {fs : Fs} (h : aG5 fs) : fs.length ≤ 8 ∧ (∀ i, i < fs.length → (aD0 fs i).size ≤ 60 ∧ (aH7 fs i).size ≤ 60) := by
 refine ⟨h.1, fun i hi => ?_⟩
 obtain ⟨h1, h2, _⟩ := h.2 i hi;exact ⟨Nat.le_trans h1.2.1 (by decide), h2.2.1⟩
theorem aP8 {fs : Fs} (h : aG5 fs) (x : Tx) : (getV fs x).size ≤ 1048576 := by
 unfold getV;split
 ·rename_i hin
  exact Nat.le_trans ((aM1 h).2 _ hin).2 (by decide)
 decide
theorem bS2 {fs : Fs} (h : aG5 fs) : aU0 fs := fun i hi => by
 have := (aM1 h).2 i hi
 omega
theorem bE0 {fs : Fs} (h : aG5 fs) : aR0 fs.length fs := fun i hi => by
 have := (aM1 h).2 i hi
 unfold maxLen
 omega
theorem bZ6 : aG5 [] := ⟨by decide, fun i hi => absurd hi (by simp)⟩
theorem cT4 {x : ByteArray} {w w1 : World} {e : Ending} (hr : dC5 x w e w1) : ∃ (st : Int) (fs : Fs) (bd : Tx) (vF : Value) (t : Bool), e = .returned (.tuple #[.agg #[.int .i64 st, vF, .string bd], .bool t]) ∧ (aG5 fs ∧ bd.size ≤ 120) ∧ (∀ st' fs' b', aJ7 x st' fs' b' → st = st' ∧ fs = fs' ∧ bd = b') ∧ w1.ownsRow w.heap.size 232 2 vF fs.length (aE5 fs) ∧ Below w.heap.size w w1 := by
 rcases hr with ⟨m, fs, bd, v, h1, h2, h3, h4⟩ | ⟨h1, h2, h3⟩
 ·exact ⟨m, fs, bd, v, true, h1, ⟨h2.1.2.1, h2.1.2.2⟩, fun _ _ _ h => h2.uniq h, h3, h4⟩
 exact ⟨0, [], ⟨#[]⟩, .slice none 0 0, false, h1, ⟨bZ6, by decide⟩, fun _ _ _ h => absurd h (h2 _ _ _), World.ownsRow_nil _ _ _ _, h3⟩
theorem bV5 (b : Nat) (x : Tx) (a1 a3 a7 a8 : Value) (st0 : Int) (bd0 : Tx) (vs : List Value) (w : World) (h : RdX w b x (a1 :: .slice none 0 0 :: a3 :: .int .i64 st0 :: .slice none 0 0 :: .string bd0 :: a7 :: a8 :: vs) 288) (hl : x.size ≤ 3000000) (hm : aH5 w) (htab : aG9 w) :
  Calls prog 290 #[.pointer (some ⟨b, 0, none⟩)] w fun e w' => e = .returned (.tuple #[]) ∧ ∃ (st : Int) (fs : Fs) (bd : Tx) (vF vN : Value), RdX w' b x (a1 :: vN :: a3 :: .int .i64 st :: vF :: .string bd :: a7 :: a8 :: vs) 288 ∧ w'.ownsRow w.heap.size 232 2 vF fs.length (aE5 fs) ∧ w'.ownsRow w.heap.size 9 1 vN (aC1 fs).length ((aC1 fs).map Value.string) ∧ (aG5 fs ∧ bd.size ≤ 120) ∧ (∀ st' fs' b', aJ7 x st' fs' b' → st = st' ∧ fs = fs' ∧ bd = b') ∧ w.grownBy w' (some b) := by
 have b3 := h.cell;have H : Hid (RdX w b x (a1 :: .slice none 0 0 :: a3 :: .int .i64 st0 :: .slice none 0 0 :: .string bd0 :: a7 :: a8 :: vs) 288) := h;clear h;go_enter func290, ntmps290;go_wp2_with fail
 refine (bL8 x _ hl htab hm).mono ?_;intro e w1 hr
 obtain ⟨st, fs, bd, vF, t, he, a9, b0, hown, bw⟩ : ∃ (st : Int) (fs : Fs) (bd : Tx) (vF : Value) (t : Bool), e = .returned (.tuple #[.agg #[.int .i64 st, vF, .string bd], .bool t]) ∧ (aG5 fs ∧ bd.size ≤ 120) ∧ (∀ st' fs' b', aJ7 x st' fs' b' → st = st' ∧ fs = fs' ∧ bd = b') ∧ w1.ownsRow w.heap.size 232 2 vF fs.length (aE5 fs) ∧ Bw w w1 := by
  rcases hr with ⟨m, fs, bd, v, h1, h2, h3, h4⟩ | ⟨h1, h2, h3⟩
  ·exact ⟨m, fs, bd, v, true, h1, ⟨h2.1.2.1, h2.1.2.2⟩, fun _ _ _ h => h2.uniq h, h3, h4⟩
  ·exact ⟨0, [], ⟨#[]⟩, .slice none 0 0, false, h1, ⟨bZ6, by decide⟩, fun _ _ _ h => absurd h (h2 _ _ _), World.ownsRow_nil _ _ _ _, h3⟩
 subst he;clear hr;have a2 := hid a9;have b4 := hid b0;obtain ⟨oF, cF, rfl⟩ := aA0 hown;have h1 := H.out.below bw;have c4 : w1.cell? ⟨b, 4, none⟩ = some (.int .i64 st0) := (h1.at 3).trans rfl;have c5 : w1.cell? ⟨b, 5, none⟩ = some (.slice none 0 0) := (h1.at 4).trans rfl;have c6 : w1.cell? ⟨b, 6, none⟩ = some (.string bd0) := (h1.at 5).trans rfl;have f4 := h1.fr 4;have f5 := h1.fr 5;have f6 := h1.fr 6;obtain ⟨W2, a0⟩ := exq (((w1.setCell ⟨b, 4, none⟩ (.int .i64 st)).setCell ⟨b, 5, none⟩ (.slice oF fs.length cF)).setCell ⟨b, 6, none⟩ (.string bd))
 have H2 : Hid (RdX W2 b x (a1 :: .slice none 0 0 :: a3 :: .int .i64 st :: .slice oF fs.length cF :: .string bd :: a7 :: a8 :: vs) 288) := by
  show RdX _ _ _ _ _
  rw [a0]
  exact ((h1.set 3 _).set 4 _).set 5 _
 have b1 : Hid (w.grownBy W2 (some b)) := by
  show w.grownBy _ _
  rw [a0]
  exact aB6 (aB6 (aB6 (aE6 bw _) (aD9 _ _ _ _)) (aD9 _ _ _ _)) (aD9 _ _ _ _)
 have a5 : Hid (W2.ownsRow w.heap.size 232 2 (.slice oF fs.length cF) fs.length (aE5 fs)) := by
  show World.ownsRow _ _ _ _ _ _ _
  rw [a0]
  refine aA9 hown (fun g hg => ?_)
  have a6 := aE8 hown h1 (by decide) g hg
  rw [heap_setCell_other _ _ g _ a6, heap_setCell_other _ _ g _ a6, heap_setCell_other _ _ g _ a6]
 have b2 := hid a0.symm;have b5 : W2.cell? ⟨b, 5, none⟩ = some (.slice oF fs.length cF) := (H2.out.at 4).trans rfl;clear a0 h1 hown a9 b0 b3 bw hm htab H;go_upto_region 1 with fail
 rw [b2.out];clear c4 c5 c6 f4 f5 f6 b2;go_wp2_with fail
 refine (bC7 _ fs.length w.heap.size fs _ (aB4.of_owns a5.out) (by have := (aM1 a2.out.1).1; omega) (bS2 a2.out.1) (aP8 a2.out.1 _)).mono ?_;rintro e w3 ⟨vN, rfl, a4, bw⟩;have h3 := H2.out.below bw;have c2 : w3.cell? ⟨b, 2, none⟩ = some (.slice none 0 0) := (h3.at 1).trans rfl;have f2 := h3.fr 2;obtain ⟨oN, cN, rfl⟩ := aA0 a4;have HE : Hid (RdX (w3.setCell ⟨b, 2, none⟩ (.slice oN (aC1 fs).length cN)) b x (a1 :: .slice oN (aC1 fs).length cN :: a3 :: .int .i64 st :: .slice oF fs.length cF :: .string bd :: a7 :: a8 :: vs) 288) := h3.set 1 _;have b6 : Hid (w.grownBy (w3.setCell ⟨b, 2, none⟩ (.slice oN (aC1 fs).length cN)) (some b)) := aB6 (aB6 b1.out (aE6 bw _)) (aD9 _ _ _ _)
 have b7 : Hid ((w3.setCell ⟨b, 2, none⟩ (.slice oN (aC1 fs).length cN)).ownsRow w.heap.size 232 2 (.slice oF fs.length cF) fs.length (aE5 fs)) := by
  have ho := aA8 a5.out bw (fun g hg => aB0 a5.out hg)
  exact aA9 ho (fun g hg => heap_setCell_other _ _ g _ (aE8 ho h3 (by decide) g hg))
 have b8 : Hid ((w3.setCell ⟨b, 2, none⟩ (.slice oN (aC1 fs).length cN)).ownsRow w.heap.size 9 1 (.slice oN (aC1 fs).length cN) (aC1 fs).length ((aC1 fs).map Value.string)) :=
  aF5 (aA9 a4 (fun g hg => heap_setCell_other _ _ g _ (aE8 a4 h3 (by decide) g hg))) b1.out.size
 clear h3 a4 bw b5;go_wp2_with fail
 exact bodyPost_end (v := .tuple #[]) (by simp [results, results290, go_sem]) rfl ⟨rfl, _, _, _, _, _, HE.out, b7.out, b8.out, a2.out, b4.out, b6.out⟩
def dE7 (w : World) (g : Nat) : Prop := w.cell? ⟨g, 0, none⟩ = some (.func (.func 286) #[] #[]) ∧ w.cell? ⟨g, 1, none⟩ = some (.func (.func 287) #[] #[]) ∧ w.cell? ⟨g, 2, none⟩ = some (.func (.func 288) #[] #[]) ∧ w.cell? ⟨g, 3, none⟩ = some (.func (.func 289) #[] #[]) ∧ w.cell? ⟨g, 4, none⟩ = some (.func (.func 290) #[] #[])
theorem bS3 (w : World) :
  Calls prog 249 #[] w fun e w' => ∃ g, e = .returned (.slice (some ⟨g, 0, none⟩) 5 5) ∧ dE7 w' g ∧ w.heap.size ≤ g ∧ g < w'.heap.size ∧ Below w.heap.size w w' := by
 go_enter func249, ntmps249;go_wp2
 go_ret;refine ⟨_, rfl, ?_, Nat.le_refl _, by simp, (Below.refl _ _).alloc (Nat.le_refl _) _⟩;refine ⟨?_, ?_, ?_, ?_, ?_⟩ <;> exact (aA1 (heap_alloc_new w _) _).trans rfl
theorem aS4 (t : Int) (w : World) :
  Calls prog 179 #[.int .i64 t] w fun e w' => e = .returned (.bool (decide ((0 : Int) ≤ t ∧ t ≤ 1000000))) ∧ w' = w := by
 obtain ⟨D, hD⟩ : ∃ D, D = decide ((0 : Int) ≤ t ∧ t ≤ 1000000) := ⟨_, rfl⟩;rw [← hD];by_cases h1 : 0 ≤ t
 rotate_left
 ·have HD : Hid (D = false) := by show _ = _; rw [hD]; exact decide_eq_false (fun h => h1 h.1)
  clear hD;go_enter func179, ntmps179;go_wp2
  go_ret;exact ⟨by rw [HD.out]; rfl, rfl⟩
 by_cases h2 : t ≤ 1000000
 ·have HD : Hid (D = true) := by show _ = _; rw [hD]; exact decide_eq_true ⟨h1, h2⟩
  clear hD;go_enter func179, ntmps179;go_wp2
  go_ret;exact ⟨by rw [HD.out]; rfl, rfl⟩
 have HD : Hid (D = false) := by show _ = _; rw [hD]; exact decide_eq_false (fun h => h2 h.2)
 clear hD;go_enter func179, ntmps179;go_wp2
 go_ret;exact ⟨by rw [HD.out]; rfl, rfl⟩
theorem cK0 (oa : Oa) (m cm : Nat) (xs : Ts) (w : World) (hx : aC0 w oa m xs) (hm : m ≤ 2000000) (hsz : ∀ i, i < m → (aA7 xs i).size ≤ maxLen) :
  Calls prog 186 #[.slice oa m cm] w fun e w' => aA5 (∀ y ∈ xs, aK7 y) w e w' := by
 have HV : Hid (∀ W, Bw w W → aC0 W oa m xs) := fun W h => hx.below h
 have HL : Hid (xs.length = m) := hx.1;have HS := hid hsz;clear hx hsz;go_enter func186, ntmps186;go_wp2
 go_loopw [7] (fun i wr => ∃ j : Nat, j ≤ m ∧ i = .int .i64 (j : Int) ∧ Hid (Bw w wr) ∧ Hid (∀ x ∈ xs.take j, aK7 x)) (fun i _ => m - (intOf i).toNat)
 case atStart => exact ⟨0, Nat.zero_le _, rfl, Below.refl _ _, fun x hx => by simp at hx⟩
 case round =>
  obtain ⟨j, hj, rfl, HW, HN⟩ := hrel;by_cases hlt : (j : Int) < (m : Int)
  rotate_left
  ·have HA : Hid (∀ y ∈ xs, aK7 y) := by
    have h := HN.out
    rw [List.take_of_length_le (by rw [HL.out]; omega)] at h
    exact h
   clear HN;go_wp2_with fail
   go_ret;exact ⟨true, rfl, ⟨fun _ => HA.out, fun _ => rfl⟩, HW.out⟩
  have a2 : j < xs.length := by rw [HL.out]; omega
  obtain ⟨g, a4, hg, hc⟩ := (HV.out wr HW.out).2 j (by omega);subst a4;have hs := HS.out j (by omega);obtain ⟨x, a0⟩ := exq (aA7 xs j);rw [← a0] at hc hs;have HM : Hid (x ∈ xs) := by show _ ∈ _; rw [a0]; exact aG7 xs j a2
  have a5 : Hid (xs.take (j + 1) = xs.take j ++ [x]) := by show _ = _; rw [aJ4 xs j a2, a0]
  clear a0 a2;go_wp2_with fail
  refine (aS7 x _ hs).mono ?_;rintro e a6 ⟨tx, rfl, a1, bw⟩;have a3 : Hid (Bw w a6) := HW.out.trans (bw.mono HW.out.size);clear bw hc HW;cases tx
  ·have HF : Hid (¬ ∀ y ∈ xs, aK7 y) := fun h => nomatch a1.2 (h x HM.out)
   clear a1 HN;go_wp2_with fail
   go_ret;exact aA5.no HF.out a3.out
  have a7 : Hid (∀ y ∈ xs.take (j + 1), aK7 y) := by
   intro y hy
   rw [a5.out] at hy
   rcases List.mem_append.1 hy with hy | hy
   ·exact HN.out y hy
   ·rw [List.mem_singleton.1 hy]; exact a1.1 rfl
  clear a1 HN;go_wp2_with fail
  go_roundw
  case rel => exact ⟨j + 1, by omega, by go_num, a3, a7⟩
  case measure => simp [intOf]; omega
theorem bJ4 (oa ob : Oa) (m cm k ck : Nat) (xs ys : Ts) (w : World) (hx : aC0 w oa m xs) (hm : m ≤ 2000000) (hy : aC0 w ob k ys) (hk : k ≤ 2000000) :
  Calls prog 183 #[.slice oa m cm, .slice ob k ck] w fun e w' => e = .returned (.bool (decide (xs = ys))) ∧ Below w.heap.size w w' := by
 by_cases hmk : m = k
 rotate_left
 ·refine (Tryz.slices_Equal_string_lens oa ob m cm k ck w hmk).mono ?_;rintro e w1 ⟨rfl, rfl⟩;refine ⟨?_, Below.refl _ _⟩;rw [decide_eq_false (fun h => hmk (by rw [← hx.1, ← hy.1, h]))]
 subst hmk;by_cases h0 : m = 0
 ·subst h0;refine (Tryz.slices_Equal_string_empty oa ob cm 0 ck w (by omega)).mono ?_;rintro e w1 ⟨rfl, rfl⟩;refine ⟨?_, Below.refl _ _⟩;rw [List.length_eq_zero_iff.1 hx.1, List.length_eq_zero_iff.1 hy.1];simp
 obtain ⟨g, rfl, _, _⟩ := hx.2 0 (by omega);obtain ⟨q, rfl, _, _⟩ := hy.2 0 (by omega);refine (Tryz.slices_Equal_string g 0 m cm q 0 m ck xs ys w (by rw [hx.1]; exact Nat.le_refl _) (by rw [hy.1]; exact Nat.le_refl _) (by omega) (by omega) (fun j hj => ?_) (fun j hj => ?_)).mono ?_
 ·obtain ⟨g2, e2, _, h3⟩ := hx.2 j (by rw [← hx.1]; exact hj);cases e2
  rw [Nat.zero_add];exact h3
 ·obtain ⟨g2, e2, _, h3⟩ := hy.2 j (by rw [← hy.1]; exact hj);cases e2
  rw [Nat.zero_add];exact h3
 rintro e w1 ⟨rfl, n, rfl⟩;refine ⟨?_, ⟨rfl, rfl, rfl, Nat.le_refl _, fun _ _ => rfl⟩⟩
 rw [List.take_of_length_le (by rw [hx.1]; exact Nat.le_refl _), List.take_of_length_le (by rw [hy.1]; exact Nat.le_refl _)]
theorem cO9 (oa : Oa) (m cm : Nat) (xs : Ts) (w : World) (hx : aC0 w oa m xs) (hm : m ≤ 2000000) (hsz : ∀ i, i < m → (aA7 xs i).size ≤ maxLen) :
  Calls prog 185 #[.slice oa m cm] w fun e w' => aA5 (bC3 xs) w e w' := by
 by_cases h4 : (4 : Int) < (m : Int)
 ·have HF : Hid (¬ bC3 xs) := fun h => by have := h.2; rw [hx.1] at this; omega
  clear hx hsz;go_enter func185, ntmps185;go_wp2_with fail
  go_ret;exact aA5.no HF.out (Below.refl _ _)
 have HX : Hid (∀ W, Bw w W → aC0 W oa m xs) := fun W h => hx.below h
 have HL : Hid (xs.length = m) := hx.1;have HS := hid hsz;clear hx hsz;go_enter func185, ntmps185;go_wp2_with fail
 go_loopw [10] (fun i wr => ∃ j : Nat, j ≤ m ∧ i = .int .i64 (j : Int) ∧ Bw w wr ∧ Hid (∀ x ∈ xs.take j, aK6 x)) (fun i _ => m - (intOf i).toNat)
 case atStart => exact ⟨0, Nat.zero_le _, rfl, Below.refl _ _, fun x hx => by simp at hx⟩
 case round =>
  obtain ⟨j, hj, rfl, a0, HN⟩ := hrel;by_cases hlt : (j : Int) < (m : Int)
  rotate_left
  ·have HQ : Hid (bC3 xs) := ⟨by
    have h := HN.out
    rw [List.take_of_length_le (by rw [HL.out]; omega)] at h
    exact h, by rw [HL.out]; omega⟩
   clear HN;go_wp2_with fail
   go_ret;exact ⟨true, rfl, ⟨fun _ => HQ.out, fun _ => rfl⟩, a0⟩
  have a2 : j < xs.length := by rw [HL.out]; omega
  obtain ⟨g, rfl, hg, hc⟩ := (HX.out wr a0).2 j (by omega);have hs := HS.out j (by omega);obtain ⟨x, a1⟩ := exq (aA7 xs j);rw [← a1] at hc hs;have HM : Hid (x ∈ xs) := by show _ ∈ _; rw [a1]; exact aG7 xs j a2
  have HT : Hid (xs.take (j + 1) = xs.take j ++ [x]) := by show _ = _; rw [aJ4 xs j a2, a1]
  clear a1 a2;go_wp2_with fail
  refine (aS5 x _ hs).mono ?_;rintro e w1 ⟨t, rfl, ht, b1⟩;have a3 : Bw w w1 := a0.trans (b1.mono a0.size);clear b1 a0 hc;cases t
  ·have HF : Hid (¬ bC3 xs) := fun h => nomatch ht.2 (h.1 x HM.out)
   clear ht HN;go_wp2_with fail
   go_ret;exact aA5.no HF.out a3
  have a4 : Hid (∀ y ∈ xs.take (j + 1), aK6 y) := by
   intro y hy
   rw [HT.out] at hy
   rcases List.mem_append.1 hy with hy | hy
   ·exact HN.out y hy
   ·rw [List.mem_singleton.1 hy]; exact ht.1 rfl
  clear ht HN;go_wp2_with fail
  go_roundw
  case rel => exact ⟨j + 1, by omega, by go_num, a3, a4⟩
  case measure => simp [intOf]; omega
theorem aS0 (p : Tx) (o1 : Oa) (n1 c1 : Nat) (xs : Ts) (o2 : Oa) (n2 c2 : Nat) (ys : Ts) (st : Int) (v3 : Value) (n3 base : Nat) (fs : Fs) (b : Tx) (t : Int) (w : World) (h1 : aC0 w o1 n1 xs) (h2 : aC0 w o2 n2 ys) (h3 : aB4 w base v3 n3 fs) (hn1 : n1 ≤ 2000000) (hn2 : n2 ≤ 2000000) (hn3 : n3 ≤ 2000000) (hs1 : ∀ i, i < n1 → (aA7 xs i).size ≤ maxLen) (hs2 : ∀ i, i < n2 → (aA7 ys i).size ≤ maxLen) (hs3 : aR0 n3 fs) (hc : aU0 fs) (hp : p.size ≤ maxLen) (hx : b.size ≤ maxLen) (hg : (getV fs aF0).size ≤ 1048576) :
  Calls prog 85 #[.agg #[.string p, .slice o1 n1 c1, .slice o2 n2 c2, .int .i64 st, v3, .string b, .int .i64 t]] w fun e w' => aA5 (ObjP p xs ys st fs b t) w e w' := by
 obtain ⟨o3, c3, rfl, _⟩ := h3.slice;have c6 : Hid (∀ W, Bw w W → aC0 W o1 n1 xs) := fun W h => h1.below h
 have d2 : Hid (∀ W, Bw w W → aC0 W o2 n2 ys) := fun W h => h2.below h
 have c7 : Hid (∀ W, Bw w W → aB4 W base (.slice o3 n3 c3) n3 fs) := fun W h => h3.below h
 have c8 : Hid (xs.length = n1) := h1.1;have c9 : Hid (ys.length = n2) := h2.1;have d3 := hid hs1;have d4 := hid hs2;have d5 := hid hs3;have HC : Hid (aU0 fs) := hc;have d6 := hid hp;have HX := hid hx;have HG := hid hg;obtain ⟨vl, b3⟩ := exq (aC1 fs);have b4 : Hid (aC1 fs = vl) := b3.symm
 have d7 : Hid (vl.length ≤ 2000000) := by
  show _ ≤ _
  have e0 := bE9 (getV fs aF0)
  rw [b3]
  unfold aC1
  rw [List.length_map]
  omega
 clear h1 h2 h3 hs1 hs2 hs3 hc hp hx hg b3;have K0 := jnil w;go_enter func85, ntmps85;go_upto_region 1 with fail
 obtain ⟨q1, b5⟩ := exq (w.heap.size);obtain ⟨w1, a7⟩ := exq (w.alloc (.cells #[.string p, .slice o1 n1 c1, .slice o2 n2 c2, .int .i64 st, .slice o3 n3 c3, .string b, .int .i64 t] 36));have b6 := b5.symm;rw [← a7]; try rw [← b5];have hs1 := hsa a7 b6;have bw := bal a7;have K1 := ja K0 a7 b6;clear bw a7 b6 K0;clear hs1 b5;have b7 := c7c (jb K1 0 rfl);go_wp2_with fail
 refine (bV3 st _ b n3 base fs _ (c7.out _ K1.hb) (by omega) d5.out HX.out).mono ?_;rintro e w2 ⟨u1, rfl, a2, bw⟩;have K2 := jw K1 bw;clear bw K1;clear b7;cases u1
 ·have HF : Hid (¬ ObjP p xs ys st fs b t) := fun h => nomatch a2.2 h.1
  clear a2;go_wp2_with fail
  go_ret;exact aA5.no HF.out K2.hb
 have HR : Hid (aN1 st fs b) := a2.1 rfl;clear a2;have b8 := c7c (jb K2 0 rfl);go_wp2_with fail
 refine (bJ2 p _ d6.out).mono ?_;rintro e w3 ⟨u2, rfl, a3, bw⟩;have K3 := jw K2 bw;clear bw K2;clear b8;cases u2
 ·have HF : Hid (¬ ObjP p xs ys st fs b t) := fun h => nomatch a3.2 h.2.1
  clear a3;go_wp2_with fail
  go_ret;exact aA5.no HF.out K3.hb
 have HP : Hid (aI9 p) := a3.1 rfl;clear a3;have b9 := c7c (jb K3 0 rfl);go_wp2_with fail
 refine (aS4 t _).mono ?_;rintro e w4 ⟨rfl, d0⟩;have bw : Below w3.heap.size (w3) w4 := by rw [d0]; exact Below.refl _ _
 clear d0;obtain ⟨u3, a8⟩ : ∃ u3, u3 = decide ((0 : Int) ≤ t ∧ t ≤ 1000000) := ⟨_, rfl⟩;rw [← a8];have K4 := jw K3 bw;clear bw K3;clear b9;cases u3
 ·have HF : Hid (¬ ObjP p xs ys st fs b t) := fun h => absurd h.2.2.1 (of_decide_eq_false a8.symm)
  clear a8;go_wp2_with fail
  go_ret;exact aA5.no HF.out K4.hb
 have HT : Hid (0 ≤ t ∧ t ≤ 1000000) := (show 0 ≤ t ∧ t ≤ 1000000 from of_decide_eq_true a8.symm);clear a8;go_upto_region 3 with fail
 refine wp_region_held_drew (S := fun W => W.heap[q1]? = some (.cells #[.string p, .slice o1 n1 c1, .slice o2 n2 c2, .int .i64 st, .slice o3 n3 c3, .string b, .int .i64 t] 36)) (by kernel_rfl) (jb K4 0 rfl) (fun _ => ?_)
 obtain ⟨w5, hX⟩ := exq w4.drew;have bw := bdr hX;rw [← hX];have K5 := jw K4 bw;have a6 := (jb K5 0 rfl);clear bw hX K4;refine tkP 0 (.pointer (some ⟨q1, 1, none⟩)) 20 rfl rfl a6 ?_;go_frame;refine tkL 1 (.slice o1 n1 c1) 21 rfl rfl (Or.inl ⟨by rfl, by intro W hW; have a0 := hW; have y1 := c7c a0; go_simp⟩) a6 ?_;go_frame;refine tkP 2 (.pointer (some ⟨q1, 3, none⟩)) 22 rfl rfl a6 (tkP 3 (.pointer (some ⟨q1, 4, none⟩)) 23 rfl rfl a6 ?_);go_frame;refine tkL 4 (.slice o3 n3 c3) 24 rfl rfl (Or.inl ⟨by rfl, by intro W hW; have a0 := hW; have y4 := c7c a0; go_simp⟩) a6 ?_;go_frame;refine rd1 5 rfl (fun K hK => ?_)
 go_simp;refine (bC7 _ n3 base fs _ (c7.out _ K5.hb) (by omega) HC.out HG.out).mono ?_;rintro e w6 ⟨vv, rfl, a4, bw⟩;obtain ⟨oY, pY, rfl⟩ := aA0 a4;rw [b4.out] at a4 ⊢;have K6 := jj K5 (jcR (jN bw) a4 jhn);clear a4;clear bw K5;have d1 := (jb K6 1 rfl);refine hK.out _ _ d1 (fun _ => ?_)
 clear hK K a6;refine rd1 6 rfl (fun K hK => ?_)
 go_simp;refine (bJ4 _ _ _ _ _ _ xs vl _ (c6.out _ K6.hb) (by omega) (aC2 (jo K6 0 rfl)) d7.out).mono ?_;rintro e w7 ⟨rfl, bw⟩;obtain ⟨u5, a9⟩ := exq (decide (xs = vl));rw [← a9];have K7 := jw K6 bw;clear bw K6;have a1 := (jb K7 1 rfl);refine hK.out _ _ a1 (fun _ => ?_)
 clear hK K d1;refine tkP 7 (.bool u5) 27 rfl rfl a1 ?_;go_frame;cases u5
 ·have HF : Hid (¬ ObjP p xs ys st fs b t) := fun h => absurd (h.2.2.2.2.1.trans b4.out) (of_decide_eq_false a9.symm)
  clear a9;refine tkN 8 28 rfl rfl a1 (tkN 9 29 rfl rfl a1 (tkN 10 30 rfl rfl a1 ?_));go_frame;refine tkP 11 (.bool false) 31 rfl rfl a1 (tkP 12 (.bool false) 3 rfl rfl a1 ?_);go_frame;clear a1;refine wdn ?_;go_wp2_with fail
  go_ret;exact aA5.no HF.out K7.hb
 have HE : Hid (xs = vl) := (show xs = vl from of_decide_eq_true a9.symm);clear a9;refine tkP 8 (.pointer (some ⟨q1, 1, none⟩)) 28 rfl rfl a1 ?_;go_frame;refine tkL 9 (.slice o1 n1 c1) 29 rfl rfl (Or.inl ⟨by rfl, by intro W hW; have a0 := hW; have y1 := c7c a0; go_simp⟩) a1 ?_;go_frame;refine rd1 10 rfl (fun K hK => ?_)
 go_simp;refine (cO9 _ _ _ xs _ (c6.out _ K7.hb) (by omega) d3.out).mono ?_;rintro e w8 ⟨u4, rfl, a5, bw⟩;have K8 := jw K7 bw;clear bw K7;have b2 := (jb K8 1 rfl);refine hK.out _ _ b2 (fun _ => ?_)
 clear hK K a1;refine tkP 11 (.bool u4) 31 rfl rfl b2 (tkP 12 (.bool u4) 3 rfl rfl b2 ?_);go_frame;clear b2;refine wdn ?_;cases u4
 ·have HF : Hid (¬ ObjP p xs ys st fs b t) := fun h => nomatch a5.2 h.2.2.2.1
  clear a5;go_wp2_with fail
  go_ret;exact aA5.no HF.out K8.hb
 have d8 : Hid (bC3 xs) := a5.1 rfl;clear a5;by_cases hc1 : (n2 : Int) = (n1 : Int)
 rotate_left
 ·have c0 : ((n2 : Int) == (n1 : Int)) = false := by simpa using hc1
  have c4 : ((n2 : Int) != (n1 : Int)) = true := by simpa using hc1
  have HF : Hid (¬ ObjP p xs ys st fs b t) := fun h => by have h1 := h.2.2.2.2.2.1; have h2 := c8.out; have h3 := c9.out; omega
  have c5 := hid hc1;clear hc1;have b0 := c7c (jb K8 1 rfl);go_wp2_with fail
  go_ret;exact aA5.no HF.out K8.hb
 have c0 : ((n2 : Int) == (n1 : Int)) = true := by simpa using hc1
 have c4 : ((n2 : Int) != (n1 : Int)) = false := by simpa using hc1
 have d9 := hid hc1;have c5 := hid hc1;clear hc1;have b0 := c7c (jb K8 1 rfl);go_wp2_with fail
 refine (cK0 _ _ _ ys _ (d2.out _ K8.hb) (by omega) d4.out).mono ?_;rintro e w9 ⟨u6, rfl, b1, bw⟩;have K9 := jw K8 bw;clear bw K8;clear b0;go_wp2_with fail
 go_ret;exact ⟨u6, rfl, ⟨fun h => ⟨HR.out, HP.out, HT.out, d8.out, HE.out.trans b4.out.symm, by have h1 := c8.out; have h2 := c9.out; have h3 := d9.out; omega, b1.1 h⟩, fun h => b1.2 h.2.2.2.2.2.2⟩, K9.hb⟩
theorem aH9.later {B : Nat} {t : ByteArray} {w w' : World} (h : aH9 B t w) (hb : Below w.heap.size w w') : aH9 B t w' := by
 have a0 : ∀ p, BuilderAt 136 5 B B p (strCells t) w → BuilderAt 136 5 B B p (strCells t) w' := by
  rintro p ⟨h1, v, h2, h3, h4⟩
  have a1 : B < w.heap.size := (blt h2)
  refine ⟨h1, v, by rw [hb.block _ a1]; exact h2, aA8 h3 hb (fun g hg => ?_), h4⟩
  rcases h3.2 with ⟨rfl, _⟩ | ⟨g', a2, a3, rfl, _, h5, _⟩
  ·simp [Value.ownBlock] at hg
  ·simp [Value.ownBlock] at hg
   subst hg
   exact (blt h5)
 rcases h with h | h
 ·exact .inl (a0 _ h)
 exact .inr (a0 _ h)
theorem bS4 (p : Tx) (o1 : Oa) (n1 c1 : Nat) (xs : Ts) (o2 : Oa) (n2 c2 : Nat) (ys : Ts) (st : Int) (v3 : Value) (n3 base : Nat) (fs : Fs) (b : Tx) (t : Int) (w : World) (h1 : aC0 w o1 n1 xs) (h2 : aC0 w o2 n2 ys) (h3 : aB4 w base v3 n3 fs) (hn1 : n1 ≤ 2000000) (hn2 : n2 ≤ 2000000) (hn3 : n3 ≤ 2000000) (hs1 : ∀ i, i < n1 → (aA7 xs i).size ≤ maxLen) (hs2 : ∀ i, i < n2 → (aA7 ys i).size ≤ maxLen) (hs3 : aR0 n3 fs) (hp : p.size ≤ maxLen) (hx : b.size ≤ maxLen) (hg : (getV fs aF0).size ≤ 1048576) (hc : aU0 fs) (htab : aG9 w) :
  Calls prog 22 #[.agg #[.string p, .slice o1 n1 c1, .slice o2 n2 c2, .int .i64 st, v3, .string b, .int .i64 t]] w fun e w' => bO7 (ObjP p xs ys st fs b t) (objT p ys st fs b t) w e w' := by
 obtain ⟨o3, c3, rfl, _⟩ := h3.slice;have f7 : Hid (∀ W, Bw w W → aC0 W o1 n1 xs) := fun W h => h1.below h
 have e3 : Hid (∀ W, Bw w W → aC0 W o2 n2 ys) := fun W h => h2.below h
 have e4 : Hid (∀ W, Bw w W → aB4 W base (.slice o3 n3 c3) n3 fs) := fun W h => h3.below h
 have b2 : Hid (ys.length = n2) := h2.1;have f8 := hid hs1;have e5 := hid hs2;have e6 := hid hs3;have f9 := hid hp;have HX := hid hx;have HG := hid hg;have HC : Hid (aU0 fs) := hc;have b1 : Hid (∀ W, Bw w W → aG9 W) := fun W h => htab.below h
 clear hc htab;obtain ⟨tt, e7⟩ := exq (aD1 t);have c6 : Hid (aD1 t = tt) := e7.symm;obtain ⟨nn, e8⟩ : ∃ x, x = aD1 ((n2 : Nat) : Int) := ⟨_, rfl⟩;have c7 : Hid (aD1 ((n2 : Nat) : Int) = nn) := e8.symm;clear h1 h2 h3 hs1 hs2 hs3 hp hx hg e7 e8;have K0 := jnil w;go_enter func22, ntmps22;go_upto_region 1 with fail
 obtain ⟨q1, c8⟩ := exq (w.heap.size);obtain ⟨w1, b3⟩ := exq (w.alloc (.cells #[.string p, .slice o1 n1 c1, .slice o2 n2 c2, .int .i64 st, .slice o3 n3 c3, .string b, .int .i64 t] 36));have c9 := c8.symm;rw [← b3]; try rw [← c8];have hs1 := hsa b3 c9;have bw := bal b3;have K1 := ja K0 b3 c9;clear bw b3 c9 K0;clear hs1 c8;have d0 := c7c (jb K1 0 rfl);go_wp2_with fail
 refine (aS0 p _ n1 _ xs _ n2 _ ys st _ n3 base fs b t _ (f7.out _ K1.hb) (e3.out _ K1.hb) (e4.out _ K1.hb) (by omega) (by omega) (by omega) f8.out e5.out e6.out HC.out f9.out HX.out HG.out).mono ?_;rintro e w2 ⟨u1, rfl, a6, bw⟩;have K2 := jw K1 bw;clear bw K1;clear d0;cases u1
 ·have HF : Hid (¬ ObjP p xs ys st fs b t) := fun h => nomatch a6.2 h
  clear a6;go_wp2_with fail
  go_ret;exact ⟨⟨#[]⟩, rfl, fun h => absurd h HF.out, fun _ => rfl, K2.hb⟩
 have b0 : Hid (ObjP p xs ys st fs b t) := a6.1 rfl;clear a6;have HT : Hid (0 ≤ t ∧ t ≤ 1000000) := b0.out.2.2.1;have g0 : Hid (n2 ≤ 4) := by show _ ≤ _; have h4 := b0.out.2.2.2.1.2; have h5 := b0.out.2.2.2.2.2.1; have h6 := b2.out; omega
 obtain ⟨hd, b6⟩ := exq (aK1 p t n2)
 have g1 : Hid (((((((⟨#[111, 98, 106, 32]⟩ ++ p) ++ ⟨#[32]⟩) ++ tt) ++ ⟨#[32]⟩) ++ nn) ++ ⟨#[10]⟩) = hd) := by
  show _ = _
  rw [b6, ← c6.out, ← c7.out, aC9 HT.out.1, aC9 (by omega)]
  rfl
 have d1 : Hid (∀ k, k ≤ n2 → (aG0 hd ys k).size ≤ 400) := fun k hk => by
  have h := bI6 b0.out k (by rw [b2.out]; exact hk)
  rw [b2.out, ← b6] at h
  have := g0.out
  omega
 have d2 : Hid (objT p ys st fs b t = aG0 hd ys n2 ++ aL7 st fs b) := by
  show _ = _
  unfold objT
  rw [b2.out, ← b6]
 have e9 : Hid (aN1 st fs b) := b0.out.1;have zp : p.size ≤ 60 := b0.out.2.1.2.2.1;have i1 : tt.size ≤ 8 := by rw [← c6.out, aC9 HT.out.1]; exact aD8 _
 have i2 : nn.size ≤ 8 := by rw [← c7.out, aC9 (by omega)]; exact aD8 _
 clear b6;go_upto_region 4 with fail
 obtain ⟨q2, d3⟩ := exq (w2.heap.size);obtain ⟨w3, b4⟩ := exq (w2.alloc (.cells #[.pointer none, .slice none 0 0] 136));have b7 := d3.symm;rw [← b4]; try rw [← d3];have hs3 := hsa b4 b7;have bw := bal b4;have K3 := ja K2 b4 b7;have a2 : Hid (q1 < q2) := by have h1 := (Array.getElem?_eq_some_iff.1 (jb K2 0 rfl)).1; show _ < _; omega
 have b8 : Hid (w.heap.size ≤ q2) := by show _ ≤ _; rw [← b7]; exact K2.hb.size
 clear bw b4 b7 K2;clear hs3 d3;have d4 : Hid (aH9 q2 ⟨#[]⟩ w3) := Or.inl ⟨Nat.le_refl _, .slice none 0 0, (jb K3 0 rfl), World.ownsRow_nil _ _ _ _, by simp [Value.ownBlock]⟩;have g2 : Hid (q2 ≤ w3.heap.size) := Nat.le_of_lt (Array.getElem?_eq_some_iff.1 (jb K3 0 rfl)).1;go_upto_region 4 with fail
 refine wp_region_held_drew (S := fun W => W.heap[q1]? = some (.cells #[.string p, .slice o1 n1 c1, .slice o2 n2 c2, .int .i64 st, .slice o3 n3 c3, .string b, .int .i64 t] 36)) (by kernel_rfl) (jb K3 1 rfl) (fun _ => ?_)
 obtain ⟨w4, hX⟩ := exq w3.drew;have bw := bdr hX;rw [← hX];have K4 := jw K3 bw;have g3 := hsz bw;have d5 : Hid (aH9 q2 (⟨#[]⟩) w4) := d4.out.later bw;have a5 := (jb K4 1 rfl);clear bw hX K3;refine tkP 0 (.pointer (some ⟨q1, 0, none⟩)) 9 rfl rfl a5 ?_;go_frame;refine tkL 1 (.string p) 10 rfl rfl (Or.inl ⟨by rfl, by intro W hW; have a3 := hW; have y0 := c7c a3; go_simp⟩) a5 ?_;go_frame;refine tkL 2 (.string (⟨#[111, 98, 106, 32]⟩ ++ p)) 11 rfl rfl (Or.inl ⟨by rfl, by intro W _; go_simp <;> omega⟩) a5 ?_;go_frame;refine tkL 3 (.string ((⟨#[111, 98, 106, 32]⟩ ++ p) ++ ⟨#[32]⟩)) 12 rfl rfl (Or.inl ⟨by rfl, by intro W _; go_simp <;> omega⟩) a5 ?_;go_frame;refine tkP 4 (.pointer (some ⟨q1, 6, none⟩)) 13 rfl rfl a5 ?_;go_frame;refine tkL 5 (.int .i64 t) 14 rfl rfl (Or.inl ⟨by rfl, by intro W hW; have a3 := hW; have y6 := c7c a3; go_simp⟩) a5 ?_;go_frame;refine tkP 9 (.pointer (some ⟨q1, 2, none⟩)) 18 rfl rfl a5 ?_;go_frame;refine tkL 10 (.slice o2 n2 c2) 19 rfl rfl (Or.inl ⟨by rfl, by intro W hW; have a3 := hW; have y2 := c7c a3; go_simp⟩) a5 ?_;go_frame;refine tkP 11 (.int .i64 (n2 : Int)) 20 rfl rfl a5 ?_;go_frame;refine rd1 6 rfl (fun K hK => ?_)
 go_simp;refine (aF8 t _ (by have := HT.out; omega) (by have := HT.out; omega) (b1.out _ K4.hb)).mono ?_;rintro e w5 ⟨rfl, bw⟩;rw [c6.out];have K5 := jw K4 bw;have g4 := hsz bw;have d6 : Hid (aH9 q2 (⟨#[]⟩) w5) := d5.out.later bw;clear bw K4;have b9 := (jb K5 1 rfl);refine hK.out _ _ b9 (fun _ => ?_)
 clear hK K a5;refine tkL 7 (.string (((⟨#[111, 98, 106, 32]⟩ ++ p) ++ ⟨#[32]⟩) ++ tt)) 16 rfl rfl (Or.inl ⟨by rfl, by intro W _; go_simp <;> omega⟩) b9 ?_;go_frame;refine tkL 8 (.string ((((⟨#[111, 98, 106, 32]⟩ ++ p) ++ ⟨#[32]⟩) ++ tt) ++ ⟨#[32]⟩)) 17 rfl rfl (Or.inl ⟨by rfl, by intro W _; go_simp <;> omega⟩) b9 ?_;go_frame;refine rd1 12 rfl (fun K hK => ?_)
 go_simp;refine (aF8 ((n2 : Nat) : Int) _ (by omega) (by omega) (b1.out _ K5.hb)).mono ?_;rintro e w6 ⟨rfl, bw⟩;rw [c7.out];have K6 := jw K5 bw;have g5 := hsz bw;have b5 : Hid (aH9 q2 (⟨#[]⟩) w6) := d6.out.later bw;clear bw K5;have c0 := (jb K6 1 rfl);refine hK.out _ _ c0 (fun _ => ?_)
 clear hK K b9;refine tkL 13 (.string (((((⟨#[111, 98, 106, 32]⟩ ++ p) ++ ⟨#[32]⟩) ++ tt) ++ ⟨#[32]⟩) ++ nn)) 22 rfl rfl (Or.inl ⟨by rfl, by intro W _; go_simp <;> omega⟩) c0 ?_;go_frame;refine tkL 14 (.string ((((((⟨#[111, 98, 106, 32]⟩ ++ p) ++ ⟨#[32]⟩) ++ tt) ++ ⟨#[32]⟩) ++ nn) ++ ⟨#[10]⟩)) 23 rfl rfl (Or.inl ⟨by rfl, by intro W _; go_simp <;> omega⟩) c0 ?_;go_frame;refine rd1 15 rfl (fun K hK => ?_)
 go_simp;rw [g1.out];refine (aT7 q2 ⟨#[]⟩ hd _ b5.out (by have := d1.out 0 (Nat.zero_le _); have e0 : (⟨#[]⟩ : Tx).size = 0 := rfl; unfold aG0 at this; omega) (Nat.le_of_lt (by rcases b5.out with ⟨_, v, h, _⟩ | ⟨_, v, h, _⟩ <;> exact (blt h)))).mono ?_;rintro e w7 ⟨rfl, a4, bm⟩;have a1 : aH9 q2 (aG0 hd ys 0) w7 := by rw [show (⟨#[]⟩ : Tx) ++ hd = hd from aE3 (by rw [aF7]; rfl)] at a4; exact a4
 clear a4;have f0 : Bw w w7 := K6.hb.trans (bm.mono b8.out);have g6 := hsz bm;have a7 : Hid (w7.heap[q1]? = some (.cells #[.string p, .slice o1 n1 c1, .slice o2 n2 c2, .int .i64 st, .slice o3 n3 c3, .string b, .int .i64 t] 36)) := (bm.block _ a2.out).trans (jb K6 1 rfl);have d7 : Hid (aH9 q2 (aG0 hd ys 0) w7) := a1;have K7 := jz K6 f0 (jzx (jzb a7.out (jzn _)));clear a1 bm K6;have f1 := a7.out;refine hK.out _ _ f1 (fun _ => ?_)
 clear hK K c0;clear f1;refine wdn ?_;have g7 := c7c a7.out;go_wp2_with fail
 go_loopw [28] (fun i wr => ∃ j : Nat, j ≤ n2 ∧ i = .int .i64 (j : Int) ∧ Hid (Bw w wr ∧ wr.heap[q1]? = some (.cells #[.string p, .slice o1 n1 c1, .slice o2 n2 c2, .int .i64 st, .slice o3 n3 c3, .string b, .int .i64 t] 36) ∧ aH9 q2 (aG0 hd ys j) wr ∧ q2 ≤ wr.heap.size)) (fun i _ => n2 - (intOf i).toNat)
 case atStart => exact ⟨0, Nat.zero_le _, rfl, ⟨f0, a7.out, d7.out, Nat.le_trans g2.out (by have := g3.out; have := g4.out; have := g5.out; have := g6.out; omega)⟩⟩
 case round =>
  obtain ⟨j, hj, rfl, HW⟩ := hrel;by_cases hlt : (j : Int) < (n2 : Int)
  ·obtain ⟨g, g8, hg, hc⟩ := (e3.out wr HW.out.1).2 j (by omega);subst g8;obtain ⟨x, c4⟩ := exq (aA7 ys j);have d8 := e5.out j (by omega);rw [← c4] at hc d8;obtain ⟨ot, a8⟩ := exq (aG0 hd ys j);have HN : Hid (ot ++ (x ++ ⟨#[10]⟩) = aG0 hd ys (j + 1)) := by show _ = _; rw [a8, c4, aG0, ByteArray.append_assoc]
   have zx : x.size ≤ 60 := by rw [c4]; exact (b0.out.2.2.2.2.2.2 _ (aG7 ys j (by rw [b2.out]; omega))).2.1
   have hz : ot.size + (x ++ ⟨#[10]⟩).size ≤ 140737488355328 := by
    have h1 := d1.out j (by omega)
    rw [← a8] at h1
    have e1 : (⟨#[10]⟩ : Tx).size = 1 := rfl
    unfold maxLen at d8
    rw [ByteArray.size_append]
    omega
   have f2 : Hid (aH9 q2 ot wr) := by show aH9 _ _ _; rw [a8]; exact HW.out.2.2.1
   clear c4 a8 d8;go_wp2_with fail
   have a0 := aT7 q2 ot (x ++ ⟨#[10]⟩) wr f2.out hz HW.out.2.2.2;refine a0.mono ?_;clear a0;rintro e a9 ⟨rfl, a1, bm⟩;rw [HN.out] at a1;have c5 : Hid (Bw w a9 ∧ a9.heap[q1]? = some (.cells #[.string p, .slice o1 n1 c1, .slice (some ⟨g, 0, none⟩) n2 c2, .int .i64 st, .slice o3 n3 c3, .string b, .int .i64 t] 36) ∧ aH9 q2 (aG0 hd ys (j + 1)) a9 ∧ q2 ≤ a9.heap.size) := ⟨HW.out.1.trans (bm.mono b8.out), (bm.block _ a2.out).trans HW.out.2.1, a1, Nat.le_trans HW.out.2.2.2 bm.size⟩;clear a1 bm f2 HW hc hz;go_wp2_with fail
   go_roundw
   case rel => exact ⟨j + 1, by omega, by go_num, c5⟩
   case measure => simp [intOf]; omega
  obtain rfl : j = n2 := by omega
  obtain ⟨ot, a8⟩ := exq (aG0 hd ys j);have g9 : Hid (objT p ys st fs b t = ot ++ aL7 st fs b) := by show _ = _; rw [a8]; exact d2.out
  have HZ : Hid (ot.size + (aL7 st fs b).size ≤ 140737488355328) := by
   show _ ≤ _
   have h1 := d1.out j (by omega)
   rw [← a8] at h1
   have h2 := bY1 e9.out
   omega
  have HH : Hid (aH9 q2 ot wr) := by show aH9 _ _ _; rw [a8]; exact HW.out.2.2.1
  have h0 : wr.cell? ⟨q1, 3, none⟩ = some (.int .i64 st) := (aA1 HW.out.2.1 3).trans rfl;have h7 : wr.cell? ⟨q1, 4, none⟩ = some (.slice o3 n3 c3) := (aA1 HW.out.2.1 4).trans rfl;have h8 : wr.cell? ⟨q1, 5, none⟩ = some (.string b) := (aA1 HW.out.2.1 5).trans rfl;clear a8;go_wp2_with fail
  refine (bL7 st _ b n3 base fs _ (e4.out _ HW.out.1) (by omega) e6.out HX.out (b1.out _ HW.out.1)).mono ?_;rintro e a9 ⟨u, rfl, hu, _, bw⟩;have HU : Hid (u = aL7 st fs b) := hu e9.out;have c5 : Hid (Bw w a9) := HW.out.1.trans (bw.mono HW.out.1.size);have d9 : Hid (q2 ≤ a9.heap.size) := Nat.le_trans HW.out.2.2.2 bw.size;have f3 : Hid (aH9 q2 ot a9) := HH.out.later bw;clear bw hu h0 h7 h8 HW HH;go_wp2_with fail
  have a0 := aT7 q2 ot u a9 f3.out (by rw [HU.out]; exact HZ.out) d9.out;refine a0.mono ?_;clear a0;rintro e e2 ⟨rfl, a1, bm⟩;have f4 : Hid (Bw w e2) := c5.out.trans (bm.mono b8.out);have f5 := hid a1;have f6 : Hid (q2 ≤ e2.heap.size) := Nat.le_trans d9.out bm.size;clear a1 bm f3 c5 d9;go_wp2_with fail
  have a0 := cT2 q2 (ot ++ u) e2 f5.out f6.out;refine a0.mono ?_;clear a0;rintro e h9 ⟨rfl, bm⟩;have i0 : Hid (Bw w h9) := f4.out.trans (bm.mono b8.out);clear bm f5 f6 f4;go_wp2_with fail
  go_ret;exact ⟨_, rfl, fun _ => by rw [g9.out, HU.out], fun h => absurd b0.out h, i0.out⟩
theorem cX5 (s : Tx) : (aL1 s).size = s.size := by unfold aL1; rw [strOfNums_size, bE2]
def cX6 (s : Tx) (w : World) (e : Ending) (w' : World) : Prop :=
 Below w.heap.size w w' ∧ ((∃ (p : Tx) (ys : Ts) (st : Int) (fs : Fs) (b : Tx) (t : Int) (v1 v2 v3 : Value), e = .returned (.tuple #[.agg #[.string p, v1, v2, .int .i64 st, v3, .string b, .int .i64 t], .bool true]) ∧ aG2 s p ys st fs b t ∧ ObjO w' w.heap.size v1 (aC1 fs).length (aC1 fs) v2 ys.length ys v3 fs.length fs) ∨
  (e = .returned (.tuple #[.agg #[.string ⟨#[]⟩, .slice none 0 0, .slice none 0 0, .int .i64 0, .slice none 0 0, .string ⟨#[]⟩, .int .i64 0], .bool false]) ∧ ∀ p ys st fs b t, ¬ aG2 s p ys st fs b t))
theorem dK2 (p : Tx) (ys : Ts) (st : Int) (fs : Fs) (b : Tx) (t : Int) : 4 ≤ (objT p ys st fs b t).size := by
 rw [← aC4, cC7, List.length_append];have : (bs objW).length = 4 := rfl;omega
theorem dK3 {s : ByteArray} {t n : Int} {k : Nat} {st : Int} {fs : Fs} {bd : ByteArray} (ht : aO1 (cutA (bU8 s) blE) → t = valL (cutA (bU8 s) blE).data.toList) (hn : aO1 (cutA (cN3 s) nlE) → n = valL (cutA (cN3 s) nlE).data.toList) (hk : min n 4 = (k : Int)) (hr : ∀ st' fs' b', aJ7 (lnTo (bD8 s) k).2 st' fs' b' → st = st' ∧ fs = fs' ∧ bd = b')
  {p' : ByteArray} {ys' : Ts} {st' : Int} {fs' : Fs} {b' : ByteArray} {t' : Int} (h : aG2 s p' ys' st' fs' b' t') :
  cutA (aK5 s objW) blE = p' ∧ (lnTo (bD8 s) k).1 = ys' ∧ st = st' ∧ fs = fs' ∧ bd = b' ∧ t = t' := by
 obtain ⟨a1, a2, a3, a4, a5, a6⟩ := bB2 h;have hT := h.1.2.2.1
 have e1 : t = t' := by
  have h1 := ht (by rw [a2]; exact bQ1 _ (by omega))
  rw [a2, show (aB7 t'.toNat).data.toList = numL t'.toNat from rfl, aK3 _ (by omega)] at h1
  omega
 have e2 : n = (ys'.length : Int) := by
  have h1 := hn (by rw [a3]; exact bQ1 _ (by omega))
  rw [a3, show (aB7 ys'.length).data.toList = numL ys'.length from rfl, aK3 _ (by omega)] at h1
  exact h1
 have e3 : k = ys'.length := by omega
 rw [e3] at hr ⊢;obtain ⟨q1, q2, q3⟩ := hr st' fs' b' ⟨h.1.1, a5.symm⟩;exact ⟨a1, a4, q1, q2, q3, e1⟩
structure OSt (w : World) (R b g : Nat) (W : World) : Prop where
 bel : Below w.heap.size w W
 rc : W.heap[R]? = some (.cells #[.string ⟨#[]⟩, .slice none 0 0, .slice none 0 0, .int .i64 0, .slice none 0 0, .string ⟨#[]⟩, .int .i64 0] 36)
 steps : dE7 W g
 glt : g < W.heap.size
theorem OSt.grown {w : World} {R b g : Nat} {W W' : World} (h : OSt w R b g W) (hg : W.grownBy W' (some b)) (hb : w.heap.size ≤ b) (hR : R ≠ b) (hgb : g ≠ b) : OSt w R b g W' := by
 have hc : ∀ j, W'.cell? ⟨g, j, none⟩ = W.cell? ⟨g, j, none⟩ := fun j => by
  unfold World.cell?
  rw [hg.block g h.glt (fun e => hgb (Option.some.inj e))]
 refine ⟨h.bel.trans (bP2 hg h.bel.size hb), ?_, ?_, Nat.lt_of_lt_of_le h.glt hg.size⟩
 ·rw [hg.block R (Array.getElem?_eq_some_iff.1 h.rc).1 (fun e => hR (Option.some.inj e))]
  exact h.rc
 obtain ⟨s0, s1, s2, s3, s4⟩ := h.steps;exact ⟨(hc 0).trans s0, (hc 1).trans s1, (hc 2).trans s2, (hc 3).trans s3, (hc 4).trans s4⟩
theorem bJ5 {fs : Fs} (h : aG5 fs) : (aC1 fs).length ≤ 2000000 ∧ ∀ i, i < (aC1 fs).length → (aA7 (aC1 fs) i).size ≤ maxLen := by
 have a0 := bE9 (getV fs aF0);have hg := aP8 h aF0;unfold aC1;refine ⟨by rw [List.length_map]; omega, fun i hi => ?_⟩
 rw [List.length_map] at hi;unfold aA7;rw [List.getD_eq_getElem?_getD, List.getElem?_map, List.getElem?_eq_getElem hi];have := a0.2 _ (List.getElem_mem hi);show (aL1 _).size ≤ _
 rw [cX5];unfold maxLen;omega
theorem bS5 (s : Tx) (w : World) (hs : s.size ≤ 3000000) (htab : aG9 w) (hlen : aH5 w) :
  Calls prog 170 #[.string s] w fun e w' => cX6 s w e w' := by
 have e4 := hlen.lt;have a4 : Hid (∀ W, Bw w W → aH5 W) := fun W h => hlen.below h e4
 have b3 : Hid (∀ W, Bw w W → aG9 W) := fun W h => htab.below h
 obtain ⟨R, hR⟩ := exq (w.heap.size);obtain ⟨b, hb⟩ := exq (w.heap.size + 1);have a2 : Hid (w.heap.size ≤ R) := by show _ ≤ _; omega
 have b4 : Hid (w.heap.size ≤ b) := by show _ ≤ _; omega
 have b5 : Hid (R ≠ b) := by show _ ≠ _; omega
 obtain ⟨W1, b1⟩ := exq ((w.alloc (.cells #[.string ⟨#[]⟩, .slice none 0 0, .slice none 0 0, .int .i64 0, .slice none 0 0, .string ⟨#[]⟩, .int .i64 0] 36)).alloc (.cells #[.string s, .string ⟨#[]⟩, .slice none 0 0, .slice none 0 0, .int .i64 0, .slice none 0 0, .string ⟨#[]⟩, .int .i64 0, .int .i64 0, .string ⟨#[]⟩, .string ⟨#[]⟩, .string ⟨#[]⟩, .string ⟨#[]⟩] 288));have hsz : W1.heap.size = w.heap.size + 2 := by rw [b1]; simp
 have H1 : Hid (Bw w W1) := by show Below _ _ _; rw [b1]; exact ((Below.refl _ _).alloc (Nat.le_refl _) _).alloc (by simp) _
 have b9 : Hid (W1.heap[R]? = some (.cells #[.string ⟨#[]⟩, .slice none 0 0, .slice none 0 0, .int .i64 0, .slice none 0 0, .string ⟨#[]⟩, .int .i64 0] 36)) := by
  show _ = _
  rw [b1, hR, heap_alloc_old _ _ (by simp)]
  exact heap_alloc_new _ _
 have e5 : Hid (RdX W1 b s [.string ⟨#[]⟩, .slice none 0 0, .slice none 0 0, .int .i64 0, .slice none 0 0, .string ⟨#[]⟩, .int .i64 0, .int .i64 0, .string ⟨#[]⟩, .string ⟨#[]⟩, .string ⟨#[]⟩, .string ⟨#[]⟩] 288) := by
  show _ = _
  have h := heap_alloc_new (w.alloc (.cells #[.string ⟨#[]⟩, .slice none 0 0, .slice none 0 0, .int .i64 0, .slice none 0 0, .string ⟨#[]⟩, .int .i64 0] 36)) (.cells #[.string s, .string ⟨#[]⟩, .slice none 0 0, .slice none 0 0, .int .i64 0, .slice none 0 0, .string ⟨#[]⟩, .int .i64 0, .int .i64 0, .string ⟨#[]⟩, .string ⟨#[]⟩, .string ⟨#[]⟩, .string ⟨#[]⟩] 288)
  rw [b1, hb]
  simpa using h
 have e6 := hid hs;have h8 : (bU8 s).size ≤ 3000000 := Nat.le_trans (bX9 s) hs;have h9 : (cN3 s).size ≤ 3000000 := Nat.le_trans (bY0 s) hs;have c7 : (bD8 s).size ≤ 3000000 := Nat.le_trans (cV6 s) hs;have e7 : Hid (b < W1.heap.size) := by show _ < _; omega
 go_enter func170, ntmps170;go_upto_region 2 with fail
 rw [← b1, ← hb, ← hR];clear b1 hsz hb hR e4 hlen htab;go_wp2_with fail
 refine (bS3 _).mono ?_;rintro e w2 ⟨g, rfl, e8, i0, e9, bw⟩;have b6 : Hid (g ≠ b) := by have := e7.out; show _ ≠ _; omega
 have O2 : Hid (OSt w R b g w2) := ⟨H1.out.trans (bw.mono H1.out.size), (bw.block R (blt b9.out)).trans b9.out, e8, e9⟩;have X2 : Hid (RdX w2 b s [.string ⟨#[]⟩, .slice none 0 0, .slice none 0 0, .int .i64 0, .slice none 0 0, .string ⟨#[]⟩, .int .i64 0, .int .i64 0, .string ⟨#[]⟩, .string ⟨#[]⟩, .string ⟨#[]⟩, .string ⟨#[]⟩] 288) := e5.out.below bw;clear e8 i0 e9 bw e5 b9 H1 e7;go_wp2_with fail
 refine wp_loop_rounds 6 ?_;rw [rounds_succ];have sc := O2.out.steps.1;go_wp2_with fail
 refine (cJ8 b s _ _ _ X2.out ⟨_, rfl⟩ (by have := e6.out; omega) (a4.out _ O2.out.bel)).mono ?_;rintro e w3 ⟨rfl, x3, g3⟩;have O3 : Hid (OSt w R b g w3) := O2.out.grown g3 b4.out b5.out b6.out;obtain ⟨P, hP⟩ := exq (cutA (aK5 s objW) blE);have HP := hid hP.symm;rw [← hP] at x3;have X3 := (show Hid _ from x3);clear sc x3 g3 O2 X2 hP;go_wp2_with fail
 rw [rounds_succ];have sc := O3.out.steps.2.1;go_wp2_with fail
 refine (cJ9 b (bU8 s) _ _ _ _ _ _ _ _ _ X3.out (by omega) (a4.out _ O3.out.bel)).mono ?_;rintro e w4 ⟨rfl, t, i1, f7, x4, g4⟩;have O4 : Hid (OSt w R b g w4) := O3.out.grown g4 b4.out b5.out b6.out;have f8 := hid f7;have X4 := (show Hid _ from x4);clear sc x4 g4 O3 X3 f7;go_wp2_with fail
 rw [rounds_succ];have sc := O4.out.steps.2.2.1;go_wp2_with fail
 refine (cE7 b (cN3 s) _ _ _ _ _ _ _ _ _ _ X4.out (by omega) (a4.out _ O4.out.bel)).mono ?_;rintro e w5 ⟨rfl, n, f9, g0, x5, g5⟩;have O5 : Hid (OSt w R b g w5) := O4.out.grown g5 b4.out b5.out b6.out;have g1 := hid g0;have X5 := (show Hid _ from x5);obtain ⟨k, hk⟩ : ∃ k : Nat, min n 4 = (k : Int) := ⟨(min n 4).toNat, by omega⟩;have HK := hid hk;have i9 : k ≤ 4 := by omega
 clear sc x5 g5 O4 X4 g0 hk;go_wp2_with fail
 rw [rounds_succ];have sc := O5.out.steps.2.2.2.1;go_wp2_with fail
 refine (bV4 b (bD8 s) _ _ _ _ _ _ n k HK.out f9 _ _ _ _ _ X5.out (by omega) (a4.out _ O5.out.bel)).mono ?_;rintro e w6 ⟨rfl, vV, vs, x6, a8, g6⟩;have O6 : Hid (OSt w R b g w6) := O5.out.grown g6 b4.out b5.out b6.out;have X6 := (show Hid _ from x6);obtain ⟨oV, cV, rfl⟩ := aA0 a8;have V6 : Hid (w6.ownsRow w.heap.size 9 1 (.slice oV k cV) k ((lnTo (bD8 s) k).1.map Value.string)) := aF5 a8 O5.out.bel.size;have g2 : (lnTo (bD8 s) k).2.size ≤ 3000000 := Nat.le_trans (aV9 (bD8 s) k).2.1 c7;clear sc x6 g6 O5 X5 a8 f9;go_wp2_with fail
 rw [rounds_succ];have sc := O6.out.steps.2.2.2.2;go_wp2_with fail
 refine (bV5 b (lnTo (bD8 s) k).2 _ _ _ _ _ _ _ _ X6.out g2 (a4.out _ O6.out.bel) (b3.out _ O6.out.bel)).mono ?_;rintro e w7 ⟨rfl, st, fs, bd, vF, vN, x7, a9, a5, g8, g9, g7⟩;have O7 : Hid (OSt w R b g w7) := O6.out.grown g7 b4.out b5.out b6.out;obtain ⟨oF, cF, rfl⟩ := aA0 a9;obtain ⟨oN, cN, rfl⟩ := aA0 a5;have F7 : Hid (w7.ownsRow w.heap.size 232 2 (.slice oF fs.length cF) fs.length (aE5 fs)) := aF5 a9 O6.out.bel.size;have N7 : Hid (w7.ownsRow w.heap.size 9 1 (.slice oN (aC1 fs).length cN) (aC1 fs).length ((aC1 fs).map Value.string)) := aF5 a5 O6.out.bel.size;have V7 : Hid (w7.ownsRow w.heap.size 9 1 (.slice oV k cV) k ((lnTo (bD8 s) k).1.map Value.string)) := aA9 V6.out (fun j hj => g7.block j (aB0 V6.out hj) (fun e => aE8 V6.out X6.out (by decide) j hj (Option.some.inj e)))
 have i2 : Hid (∀ j, (Value.slice oN (aC1 fs).length cN).ownBlock = some j → (Value.slice oV k cV).ownBlock ≠ some j) := fun j hj e => by
  have h1 := aC8 a5 hj
  have h2 := aB0 V6.out e
  omega
 have b2 := hid g8
 have h4 : Hid (∀ {p' : ByteArray} {c8 : Ts} {c9 : Int} {d0 : Fs} {b' : ByteArray} {t' : Int}, aG2 s p' c8 c9 d0 b' t' → P = p' ∧ (lnTo (bD8 s) k).1 = c8 ∧ st = c9 ∧ fs = d0 ∧ bd = b' ∧ t = t') := fun h => by
  rw [← HP.out]
  exact dK3 f8.out g1.out HK.out g9 h
 obtain ⟨ys, d8⟩ := exq ((lnTo (bD8 s) k).1);rw [← d8] at V7 h4
 have d9 : Hid (ys.length = k ∧ ∀ y ∈ ys, y.size ≤ 3000000) := by
  show _ ∧ _
  rw [d8]
  exact ⟨(aV9 _ k).1, fun y hy => Nat.le_trans ((aV9 _ k).2.2 y hy) c7⟩
 have i3 : Hid (P.size ≤ maxLen) := by
  show _ ≤ _
  rw [← HP.out]
  have h1 := aF9 (aK5 s objW) blE
  have h2 := aI6 s objW
  have h3 := e6.out
  unfold maxLen
  omega
 have X7 := (show Hid (RdX w7 b _ (.string P :: .slice oN (aC1 fs).length cN :: .slice oV k cV :: .int .i64 st :: .slice oF fs.length cF :: .string bd :: .int .i64 t :: .int .i64 n :: vs) 288) from x7);clear sc x7 g7 O6 X6 V6 a9 a5 g8 g9 f8 g1 HK HP d8 h8 h9 c7 g2 i1;go_wp2_with fail
 rw [rounds_succ];by_cases h0 : s.size = 0
 ·have e0 := aK9 h0;have a0 := O7.out.rc;have b0 := O7.out.bel
  have e1 : Hid (∀ p ys st fs b t, ¬ aG2 s p ys st fs b t) := fun p ys st fs b t h => by
   have h1 := dK2 p ys st fs b t
   rw [h.2] at h1
   omega
  obtain ⟨c0, c1, c2, c3, c4, c5, c6⟩ := c7c a0;have f0 := aA2 a0 0;have f1 := aA2 a0 1;have f2 := aA2 a0 2;have f3 := aA2 a0 3;have f4 := aA2 a0 4;have f5 := aA2 a0 5;have f6 := aA2 a0 6;obtain ⟨WE, a3⟩ := exq ((((((((w7.setCell ⟨R, 0, none⟩ (.string ⟨#[]⟩)).setCell ⟨R, 1, none⟩ (.slice none 0 0)).setCell ⟨R, 2, none⟩ (.slice none 0 0)).setCell ⟨R, 3, none⟩ (.int .i64 0)).setCell ⟨R, 4, none⟩ (.slice none 0 0)).setCell ⟨R, 5, none⟩ (.string ⟨#[]⟩)).setCell ⟨R, 6, none⟩ (.int .i64 0)));have b7 := hid a3.symm;have b8 : Hid (Bw w WE) := by show Below _ _ _; rw [a3]; exact (bsc (bsc (bsc (bsc (bsc (bsc (bsc b0 a2.out 0) a2.out 1) a2.out 2) a2.out 3) a2.out 4) a2.out 5) a2.out 6)
  have a6 : WE.heap[R]? = some (.cells #[.string ⟨#[]⟩, .slice none 0 0, .slice none 0 0, .int .i64 0, .slice none 0 0, .string ⟨#[]⟩, .int .i64 0] 36) := by rw [a3]; have h := (aA3 _ R 6 _ _ _ (.int .i64 0) (aA3 _ R 5 _ _ _ (.string ⟨#[]⟩) (aA3 _ R 4 _ _ _ (.slice none 0 0) (aA3 _ R 3 _ _ _ (.int .i64 0) (aA3 _ R 2 _ _ _ (.slice none 0 0) (aA3 _ R 1 _ _ _ (.slice none 0 0) (aA3 _ R 0 _ _ _ (.string ⟨#[]⟩) a0))))))); simpa using h
  obtain ⟨k0, k1, k2, k3, k4, k5, k6⟩ := c7c a6;clear a3 a6 a0 b0;clear h0 F7 N7 V7 X7 O7;go_wp2_with fail
  simp only [b7.out]
  exact bodyPost_ret (v := .tuple #[.agg #[.string ⟨#[]⟩, .slice none 0 0, .slice none 0 0, .int .i64 0, .slice none 0 0, .string ⟨#[]⟩, .int .i64 0], .bool false]) (by simp [results, results170, go_sem, k0, k1, k2, k3, k4, k5, k6]) rfl ⟨b8.out, .inr ⟨rfl, e1.out⟩⟩
 have e0 := aN5 (s := s) (by omega);have d1 : w7.cell? ⟨b, 1, none⟩ = some (.string P) := (X7.out.at 0).trans rfl;have d2 : w7.cell? ⟨b, 2, none⟩ = some (.slice oN (aC1 fs).length cN) := (X7.out.at 1).trans rfl;have d3 : w7.cell? ⟨b, 3, none⟩ = some (.slice oV k cV) := (X7.out.at 2).trans rfl;have d4 : w7.cell? ⟨b, 4, none⟩ = some (.int .i64 st) := (X7.out.at 3).trans rfl;have d5 : w7.cell? ⟨b, 5, none⟩ = some (.slice oF fs.length cF) := (X7.out.at 4).trans rfl;have d6 : w7.cell? ⟨b, 6, none⟩ = some (.string bd) := (X7.out.at 5).trans rfl;have d7 : w7.cell? ⟨b, 7, none⟩ = some (.int .i64 t) := (X7.out.at 6).trans rfl;have H0 := hid h0;have j0 := (aM1 b2.out.1).1;have e2 := bJ5 b2.out.1;clear h0;go_wp2_with fail
 have a7 := bS4 P oN (aC1 fs).length cN (aC1 fs) oV k cV ys st (.slice oF fs.length cF) fs.length w.heap.size fs bd t w7 (aC2 N7.out) (aC2 V7.out) (aB4.of_owns F7.out) e2.1 (by omega) (by omega) e2.2 (fun i hi => by have := d9.out.2 _ (aG7 ys i (by rw [d9.out.1]; exact hi)); unfold maxLen; omega) (bE0 b2.out.1) i3.out (by have := b2.out.2; unfold maxLen; omega) (aP8 b2.out.1 _) (bS2 b2.out.1) (b3.out _ O7.out.bel)
 refine a7.mono ?_;clear a7;rintro e w8 ⟨u, rfl, h5, h6, bw⟩;have h7 := hid h5;have i4 := hid h6;have a0 := (bw.block R (Array.getElem?_eq_some_iff.1 O7.out.rc).1).trans O7.out.rc;have b0 := O7.out.bel.trans (bw.mono O7.out.bel.size);have X8 := X7.out.below bw;have F8 := aA8 F7.out bw (fun g hg => aB0 F7.out hg)
 have N8 := aA8 N7.out bw (fun g hg => aB0 N7.out hg)
 have V8 := aA8 V7.out bw (fun g hg => aB0 V7.out hg)
 clear h5 h6 bw d1 d2 d3 d4 d5 d6 d7 F7 N7 V7 X7 O7 e2;by_cases hus : u = s
 rotate_left
 ·have e1 : Hid (∀ p ys st fs b t, ¬ aG2 s p ys st fs b t) := fun p' c8 c9 d0 b' t' h => by
   obtain ⟨rfl, rfl, rfl, rfl, rfl, rfl⟩ := h4.out h
   exact hus ((h7.out h.1).trans h.2)
  have i5 := aB8 hus;obtain ⟨c0, c1, c2, c3, c4, c5, c6⟩ := c7c a0;have f0 := aA2 a0 0;have f1 := aA2 a0 1;have f2 := aA2 a0 2;have f3 := aA2 a0 3;have f4 := aA2 a0 4;have f5 := aA2 a0 5;have f6 := aA2 a0 6;obtain ⟨WE, a3⟩ := exq ((((((((w8.setCell ⟨R, 0, none⟩ (.string ⟨#[]⟩)).setCell ⟨R, 1, none⟩ (.slice none 0 0)).setCell ⟨R, 2, none⟩ (.slice none 0 0)).setCell ⟨R, 3, none⟩ (.int .i64 0)).setCell ⟨R, 4, none⟩ (.slice none 0 0)).setCell ⟨R, 5, none⟩ (.string ⟨#[]⟩)).setCell ⟨R, 6, none⟩ (.int .i64 0)));have b7 := hid a3.symm;have b8 : Hid (Bw w WE) := by show Below _ _ _; rw [a3]; exact (bsc (bsc (bsc (bsc (bsc (bsc (bsc b0 a2.out 0) a2.out 1) a2.out 2) a2.out 3) a2.out 4) a2.out 5) a2.out 6)
  have a6 : WE.heap[R]? = some (.cells #[.string ⟨#[]⟩, .slice none 0 0, .slice none 0 0, .int .i64 0, .slice none 0 0, .string ⟨#[]⟩, .int .i64 0] 36) := by rw [a3]; have h := (aA3 _ R 6 _ _ _ (.int .i64 0) (aA3 _ R 5 _ _ _ (.string ⟨#[]⟩) (aA3 _ R 4 _ _ _ (.slice none 0 0) (aA3 _ R 3 _ _ _ (.int .i64 0) (aA3 _ R 2 _ _ _ (.slice none 0 0) (aA3 _ R 1 _ _ _ (.slice none 0 0) (aA3 _ R 0 _ _ _ (.string ⟨#[]⟩) a0))))))); simpa using h
  obtain ⟨k0, k1, k2, k3, k4, k5, k6⟩ := c7c a6;clear a3 a6 a0 b0;clear hus F8 N8 V8 X8;go_wp2_with fail
  simp only [b7.out]
  exact bodyPost_ret (v := .tuple #[.agg #[.string ⟨#[]⟩, .slice none 0 0, .slice none 0 0, .int .i64 0, .slice none 0 0, .string ⟨#[]⟩, .int .i64 0], .bool false]) (by simp [results, results170, go_sem, k0, k1, k2, k3, k4, k5, k6]) rfl ⟨b8.out, .inr ⟨rfl, e1.out⟩⟩
 have i6 : Hid (aG2 s P ys st fs bd t) := by
  by_cases hp : ObjP P (aC1 fs) ys st fs bd t
  ·exact ⟨hp, by rw [← h7.out hp]; exact hus⟩
  ·exfalso
   have h1 := i4.out hp
   exact H0.out (by rw [← hus, h1]; rfl)
 have i5 : (u.toList == s.toList) = true := (aD3 _ _).2 hus;have d1 : w8.cell? ⟨b, 1, none⟩ = some (.string P) := (X8.at 0).trans rfl;have d2 : w8.cell? ⟨b, 2, none⟩ = some (.slice oN (aC1 fs).length cN) := (X8.at 1).trans rfl;have d3 : w8.cell? ⟨b, 3, none⟩ = some (.slice oV k cV) := (X8.at 2).trans rfl;have d4 : w8.cell? ⟨b, 4, none⟩ = some (.int .i64 st) := (X8.at 3).trans rfl;have d5 : w8.cell? ⟨b, 5, none⟩ = some (.slice oF fs.length cF) := (X8.at 4).trans rfl;have d6 : w8.cell? ⟨b, 6, none⟩ = some (.string bd) := (X8.at 5).trans rfl;have d7 : w8.cell? ⟨b, 7, none⟩ = some (.int .i64 t) := (X8.at 6).trans rfl;obtain ⟨c0, c1, c2, c3, c4, c5, c6⟩ := c7c a0;have f0 := aA2 a0 0;have f1 := aA2 a0 1;have f2 := aA2 a0 2;have f3 := aA2 a0 3;have f4 := aA2 a0 4;have f5 := aA2 a0 5;have f6 := aA2 a0 6;obtain ⟨WE, a3⟩ := exq ((((((((w8.setCell ⟨R, 0, none⟩ (.string P)).setCell ⟨R, 1, none⟩ (.slice oN (aC1 fs).length cN)).setCell ⟨R, 2, none⟩ (.slice oV k cV)).setCell ⟨R, 3, none⟩ (.int .i64 st)).setCell ⟨R, 4, none⟩ (.slice oF fs.length cF)).setCell ⟨R, 5, none⟩ (.string bd)).setCell ⟨R, 6, none⟩ (.int .i64 t)));have b7 := hid a3.symm;have b8 : Hid (Bw w WE) := by show Below _ _ _; rw [a3]; exact (bsc (bsc (bsc (bsc (bsc (bsc (bsc b0 a2.out 0) a2.out 1) a2.out 2) a2.out 3) a2.out 4) a2.out 5) a2.out 6)
 have a6 : WE.heap[R]? = some (.cells #[.string P, .slice oN (aC1 fs).length cN, .slice oV k cV, .int .i64 st, .slice oF fs.length cF, .string bd, .int .i64 t] 36) := by rw [a3]; have h := (aA3 _ R 6 _ _ _ (.int .i64 t) (aA3 _ R 5 _ _ _ (.string bd) (aA3 _ R 4 _ _ _ (.slice oF fs.length cF) (aA3 _ R 3 _ _ _ (.int .i64 st) (aA3 _ R 2 _ _ _ (.slice oV k cV) (aA3 _ R 1 _ _ _ (.slice oN (aC1 fs).length cN) (aA3 _ R 0 _ _ _ (.string P) a0))))))); simpa using h
 have i7 : Hid (WE.ownsRow w.heap.size 232 2 (.slice oF fs.length cF) fs.length (aE5 fs)) := by
  show World.ownsRow _ _ _ _ _ _ _
  rw [a3]
  refine aA9 F8 (fun g hg => ?_)
  have a1 := aE8 F8 a0 (by decide) g hg
  rw [heap_setCell_other _ _ g _ a1, heap_setCell_other _ _ g _ a1, heap_setCell_other _ _ g _ a1, heap_setCell_other _ _ g _ a1, heap_setCell_other _ _ g _ a1, heap_setCell_other _ _ g _ a1, heap_setCell_other _ _ g _ a1]
 have e3 : Hid (WE.ownsRow w.heap.size 9 1 (.slice oN (aC1 fs).length cN) (aC1 fs).length ((aC1 fs).map Value.string)) := by
  show World.ownsRow _ _ _ _ _ _ _
  rw [a3]
  refine aA9 N8 (fun g hg => ?_)
  have a1 := aE8 N8 a0 (by decide) g hg
  rw [heap_setCell_other _ _ g _ a1, heap_setCell_other _ _ g _ a1, heap_setCell_other _ _ g _ a1, heap_setCell_other _ _ g _ a1, heap_setCell_other _ _ g _ a1, heap_setCell_other _ _ g _ a1, heap_setCell_other _ _ g _ a1]
 have i8 : Hid (WE.ownsRow w.heap.size 9 1 (.slice oV k cV) k (ys.map Value.string)) := by
  show World.ownsRow _ _ _ _ _ _ _
  rw [a3]
  refine aA9 V8 (fun g hg => ?_)
  have a1 := aE8 V8 a0 (by decide) g hg
  rw [heap_setCell_other _ _ g _ a1, heap_setCell_other _ _ g _ a1, heap_setCell_other _ _ g _ a1, heap_setCell_other _ _ g _ a1, heap_setCell_other _ _ g _ a1, heap_setCell_other _ _ g _ a1, heap_setCell_other _ _ g _ a1]
 obtain ⟨k0, k1, k2, k3, k4, k5, k6⟩ := c7c a6;clear a3 a6 a0 b0;clear hus F8 N8 V8 X8;go_wp2_with fail
 simp only [b7.out]
 exact bodyPost_ret (v := .tuple #[.agg #[.string P, .slice oN (aC1 fs).length cN, .slice oV k cV, .int .i64 st, .slice oF fs.length cF, .string bd, .int .i64 t], .bool true]) (by simp [results, results170, go_sem, k0, k1, k2, k3, k4, k5, k6]) rfl ⟨b8.out, .inl ⟨P, ys, st, fs, bd, t, _, _, _, rfl, i6.out, ⟨e3.out, by rw [d9.out.1]; exact i8.out, i7.out, i2.out⟩⟩⟩
theorem bS6 (s : Tx) (w : World) (hs : s.size ≤ 3000000) :
  Calls prog 109 #[.string s] w fun e w' => cX6 s w e w' := by
 obtain ⟨i0, hi, p5, p6, p7⟩ := info_parts bU4;obtain ⟨R, hR⟩ := exq (w.heap.size);have a4 : Hid (w.heap.size ≤ R) := by show _ ≤ _; omega
 obtain ⟨W1, l6⟩ := exq (w.alloc (.cells #[.string ⟨#[]⟩, .slice none 0 0, .slice none 0 0, .int .i64 0, .slice none 0 0, .string ⟨#[]⟩, .int .i64 0] 36));have H1 : Hid (Bw w W1) := by show Below _ _ _; rw [l6]; exact (Below.refl _ _).alloc (Nat.le_refl _) _
 have l7 : Hid (W1.heap[R]? = some (.cells #[.string ⟨#[]⟩, .slice none 0 0, .slice none 0 0, .int .i64 0, .slice none 0 0, .string ⟨#[]⟩, .int .i64 0] 36)) := by
  show _ = _
  rw [l6, hR]
  exact heap_alloc_new _ _
 go_enter func109, ntmps109;go_upto_region 1 with fail
 rw [← l6, ← hR];clear l6 hR;go_wp2_with fail
 refine (aX8 s 0 _ (by omega) (Nat.zero_le _)).mono ?_;rintro e w2 ⟨rfl, ⟨k0, hl, rfl⟩ | ⟨l8, rfl⟩⟩
 ·obtain ⟨g9, g4⟩ := exq (s.extract 0 k0);have r4 : k0 < s.size := hl.1
  have l9 : g9.size ≤ 3000000 := by
   have h1 : (bs g9).length ≤ (bs s).length := by
    rw [g4, aE2, List.drop_zero, List.length_take]
    exact Nat.min_le_right _ _
   rw [aC4, aC4] at h1
   omega
  have o3 : Hid (∀ (p' : Tx) (ys' : Ts) (st' : Int) (fs' : Fs) (b' : Tx) (t' : Int), aG2 s p' ys' st' fs' b' t' → bs g9 = aX2 p' t' ys'.length ∧ k0 + 1 = (aK1 p' t' ys'.length).size) := fun p' ys' st' fs' b' t' h => by
   obtain ⟨e1, e2, e3, e4⟩ := bF4 h
   obtain ⟨e5, e6⟩ := cC9 (f := 0) e1 rfl e2 hl
   rw [← g4] at e6
   exact ⟨e6, by simp at e5; omega⟩
  rw [← g4];clear hl g4;go_wp2_with fail
  refine (aL3 g9 _ (by omega)).mono ?_;rintro e w3 ⟨vW, xs, rfl, g7, o4, bw, hwd⟩;obtain ⟨oW, cW, rfl⟩ := aA0 g7;have i5 : Hid (Bw w w3) := H1.out.trans (bw.mono H1.out.size);have i7 := hblk l7 bw;have j5 : Hid (w3.ownsRow w.heap.size 9 1 (.slice oW xs.length cW) xs.length (xs.map Value.string)) := aF5 g7 H1.out.size
  have m0 : Hid (∀ (p' : Tx) (ys' : Ts) (st' : Int) (fs' : Fs) (b' : Tx) (t' : Int), aG2 s p' ys' st' fs' b' t' → xs.map bs = [objL, bs p', numL t'.toNat, numL ys'.length]) := fun p' ys' st' fs' b' t' h => by
   rw [← hwd, (o3.out _ _ _ _ _ _ h).1]
   exact (bF4 h).2.2.1
  have j6 : Hid (∀ x ∈ xs, x.size ≤ maxLen) := fun x hx => by
   have h1 : bs x ∈ aG6 [] [] (bs g9) := by rw [hwd]; exact List.mem_map.2 ⟨x, hx, rfl⟩
   rcases aV5 _ _ _ _ h1 with h2 | h2
   ·simp at h2
   ·rw [aC4, aC4] at h2
    simp at h2
    unfold maxLen
    omega
  clear g7 bw hwd H1 l7;by_cases h4 : xs.length = 4
  rotate_left
  ·have p8 : ((xs.length : Int) != 4) = true := by rw [bne_iff_ne]; omega
   have p9 : ¬ ((k0 : Int) + 1 < 0) := by omega
   have a0 := i7.out;have b1 := i5.out
   have g8 : Hid (∀ p ys st fs b t, ¬ aG2 s p ys st fs b t) := fun p ys st fs b t h => h4 (by
    have e := congrArg List.length (m0.out _ _ _ _ _ _ h)
    simpa using e)
   obtain ⟨c0, c1, c2, c3, c4, c5, c6⟩ := c7c a0;have f0 := aA2 a0 0;have f1 := aA2 a0 1;have f2 := aA2 a0 2;have f3 := aA2 a0 3;have f4 := aA2 a0 4;have f5 := aA2 a0 5;have f6 := aA2 a0 6;obtain ⟨WE, a6⟩ := exq ((((((((w3.setCell ⟨R, 0, none⟩ (.string ⟨#[]⟩)).setCell ⟨R, 1, none⟩ (.slice none 0 0)).setCell ⟨R, 2, none⟩ (.slice none 0 0)).setCell ⟨R, 3, none⟩ (.int .i64 0)).setCell ⟨R, 4, none⟩ (.slice none 0 0)).setCell ⟨R, 5, none⟩ (.string ⟨#[]⟩)).setCell ⟨R, 6, none⟩ (.int .i64 0)));have b7 := hid a6.symm;have b8 : Hid (Bw w WE) := by show Below _ _ _; rw [a6]; exact (bsc (bsc (bsc (bsc (bsc (bsc (bsc b1 a4.out 0) a4.out 1) a4.out 2) a4.out 3) a4.out 4) a4.out 5) a4.out 6)
   have b0 : WE.heap[R]? = some (.cells #[.string ⟨#[]⟩, .slice none 0 0, .slice none 0 0, .int .i64 0, .slice none 0 0, .string ⟨#[]⟩, .int .i64 0] 36) := by rw [a6]; have h := (aA3 _ R 6 _ _ _ (.int .i64 0) (aA3 _ R 5 _ _ _ (.string ⟨#[]⟩) (aA3 _ R 4 _ _ _ (.slice none 0 0) (aA3 _ R 3 _ _ _ (.int .i64 0) (aA3 _ R 2 _ _ _ (.slice none 0 0) (aA3 _ R 1 _ _ _ (.slice none 0 0) (aA3 _ R 0 _ _ _ (.string ⟨#[]⟩) a0))))))); simpa using h
   obtain ⟨k0, k1, k2, k3, k4, k5, k6⟩ := c7c b0;clear a6 b0 a0 b1;clear h4 j5 i7 i5 m0 j6;go_wp2_with fail
   simp only [b7.out]
   exact bodyPost_ret (v := .tuple #[.agg #[.string ⟨#[]⟩, .slice none 0 0, .slice none 0 0, .int .i64 0, .slice none 0 0, .string ⟨#[]⟩, .int .i64 0], .bool false]) (by simp [results, results109, go_sem, k0, k1, k2, k3, k4, k5, k6]) rfl ⟨b8.out, .inr ⟨rfl, g8.out⟩⟩
  obtain ⟨x0, x1, x2, x3, rfl⟩ : ∃ x0 x1 x2 x3, xs = [x0, x1, x2, x3] := by
   match xs, h4 with
   | [a, b, c, d], _ => exact ⟨a, b, c, d, rfl⟩
  have o5 : Hid (∀ (p' : Tx) (ys' : Ts) (st' : Int) (fs' : Fs) (b' : Tx) (t' : Int), aG2 s p' ys' st' fs' b' t' → x1 = p' ∧ x2 = aB7 t'.toNat ∧ x3 = aB7 ys'.length) := fun p' ys' st' fs' b' t' h => by
   have e := m0.out _ _ _ _ _ _ h
   simp only [List.map_cons, List.map_nil, List.cons.injEq] at e
   exact ⟨aE3 e.2.1, bG1 e.2.2.1, bG1 e.2.2.2.1⟩
  have z1 : x1.size ≤ maxLen := j6.out _ (by simp);have z2 : x2.size ≤ maxLen := j6.out _ (by simp);have z3 : x3.size ≤ maxLen := j6.out _ (by simp);have o6 : Hid (∀ W, Below w3.heap.size w3 W → W.ownsRow w.heap.size 9 1 (.slice oW 4 cW) 4 ([x0, x1, x2, x3].map Value.string)) := fun W h => aA8 j5.out h (fun g hg => aB0 j5.out hg)
  obtain ⟨gW, q0, _⟩ := (aC2 j5.out).2 0 (by simp);subst q0
  have m1 : Hid (∀ W, Below w3.heap.size w3 W → W.cell? ⟨gW, 1, none⟩ = some (.string x1) ∧ W.cell? ⟨gW, 2, none⟩ = some (.string x2) ∧ W.cell? ⟨gW, 3, none⟩ = some (.string x3)) := fun W h => by
   have ht := aC2 (o6.out W h)
   refine ⟨?_, ?_, ?_⟩
   ·obtain ⟨g, e, _, hc⟩ := ht.2 1 (by omega)
    cases e; exact hc
   ·obtain ⟨g, e, _, hc⟩ := ht.2 2 (by omega)
    cases e; exact hc
   ·obtain ⟨g, e, _, hc⟩ := ht.2 3 (by omega)
    cases e; exact hc
  have o7 : ([x0, x1, x2, x3] : Ts).length = 4 := rfl;rw [o7];obtain ⟨c1, c2, c3⟩ := m1.out w3 (Below.refl _ _);clear m0 j6 o7 h4 j5 o6 o4;have p9 : ¬ ((k0 : Int) + 1 < 0) := by omega
  go_wp2_with fail
  refine (aI3 x2 _ z2).mono ?_;rintro e w4 ⟨bo, t, rfl, j3, j4, m2, bw⟩;have o9 : Hid (aO1 x2 → t = valL x2.data.toList) := fun h => j4 (j3.2 h)
  have m3 : Hid (Below w3.heap.size w3 w4) := bw;clear j3 j4 m2 bw c1 c2 c3 z2;obtain ⟨c1, c2, c3⟩ := m1.out w4 m3.out;go_wp2_with fail
  refine (aI3 x3 _ z3).mono ?_;rintro e w5 ⟨q1, n, rfl, j3, j4, m2, bw⟩
  have r5 : 0 ≤ n ∧ n ≤ 1000000 := by
   cases q1 with
   | false => rw [m2 rfl]; decide
   | true =>
    have h1 := (j3.1 rfl).2.2.2
    have h2 := j4 rfl
    omega
  have p0 : Hid (aO1 x3 → n = valL x3.data.toList) := fun h => j4 (j3.2 h)
  have m4 : Hid (Below w3.heap.size w3 w5) := m3.out.trans (bw.mono m3.out.size);clear j3 j4 m2 bw c1 c2 c3 z3 m3;obtain ⟨c1, c2, c3⟩ := m1.out w5 m4.out;have m5 : Hid (Bw w w5) := i5.out.trans (m4.out.mono i5.out.size);have m9 : Hid (w5.heap[R]? = some (.cells #[.string ⟨#[]⟩, .slice none 0 0, .slice none 0 0, .int .i64 0, .slice none 0 0, .string ⟨#[]⟩, .int .i64 0] 36)) := aA6 i7.out m4.out
  have m6 : Hid (∀ (p' : Tx) (ys' : Ts) (st' : Int) (fs' : Fs) (b' : Tx) (t' : Int), aG2 s p' ys' st' fs' b' t' → x1 = p' ∧ t = t' ∧ n = (ys'.length : Int)) := fun p' ys' st' fs' b' t' h => by
   obtain ⟨e1, e2, e3⟩ := o5.out _ _ _ _ _ _ h
   have hT := h.1.2.2.1
   have h4 := (bB2 h).2.2.2.2.2
   have e4 := aP7 (by omega) e2 o9.out
   have e5 := aP7 (by omega) e3 p0.out
   exact ⟨e1, by omega, e5⟩
  obtain ⟨q, hq⟩ := exq (w5.heap.size);have h6 : Hid (w.heap.size ≤ q) := by show _ ≤ _; rw [hq]; exact m5.out.size
  obtain ⟨W6, m7⟩ := exq (w5.alloc (.cells #[.string x1, .slice none 0 0, .slice none 0 0, .int .i64 0, .slice none 0 0, .string ⟨#[]⟩, .int .i64 t] 36));have bA : Below w5.heap.size w5 W6 := by rw [m7]; exact (Below.refl _ _).alloc (Nat.le_refl _) _
  have q2 : Hid (Bw w W6) := m5.out.trans (bA.mono m5.out.size);have q3 := hblk m9 bA;have h7 : Hid (R ≠ q) := fun e => by have h1 := (blt m9.out); omega
  have q4 : Hid (W6.heap[q]? = some (.cells #[.string x1, .slice none 0 0, .slice none 0 0, .int .i64 0, .slice none 0 0, .string ⟨#[]⟩, .int .i64 t] 36)) := by
   show _ = _
   rw [m7, hq]
   exact heap_alloc_new _ _
  go_upto_region 8 with fail
  rw [← m7, ← hq];clear m7 hq bA i5 i7 m9 m5 m1 m4 c1 c2 c3 o9 p0 o5;go_wp2_with fail
  go_loopw [5, 12] (fun a i wr => ∃ (j : Nat) (ys : Ts) (v : Value) (x : Int), j ≤ 4 ∧ (j : Int) ≤ n ∧ i = .int .i64 (j : Int) ∧ a = .int .i64 x ∧ Hid (ys.length = j) ∧ (x = -1 ∨ ∃ f : Nat, x = (f : Int) ∧ f ≤ s.size) ∧ Hid (Bw w wr ∧ wr.heap[R]? = some (.cells #[.string ⟨#[]⟩, .slice none 0 0, .slice none 0 0, .int .i64 0, .slice none 0 0, .string ⟨#[]⟩, .int .i64 0] 36) ∧ wr.heap[q]? = some (.cells #[.string x1, .slice none 0 0, v, .int .i64 0, .slice none 0 0, .string ⟨#[]⟩, .int .i64 t] 36)) ∧ Hid (wr.ownsRow w.heap.size 9 1 v j (ys.map Value.string)) ∧ Hid (∀ y ∈ ys, y.size ≤ 3000000) ∧ Hid (∀ (p' : Tx) (ys' : Ts) (st' : Int) (fs' : Fs) (b' : Tx) (t' : Int), aG2 s p' ys' st' fs' b' t' → ys = ys'.take j ∧ x = ((aG0 (aK1 p' t' ys'.length) ys' j).size : Int))) (fun _ i _ => 4 - (intOf i).toNat)
  case atStart => exact ⟨0, [], _, _, by omega, by omega, rfl, rfl, rfl, .inr ⟨k0 + 1, rfl, by omega⟩, ⟨q2.out, q3.out, q4.out⟩, World.ownsRow_nil _ _ _ _, (fun y hy => by simp at hy), fun p' ys' st' fs' b' t' h => ⟨rfl, by have e := (o3.out _ _ _ _ _ _ h).2; show ((k0 + 1 : Nat) : Int) = ((aK1 p' t' ys'.length).size : Int); omega⟩⟩
  case round =>
   obtain ⟨j, ys, v, x, hj, r6, rfl, rfl, j7, hx, HW, HV, m8, HI⟩ := hrel;by_cases hgo : ((j : Int) < n ∧ (j : Int) < 4) ∧ 0 ≤ x
   ·obtain ⟨⟨g1, g2⟩, g3⟩ := hgo
    obtain ⟨f, rfl, hfz⟩ : ∃ f : Nat, x = (f : Int) ∧ f ≤ s.size := by
     rcases hx with hx | hx
     ·omega
     ·exact hx
    clear hx;go_wp2_with fail
    refine (aX8 s f _ (by omega) hfz).mono ?_;rintro e w7 ⟨rfl, hlo⟩
    obtain ⟨y, x', rfl, p1, p2, p3⟩ : ∃ (y : Tx) (x' : Int), e = .returned (.tuple #[.string y, .int .i64 x']) ∧ (x' = -1 ∨ ∃ f : Nat, x' = (f : Int) ∧ f ≤ s.size) ∧ y.size ≤ 3000000 ∧ (∀ (p' : Tx) (ys' : Ts) (st' : Int) (fs' : Fs) (b' : Tx) (t' : Int), aG2 s p' ys' st' fs' b' t' → ys ++ [y] = ys'.take (j + 1) ∧ x' = ((aG0 (aK1 p' t' ys'.length) ys' (j + 1)).size : Int)) := by
     rcases hlo with ⟨i, hl, rfl⟩ | ⟨l8, rfl⟩
     ·refine ⟨_, _, rfl, .inr ⟨i + 1, rfl, hl.1⟩, ?_, fun p' ys' st' fs' b' t' h => ?_⟩
      ·have h1 : (bs (s.extract f i)).length ≤ (bs s).length := by
        rw [aE2, List.length_drop, List.length_take]
        omega
       rw [aC4, aC4] at h1
       omega
      ·obtain ⟨e1, e2⟩ := HI.out _ _ _ _ _ _ h
       have q5 := (m6.out _ _ _ _ _ _ h).2.2
       have j8 : j < ys'.length := by omega
       obtain ⟨n0, e3⟩ := cS3 h j j8
       obtain ⟨e4, e5⟩ := cC9 e3 (by rw [aC4]; omega) (dL8 (h.1.2.2.2.2.2.2 _ (aG7 ys' j j8))) hl
       refine ⟨by rw [aJ4 ys' j j8, e1, aE3 e5], ?_⟩
       rw [aG0, ByteArray.size_append, ByteArray.size_append, e4, aC4]
       have e6 : (⟨#[10]⟩ : Tx).size = 1 := rfl
       omega
     ·refine ⟨_, _, rfl, .inl rfl, by decide, fun p' ys' st' fs' b' t' h => ?_⟩
      exfalso
      obtain ⟨e1, e2⟩ := HI.out _ _ _ _ _ _ h
      have q5 := (m6.out _ _ _ _ _ _ h).2.2
      have j8 : j < ys'.length := by omega
      obtain ⟨n0, e3⟩ := cS3 h j j8
      exact bF3 e3 (by rw [aC4]; omega) l8
    have q6 := hid p3;have q7 : Hid (x' = -1 ∨ ∃ f : Nat, x' = (f : Int) ∧ f ≤ s.size) := p1
    have n1 : Hid (∀ z ∈ ys ++ [y], z.size ≤ 3000000) := fun z hz => by
     rcases List.mem_append.1 hz with hz | hz
     ·exact m8.out z hz
     ·rw [List.mem_singleton.1 hz]; exact p2
    clear hlo p3 p1 p2 HI m8;have cq : w7.cell? ⟨q, 2, none⟩ = some v := (aA1 HW.out.2.2 2).trans rfl;have hown := HV.out;have q8 : j + 1 ≤ maxLen := by unfold maxLen; omega
    have q9 : (j + 1) * 16 ≤ 140737488355328 := by omega
    have n2 : ∀ o, w.heap.size ≤ (w7.alloc o).heap.size := fun o => by have := HW.out.1.size; simp; omega
    have r0 : ∀ o, (w7.alloc o).cell? ⟨q, 2, none⟩ = some v := fun o => by
     have h := aA6 HW.out.2.2 ((Below.refl _ _).alloc (Nat.le_refl _) o)
     exact (aA1 h 2).trans rfl
    obtain ⟨ov, cv, rfl⟩ := aA0 hown;go_wp2_with (at_builtin; refine wpList_append_own _ rfl _ _ 24 rfl w.heap.size 9 i0 (.string ⟨#[]⟩) 1 16 underlying24 hi p5 p6 p7 rfl (by decide) _ _ _ rfl (hown.alloc _) ⟨w7.heap.size, 0, none⟩ 1 1 [.string y] rfl rfl (cell_one_new _ _ _) (aW7 _) q8 q9 (n2 _) ?_)
    intro v1 w8 g5 g6 _;have p4 : Bw w w8 := (HW.out.1.alloc HW.out.1.size _).grown g6 (n2 _) (fun g hg => aC8 hown hg)
    have i6 : w8.heap[R]? = some (.cells #[.string ⟨#[]⟩, .slice none 0 0, .slice none 0 0, .int .i64 0, .slice none 0 0, .string ⟨#[]⟩, .int .i64 0] 36) := (g6.block R (by have := (Array.getElem?_eq_some_iff.1 HW.out.2.1).1; simp; omega) (fun e => aE8 hown HW.out.2.1 (by decide) R e.symm rfl)).trans (aA6 HW.out.2.1 ((Below.refl _ _).alloc (Nat.le_refl _) _))
    have a9 : w8.heap[q]? = some (.cells #[.string x1, .slice none 0 0, (.slice ov j cv), .int .i64 0, .slice none 0 0, .string ⟨#[]⟩, .int .i64 t] 36) := (g6.block q (by have := (Array.getElem?_eq_some_iff.1 HW.out.2.2).1; simp; omega) (fun e => aE8 hown HW.out.2.2 (by decide) q e.symm rfl)).trans (aA6 HW.out.2.2 ((Below.refl _ _).alloc (Nat.le_refl _) _))
    obtain ⟨o8, c8, rfl⟩ := aA0 g5;have r7 := (c7c a9).2.2.1;have r8 := aA2 a9 2
    have r1 : Hid (Bw w (w8.setCell ⟨q, 2, none⟩ (.slice o8 (j + 1) c8)) ∧ (w8.setCell ⟨q, 2, none⟩ (.slice o8 (j + 1) c8)).heap[R]? = some (.cells #[.string ⟨#[]⟩, .slice none 0 0, .slice none 0 0, .int .i64 0, .slice none 0 0, .string ⟨#[]⟩, .int .i64 0] 36) ∧ (w8.setCell ⟨q, 2, none⟩ (.slice o8 (j + 1) c8)).heap[q]? = some (.cells #[.string x1, .slice none 0 0, (.slice o8 (j + 1) c8), .int .i64 0, .slice none 0 0, .string ⟨#[]⟩, .int .i64 t] 36)) :=
     ⟨bsc p4 h6.out 2, by rw [heap_setCell_other _ _ _ _ h7.out]; exact i6, by have h := aA3 _ _ 2 _ _ _ (.slice o8 (j + 1) c8) a9; simpa using h⟩
    have h0 : Hid ((w8.setCell ⟨q, 2, none⟩ (.slice o8 (j + 1) c8)).ownsRow w.heap.size 9 1 (.slice o8 (j + 1) c8) (j + 1) ((ys ++ [y]).map Value.string)) := by
     show World.ownsRow _ _ _ _ _ _ _
     rw [List.map_append]
     exact aA9 g5 (fun g hg => heap_setCell_other _ _ g _ (aE8 g5 a9 (by decide) g hg))
    have r2 : Hid ((ys ++ [y]).length = j + 1) := by show _ = _; rw [List.length_append, j7.out]; rfl
    clear p4 i6 a9 g5 g6 hown HW HV cq r0 n2;go_wp2_with fail
    go_roundw
    case rel => exact ⟨j + 1, ys ++ [y], _, x', by omega, by omega, by go_num, rfl, r2, q7.out, r1, h0, n1, q6⟩
    case measure => simp [intOf]; omega
   by_cases a1 : (j : Int) < n
   rotate_left
   ·clear hgo
    have b2 : ∀ (p' : Tx) (ys' : Ts) (st' : Int) (fs' : Fs) (b' : Tx) (t' : Int), aG2 s p' ys' st' fs' b' t' → x1 = p' ∧ ys = ys' ∧ x = ((aG0 (aK1 p' t' ys'.length) ys' ys'.length).size : Int) ∧ t = t' := fun p' ys' st' fs' b' t' h => by
     obtain ⟨e1, e2, e3⟩ := m6.out _ _ _ _ _ _ h
     obtain ⟨e4, e5⟩ := HI.out _ _ _ _ _ _ h
     have h4 := (bB2 h).2.2.2.2.2
     have ej : j = ys'.length := by omega
     rw [ej] at e4 e5
     rw [List.take_length] at e4
     exact ⟨e1, e4, e5, e2⟩
    by_cases hxn : x < 0
    ·have a0 := HW.out.2.1;have b1 := HW.out.1
     have g8 : Hid (∀ p ys st fs b t, ¬ aG2 s p ys st fs b t) := fun p ys st fs b t h => by
      obtain ⟨_, _, e, _⟩ := b2 _ _ _ _ _ _ h
      omega
     obtain ⟨c0, c1, c2, c3, c4, c5, c6⟩ := c7c a0;have f0 := aA2 a0 0;have f1 := aA2 a0 1;have f2 := aA2 a0 2;have f3 := aA2 a0 3;have f4 := aA2 a0 4;have f5 := aA2 a0 5;have f6 := aA2 a0 6;obtain ⟨WE, a6⟩ := exq ((((((((wr.setCell ⟨R, 0, none⟩ (.string ⟨#[]⟩)).setCell ⟨R, 1, none⟩ (.slice none 0 0)).setCell ⟨R, 2, none⟩ (.slice none 0 0)).setCell ⟨R, 3, none⟩ (.int .i64 0)).setCell ⟨R, 4, none⟩ (.slice none 0 0)).setCell ⟨R, 5, none⟩ (.string ⟨#[]⟩)).setCell ⟨R, 6, none⟩ (.int .i64 0)));have b7 := hid a6.symm;have b8 : Hid (Bw w WE) := by show Below _ _ _; rw [a6]; exact (bsc (bsc (bsc (bsc (bsc (bsc (bsc b1 a4.out 0) a4.out 1) a4.out 2) a4.out 3) a4.out 4) a4.out 5) a4.out 6)
     have b0 : WE.heap[R]? = some (.cells #[.string ⟨#[]⟩, .slice none 0 0, .slice none 0 0, .int .i64 0, .slice none 0 0, .string ⟨#[]⟩, .int .i64 0] 36) := by rw [a6]; have h := (aA3 _ R 6 _ _ _ (.int .i64 0) (aA3 _ R 5 _ _ _ (.string ⟨#[]⟩) (aA3 _ R 4 _ _ _ (.slice none 0 0) (aA3 _ R 3 _ _ _ (.int .i64 0) (aA3 _ R 2 _ _ _ (.slice none 0 0) (aA3 _ R 1 _ _ _ (.slice none 0 0) (aA3 _ R 0 _ _ _ (.string ⟨#[]⟩) a0))))))); simpa using h
     obtain ⟨k0, k1, k2, k3, k4, k5, k6⟩ := c7c b0;clear a6 b0 a0 b1;clear b2 HW HV HI;go_wp2_with fail
     simp only [b7.out]
     exact bodyPost_ret (v := .tuple #[.agg #[.string ⟨#[]⟩, .slice none 0 0, .slice none 0 0, .int .i64 0, .slice none 0 0, .string ⟨#[]⟩, .int .i64 0], .bool false]) (by simp [results, results109, go_sem, k0, k1, k2, k3, k4, k5, k6]) rfl ⟨b8.out, .inr ⟨rfl, g8.out⟩⟩
    obtain ⟨f, rfl, hfz⟩ : ∃ f : Nat, x = (f : Int) ∧ f ≤ s.size := by
     rcases hx with hx | hx
     ·omega
     ·exact hx
    have c9 : Hid (∀ (p' : Tx) (ys' : Ts) (st' : Int) (fs' : Fs) (b' : Tx) (t' : Int), aG2 s p' ys' st' fs' b' t' → x1 = p' ∧ ys = ys' ∧ t = t' ∧ s.extract f s.size = aL7 st' fs' b') := fun p' ys' st' fs' b' t' h => by
     obtain ⟨e1, e2, e3, e4⟩ := b2 _ _ _ _ _ _ h
     refine ⟨e1, e2, e4, ?_⟩
     rw [show f = (aG0 (aK1 p' t' ys'.length) ys' ys'.length).size by omega]
     exact cS4 h
    obtain ⟨lf, h8⟩ := exq (s.extract f s.size)
    have l9 : lf.size ≤ 3000000 := by
     have h1 : (bs lf).length ≤ (bs s).length := by
      rw [h8, aE2, List.length_drop, List.length_take]
      omega
     rw [aC4, aC4] at h1
     omega
    have j9 := hid h8.symm;rw [← h8] at c9;obtain ⟨oV, cV, rfl⟩ := aA0 HV.out;have n3 : (f : Int) ≤ (s.size : Int) := by omega
    clear hx b2 h8 HI;go_wp2_with fail
    rw [j9.out];refine (aY3 lf _ l9).mono ?_;intro e w8 hr;obtain ⟨st, fs, bd, vF, tb, rfl, k7, k8, d7, bw⟩ := cT4 hr;have d8 := hid k7
    have n4 : Hid (∀ (p' : Tx) (ys' : Ts) (st' : Int) (fs' : Fs) (b' : Tx) (t' : Int), aG2 s p' ys' st' fs' b' t' → x1 = p' ∧ ys = ys' ∧ st = st' ∧ fs = fs' ∧ bd = b' ∧ t = t') := fun p' ys' st' fs' b' t' h => by
     obtain ⟨e1, e2, e3, e4⟩ := c9.out _ _ _ _ _ _ h
     obtain ⟨e5, e6, e7⟩ := k8 st' fs' b' ⟨h.1.1, e4.symm⟩
     exact ⟨e1, e2, e5, e6, e7, e3⟩
    obtain ⟨oF, cF, rfl⟩ := aA0 d7;have a9 := aA6 HW.out.2.2 bw;have c3 := (c7c a9).2.2.2.1;have c4 := (c7c a9).2.2.2.2.1;have c5 := (c7c a9).2.2.2.2.2.1;have f3 := aA2 a9 3;have f4 := aA2 a9 4;have f5 := aA2 a9 5;have i8 := aA8 HV.out bw (fun g hg => aB0 HV.out hg)
    have i9 : w8.ownsRow w.heap.size 232 2 (.slice oF fs.length cF) fs.length (aE5 fs) := aF5 d7 HW.out.1.size;have k9 := HW.out.1.trans (bw.mono HW.out.1.size);have i6 := aA6 HW.out.2.1 bw;obtain ⟨W9, d9⟩ := exq (((w8.setCell ⟨q, 3, none⟩ (.int .i64 st)).setCell ⟨q, 4, none⟩ (.slice oF fs.length cF)).setCell ⟨q, 5, none⟩ (.string bd))
    have h9 : Hid (Bw w W9) := by
     show Below _ _ _
     rw [d9]
     exact bsc (bsc (bsc k9 h6.out 3) h6.out 4) h6.out 5
    have l0 : Hid (W9.heap[R]? = some (.cells #[.string ⟨#[]⟩, .slice none 0 0, .slice none 0 0, .int .i64 0, .slice none 0 0, .string ⟨#[]⟩, .int .i64 0] 36)) := by
     show _ = _
     rw [d9, heap_setCell_other _ _ _ _ h7.out, heap_setCell_other _ _ _ _ h7.out, heap_setCell_other _ _ _ _ h7.out]
     exact i6
    have j0 : Hid (W9.heap[q]? = some (.cells #[.string x1, .slice none 0 0, .slice oV j cV, .int .i64 st, .slice oF fs.length cF, .string bd, .int .i64 t] 36)) := by
     show _ = _
     rw [d9]
     have h := aA3 _ q 5 _ _ _ (.string bd) (aA3 _ q 4 _ _ _ (.slice oF fs.length cF) (aA3 _ q 3 _ _ _ (.int .i64 st) a9))
     simpa using h
    have h0 : Hid (W9.ownsRow w.heap.size 9 1 (.slice oV j cV) j (ys.map Value.string)) := by
     show World.ownsRow _ _ _ _ _ _ _
     rw [d9]
     refine aA9 i8 (fun g hg => ?_)
     have a5 := aE8 i8 a9 (by decide) g hg
     rw [heap_setCell_other _ _ g _ a5, heap_setCell_other _ _ g _ a5, heap_setCell_other _ _ g _ a5]
    have i1 : Hid (W9.ownsRow w.heap.size 232 2 (.slice oF fs.length cF) fs.length (aE5 fs)) := by
     show World.ownsRow _ _ _ _ _ _ _
     rw [d9]
     refine aA9 i9 (fun g hg => ?_)
     have a5 := aE8 i9 a9 (by decide) g hg
     rw [heap_setCell_other _ _ g _ a5, heap_setCell_other _ _ g _ a5, heap_setCell_other _ _ g _ a5]
    have h3 := hid d9.symm;have n5 := (c7c j0.out).2.2.2.2.1;clear hr k7 k8 d7 bw a9 i8 i9 k9 i6 d9 HW HV c9 j9;go_upto_region 17 with fail
    rw [h3.out];clear c3 c4 c5 f3 f4 f5 h3;go_wp2_with fail
    refine (aU7 _ fs.length w.heap.size fs _ (aB4.of_owns i1.out) (by have := (aM1 d8.out.1).1; omega) (aP8 d8.out.1 _)).mono ?_;rintro e l1 ⟨vN, rfl, b3, bw⟩;obtain ⟨oN, cN, rfl⟩ := aA0 b3;have a8 := aA6 j0.out bw;have c1 := (c7c a8).2.1;have f1 := aA2 a8 1;have e0 := aA8 h0.out bw (fun g hg => aB0 h0.out hg)
    have e8 := aA8 i1.out bw (fun g hg => aB0 i1.out hg)
    have e9 : l1.ownsRow w.heap.size 9 1 (.slice oN (aC1 fs).length cN) (aC1 fs).length ((aC1 fs).map Value.string) := aF5 b3 h9.out.size
    have j1 : Hid (∀ g, (Value.slice oN (aC1 fs).length cN).ownBlock = some g → (Value.slice oV j cV).ownBlock ≠ some g) := fun g hg e => by
     have h1 := aC8 b3 hg
     have h2 := aB0 h0.out e
     omega
    obtain ⟨f7, a7⟩ := exq (l1.setCell ⟨q, 1, none⟩ (.slice oN (aC1 fs).length cN))
    have f8 : Hid (Bw w f7) := by
     show Below _ _ _
     rw [a7]
     exact bsc (h9.out.trans (bw.mono h9.out.size)) h6.out 1
    have h5 : Hid (f7.heap[R]? = some (.cells #[.string ⟨#[]⟩, .slice none 0 0, .slice none 0 0, .int .i64 0, .slice none 0 0, .string ⟨#[]⟩, .int .i64 0] 36)) := by
     show _ = _
     rw [a7, heap_setCell_other _ _ _ _ h7.out]
     exact aA6 l0.out bw
    have f9 : Hid (f7.heap[q]? = some (.cells #[.string x1, .slice oN (aC1 fs).length cN, .slice oV j cV, .int .i64 st, .slice oF fs.length cF, .string bd, .int .i64 t] 36)) := by
     show _ = _
     rw [a7]
     have h := aA3 _ q 1 _ _ _ (.slice oN (aC1 fs).length cN) a8
     simpa using h
    have b4 : Hid (f7.ownsRow w.heap.size 9 1 (.slice oV j cV) j (ys.map Value.string)) := by
     show World.ownsRow _ _ _ _ _ _ _
     rw [a7]
     exact aA9 e0 (fun g hg => heap_setCell_other _ _ g _ (aE8 e0 a8 (by decide) g hg))
    have b5 : Hid (f7.ownsRow w.heap.size 232 2 (.slice oF fs.length cF) fs.length (aE5 fs)) := by
     show World.ownsRow _ _ _ _ _ _ _
     rw [a7]
     exact aA9 e8 (fun g hg => heap_setCell_other _ _ g _ (aE8 e8 a8 (by decide) g hg))
    have b6 : Hid (f7.ownsRow w.heap.size 9 1 (.slice oN (aC1 fs).length cN) (aC1 fs).length ((aC1 fs).map Value.string)) := by
     show World.ownsRow _ _ _ _ _ _ _
     rw [a7]
     exact aA9 e9 (fun g hg => heap_setCell_other _ _ g _ (aE8 e9 a8 (by decide) g hg))
    have b9 := hid a7.symm;clear b3 bw a8 e0 e8 e9 a7 h9 l0 j0 h0 i1 n5;go_upto_region 18 with fail
    rw [b9.out];clear c1 f1 b9;obtain ⟨d0, d1, d2, d3, d4, d5, d6⟩ := c7c f9.out;have j2 := bJ5 d8.out.1;have r3 := (aM1 d8.out.1).1;go_wp2_with fail
    have c7 := bA1 x1 oN (aC1 fs).length cN (aC1 fs) oV j cV ys st (.slice oF fs.length cF) fs.length w.heap.size fs bd t f7 (aC2 b6.out) (aC2 b4.out) (aB4.of_owns b5.out) j2.1 (by omega) (by omega) j2.2 (fun i hi => by have := m8.out _ (aG7 ys i (by rw [j7.out]; exact hi)); unfold maxLen; omega) (bE0 d8.out.1) z1 (by have := d8.out.2; unfold maxLen; omega) (aP8 d8.out.1 _)
    refine c7.mono ?_;clear c7;rintro e l2 ⟨u, rfl, l3, l4, bw⟩;have l5 := hid l3;have n6 := hid l4;have a0 := aA6 h5.out bw;have b1 := f8.out.trans (bw.mono f8.out.size);have g0 := aA6 f9.out bw;have i2 := aA8 b5.out bw (fun g hg => aB0 b5.out hg)
    have i3 := aA8 b6.out bw (fun g hg => aB0 b6.out hg)
    have i4 := aA8 b4.out bw (fun g hg => aB0 b4.out hg)
    clear l3 l4 bw d0 d1 d2 d3 d4 d5 d6 j2 h5 f8 f9 b5 b6 b4;by_cases hus : u = s
    rotate_left
    ·have g8 : Hid (∀ p ys st fs b t, ¬ aG2 s p ys st fs b t) := fun p' ys' st' fs' b' t' h => by
      obtain ⟨rfl, rfl, rfl, rfl, rfl, rfl⟩ := n4.out _ _ _ _ _ _ h
      exact hus ((l5.out h.1).trans h.2)
     have n7 := aB8 hus;obtain ⟨c0, c1, c2, c3, c4, c5, c6⟩ := c7c a0;have f0 := aA2 a0 0;have f1 := aA2 a0 1;have f2 := aA2 a0 2;have f3 := aA2 a0 3;have f4 := aA2 a0 4;have f5 := aA2 a0 5;have f6 := aA2 a0 6;obtain ⟨WE, a6⟩ := exq ((((((((l2.setCell ⟨R, 0, none⟩ (.string ⟨#[]⟩)).setCell ⟨R, 1, none⟩ (.slice none 0 0)).setCell ⟨R, 2, none⟩ (.slice none 0 0)).setCell ⟨R, 3, none⟩ (.int .i64 0)).setCell ⟨R, 4, none⟩ (.slice none 0 0)).setCell ⟨R, 5, none⟩ (.string ⟨#[]⟩)).setCell ⟨R, 6, none⟩ (.int .i64 0)));have b7 := hid a6.symm;have b8 : Hid (Bw w WE) := by show Below _ _ _; rw [a6]; exact (bsc (bsc (bsc (bsc (bsc (bsc (bsc b1 a4.out 0) a4.out 1) a4.out 2) a4.out 3) a4.out 4) a4.out 5) a4.out 6)
     have b0 : WE.heap[R]? = some (.cells #[.string ⟨#[]⟩, .slice none 0 0, .slice none 0 0, .int .i64 0, .slice none 0 0, .string ⟨#[]⟩, .int .i64 0] 36) := by rw [a6]; have h := (aA3 _ R 6 _ _ _ (.int .i64 0) (aA3 _ R 5 _ _ _ (.string ⟨#[]⟩) (aA3 _ R 4 _ _ _ (.slice none 0 0) (aA3 _ R 3 _ _ _ (.int .i64 0) (aA3 _ R 2 _ _ _ (.slice none 0 0) (aA3 _ R 1 _ _ _ (.slice none 0 0) (aA3 _ R 0 _ _ _ (.string ⟨#[]⟩) a0))))))); simpa using h
     obtain ⟨k0, k1, k2, k3, k4, k5, k6⟩ := c7c b0;clear a6 b0 a0 b1;clear hus i2 i3 i4 g0;go_wp2_with fail
     simp only [b7.out]
     exact bodyPost_ret (v := .tuple #[.agg #[.string ⟨#[]⟩, .slice none 0 0, .slice none 0 0, .int .i64 0, .slice none 0 0, .string ⟨#[]⟩, .int .i64 0], .bool false]) (by simp [results, results109, go_sem, k0, k1, k2, k3, k4, k5, k6]) rfl ⟨b8.out, .inr ⟨rfl, g8.out⟩⟩
    have n8 : Hid (aG2 s x1 ys st fs bd t) := by
     by_cases hp : ObjP x1 (aC1 fs) ys st fs bd t
     ·exact ⟨hp, by rw [← l5.out hp]; exact hus⟩
     ·exfalso
      have h1 := n6.out hp
      have h2 : s.size = 0 := by rw [← hus, h1]; rfl
      omega
    have n7 : (u.toList == s.toList) = true := (aD3 _ _).2 hus;obtain ⟨d0, d1, d2, d3, d4, d5, d6⟩ := c7c g0;obtain ⟨c0, c1, c2, c3, c4, c5, c6⟩ := c7c a0;have f0 := aA2 a0 0;have f1 := aA2 a0 1;have f2 := aA2 a0 2;have f3 := aA2 a0 3;have f4 := aA2 a0 4;have f5 := aA2 a0 5;have f6 := aA2 a0 6;obtain ⟨WE, a6⟩ := exq ((((((((l2.setCell ⟨R, 0, none⟩ (.string x1)).setCell ⟨R, 1, none⟩ (.slice oN (aC1 fs).length cN)).setCell ⟨R, 2, none⟩ (.slice oV j cV)).setCell ⟨R, 3, none⟩ (.int .i64 st)).setCell ⟨R, 4, none⟩ (.slice oF fs.length cF)).setCell ⟨R, 5, none⟩ (.string bd)).setCell ⟨R, 6, none⟩ (.int .i64 t)));have b7 := hid a6.symm;have b8 : Hid (Bw w WE) := by show Below _ _ _; rw [a6]; exact (bsc (bsc (bsc (bsc (bsc (bsc (bsc b1 a4.out 0) a4.out 1) a4.out 2) a4.out 3) a4.out 4) a4.out 5) a4.out 6)
    have b0 : WE.heap[R]? = some (.cells #[.string x1, .slice oN (aC1 fs).length cN, .slice oV j cV, .int .i64 st, .slice oF fs.length cF, .string bd, .int .i64 t] 36) := by rw [a6]; have h := (aA3 _ R 6 _ _ _ (.int .i64 t) (aA3 _ R 5 _ _ _ (.string bd) (aA3 _ R 4 _ _ _ (.slice oF fs.length cF) (aA3 _ R 3 _ _ _ (.int .i64 st) (aA3 _ R 2 _ _ _ (.slice oV j cV) (aA3 _ R 1 _ _ _ (.slice oN (aC1 fs).length cN) (aA3 _ R 0 _ _ _ (.string x1) a0))))))); simpa using h
    have n9 : Hid (WE.ownsRow w.heap.size 232 2 (.slice oF fs.length cF) fs.length (aE5 fs)) := by
     show World.ownsRow _ _ _ _ _ _ _
     rw [a6]
     refine aA9 i2 (fun g hg => ?_)
     have a5 := aE8 i2 a0 (by decide) g hg
     rw [heap_setCell_other _ _ g _ a5, heap_setCell_other _ _ g _ a5, heap_setCell_other _ _ g _ a5, heap_setCell_other _ _ g _ a5, heap_setCell_other _ _ g _ a5, heap_setCell_other _ _ g _ a5, heap_setCell_other _ _ g _ a5]
    have o0 : Hid (WE.ownsRow w.heap.size 9 1 (.slice oN (aC1 fs).length cN) (aC1 fs).length ((aC1 fs).map Value.string)) := by
     show World.ownsRow _ _ _ _ _ _ _
     rw [a6]
     refine aA9 i3 (fun g hg => ?_)
     have a5 := aE8 i3 a0 (by decide) g hg
     rw [heap_setCell_other _ _ g _ a5, heap_setCell_other _ _ g _ a5, heap_setCell_other _ _ g _ a5, heap_setCell_other _ _ g _ a5, heap_setCell_other _ _ g _ a5, heap_setCell_other _ _ g _ a5, heap_setCell_other _ _ g _ a5]
    have o1 : Hid (WE.ownsRow w.heap.size 9 1 (.slice oV j cV) j (ys.map Value.string)) := by
     show World.ownsRow _ _ _ _ _ _ _
     rw [a6]
     refine aA9 i4 (fun g hg => ?_)
     have a5 := aE8 i4 a0 (by decide) g hg
     rw [heap_setCell_other _ _ g _ a5, heap_setCell_other _ _ g _ a5, heap_setCell_other _ _ g _ a5, heap_setCell_other _ _ g _ a5, heap_setCell_other _ _ g _ a5, heap_setCell_other _ _ g _ a5, heap_setCell_other _ _ g _ a5]
    obtain ⟨k0, k1, k2, k3, k4, k5, k6⟩ := c7c b0;clear a6 b0 a0 b1;clear hus i2 i3 i4 g0;go_wp2_with fail
    simp only [b7.out]
    exact bodyPost_ret (v := .tuple #[.agg #[.string x1, .slice oN (aC1 fs).length cN, .slice oV j cV, .int .i64 st, .slice oF fs.length cF, .string bd, .int .i64 t], .bool true]) (by simp [results, results109, go_sem, k0, k1, k2, k3, k4, k5, k6]) rfl ⟨b8.out, .inl ⟨x1, ys, st, fs, bd, t, _, _, _, rfl, n8.out, ⟨o0.out, by rw [j7.out]; exact o1.out, n9.out, j1.out⟩⟩⟩
   by_cases a2 : (j : Int) < 4
   ·have a3 : ¬ 0 ≤ x := fun h => hgo ⟨⟨a1, a2⟩, h⟩
    clear hgo;have a0 := HW.out.2.1;have b1 := HW.out.1
    have g8 : Hid (∀ p ys st fs b t, ¬ aG2 s p ys st fs b t) := fun p ys st fs b t h => by
     have e := (HI.out _ _ _ _ _ _ h).2
     omega
    obtain ⟨c0, c1, c2, c3, c4, c5, c6⟩ := c7c a0;have f0 := aA2 a0 0;have f1 := aA2 a0 1;have f2 := aA2 a0 2;have f3 := aA2 a0 3;have f4 := aA2 a0 4;have f5 := aA2 a0 5;have f6 := aA2 a0 6;obtain ⟨WE, a6⟩ := exq ((((((((wr.setCell ⟨R, 0, none⟩ (.string ⟨#[]⟩)).setCell ⟨R, 1, none⟩ (.slice none 0 0)).setCell ⟨R, 2, none⟩ (.slice none 0 0)).setCell ⟨R, 3, none⟩ (.int .i64 0)).setCell ⟨R, 4, none⟩ (.slice none 0 0)).setCell ⟨R, 5, none⟩ (.string ⟨#[]⟩)).setCell ⟨R, 6, none⟩ (.int .i64 0)));have b7 := hid a6.symm;have b8 : Hid (Bw w WE) := by show Below _ _ _; rw [a6]; exact (bsc (bsc (bsc (bsc (bsc (bsc (bsc b1 a4.out 0) a4.out 1) a4.out 2) a4.out 3) a4.out 4) a4.out 5) a4.out 6)
    have b0 : WE.heap[R]? = some (.cells #[.string ⟨#[]⟩, .slice none 0 0, .slice none 0 0, .int .i64 0, .slice none 0 0, .string ⟨#[]⟩, .int .i64 0] 36) := by rw [a6]; have h := (aA3 _ R 6 _ _ _ (.int .i64 0) (aA3 _ R 5 _ _ _ (.string ⟨#[]⟩) (aA3 _ R 4 _ _ _ (.slice none 0 0) (aA3 _ R 3 _ _ _ (.int .i64 0) (aA3 _ R 2 _ _ _ (.slice none 0 0) (aA3 _ R 1 _ _ _ (.slice none 0 0) (aA3 _ R 0 _ _ _ (.string ⟨#[]⟩) a0))))))); simpa using h
    obtain ⟨k0, k1, k2, k3, k4, k5, k6⟩ := c7c b0;clear a6 b0 a0 b1;clear HW HV HI;go_wp2_with fail
    simp only [b7.out]
    exact bodyPost_ret (v := .tuple #[.agg #[.string ⟨#[]⟩, .slice none 0 0, .slice none 0 0, .int .i64 0, .slice none 0 0, .string ⟨#[]⟩, .int .i64 0], .bool false]) (by simp [results, results109, go_sem, k0, k1, k2, k3, k4, k5, k6]) rfl ⟨b8.out, .inr ⟨rfl, g8.out⟩⟩
   clear hgo
   have b2 : ∀ (p' : Tx) (ys' : Ts) (st' : Int) (fs' : Fs) (b' : Tx) (t' : Int), aG2 s p' ys' st' fs' b' t' → x1 = p' ∧ ys = ys' ∧ x = ((aG0 (aK1 p' t' ys'.length) ys' ys'.length).size : Int) ∧ t = t' := fun p' ys' st' fs' b' t' h => by
    obtain ⟨e1, e2, e3⟩ := m6.out _ _ _ _ _ _ h
    obtain ⟨e4, e5⟩ := HI.out _ _ _ _ _ _ h
    have h4 := (bB2 h).2.2.2.2.2
    have ej : j = ys'.length := by omega
    rw [ej] at e4 e5
    rw [List.take_length] at e4
    exact ⟨e1, e4, e5, e2⟩
   by_cases hxn : x < 0
   ·have a0 := HW.out.2.1;have b1 := HW.out.1
    have g8 : Hid (∀ p ys st fs b t, ¬ aG2 s p ys st fs b t) := fun p ys st fs b t h => by
     obtain ⟨_, _, e, _⟩ := b2 _ _ _ _ _ _ h
     omega
    obtain ⟨c0, c1, c2, c3, c4, c5, c6⟩ := c7c a0;have f0 := aA2 a0 0;have f1 := aA2 a0 1;have f2 := aA2 a0 2;have f3 := aA2 a0 3;have f4 := aA2 a0 4;have f5 := aA2 a0 5;have f6 := aA2 a0 6;obtain ⟨WE, a6⟩ := exq ((((((((wr.setCell ⟨R, 0, none⟩ (.string ⟨#[]⟩)).setCell ⟨R, 1, none⟩ (.slice none 0 0)).setCell ⟨R, 2, none⟩ (.slice none 0 0)).setCell ⟨R, 3, none⟩ (.int .i64 0)).setCell ⟨R, 4, none⟩ (.slice none 0 0)).setCell ⟨R, 5, none⟩ (.string ⟨#[]⟩)).setCell ⟨R, 6, none⟩ (.int .i64 0)));have b7 := hid a6.symm;have b8 : Hid (Bw w WE) := by show Below _ _ _; rw [a6]; exact (bsc (bsc (bsc (bsc (bsc (bsc (bsc b1 a4.out 0) a4.out 1) a4.out 2) a4.out 3) a4.out 4) a4.out 5) a4.out 6)
    have b0 : WE.heap[R]? = some (.cells #[.string ⟨#[]⟩, .slice none 0 0, .slice none 0 0, .int .i64 0, .slice none 0 0, .string ⟨#[]⟩, .int .i64 0] 36) := by rw [a6]; have h := (aA3 _ R 6 _ _ _ (.int .i64 0) (aA3 _ R 5 _ _ _ (.string ⟨#[]⟩) (aA3 _ R 4 _ _ _ (.slice none 0 0) (aA3 _ R 3 _ _ _ (.int .i64 0) (aA3 _ R 2 _ _ _ (.slice none 0 0) (aA3 _ R 1 _ _ _ (.slice none 0 0) (aA3 _ R 0 _ _ _ (.string ⟨#[]⟩) a0))))))); simpa using h
    obtain ⟨k0, k1, k2, k3, k4, k5, k6⟩ := c7c b0;clear a6 b0 a0 b1;clear b2 HW HV HI;go_wp2_with fail
    simp only [b7.out]
    exact bodyPost_ret (v := .tuple #[.agg #[.string ⟨#[]⟩, .slice none 0 0, .slice none 0 0, .int .i64 0, .slice none 0 0, .string ⟨#[]⟩, .int .i64 0], .bool false]) (by simp [results, results109, go_sem, k0, k1, k2, k3, k4, k5, k6]) rfl ⟨b8.out, .inr ⟨rfl, g8.out⟩⟩
   obtain ⟨f, rfl, hfz⟩ : ∃ f : Nat, x = (f : Int) ∧ f ≤ s.size := by
    rcases hx with hx | hx
    ·omega
    ·exact hx
   have c9 : Hid (∀ (p' : Tx) (ys' : Ts) (st' : Int) (fs' : Fs) (b' : Tx) (t' : Int), aG2 s p' ys' st' fs' b' t' → x1 = p' ∧ ys = ys' ∧ t = t' ∧ s.extract f s.size = aL7 st' fs' b') := fun p' ys' st' fs' b' t' h => by
    obtain ⟨e1, e2, e3, e4⟩ := b2 _ _ _ _ _ _ h
    refine ⟨e1, e2, e4, ?_⟩
    rw [show f = (aG0 (aK1 p' t' ys'.length) ys' ys'.length).size by omega]
    exact cS4 h
   obtain ⟨lf, h8⟩ := exq (s.extract f s.size)
   have l9 : lf.size ≤ 3000000 := by
    have h1 : (bs lf).length ≤ (bs s).length := by
     rw [h8, aE2, List.length_drop, List.length_take]
     omega
    rw [aC4, aC4] at h1
    omega
   have j9 := hid h8.symm;rw [← h8] at c9;obtain ⟨oV, cV, rfl⟩ := aA0 HV.out;have n3 : (f : Int) ≤ (s.size : Int) := by omega
   clear hx b2 h8 HI;go_wp2_with fail
   rw [j9.out];refine (aY3 lf _ l9).mono ?_;intro e w8 hr;obtain ⟨st, fs, bd, vF, tb, rfl, k7, k8, d7, bw⟩ := cT4 hr;have d8 := hid k7
   have n4 : Hid (∀ (p' : Tx) (ys' : Ts) (st' : Int) (fs' : Fs) (b' : Tx) (t' : Int), aG2 s p' ys' st' fs' b' t' → x1 = p' ∧ ys = ys' ∧ st = st' ∧ fs = fs' ∧ bd = b' ∧ t = t') := fun p' ys' st' fs' b' t' h => by
    obtain ⟨e1, e2, e3, e4⟩ := c9.out _ _ _ _ _ _ h
    obtain ⟨e5, e6, e7⟩ := k8 st' fs' b' ⟨h.1.1, e4.symm⟩
    exact ⟨e1, e2, e5, e6, e7, e3⟩
   obtain ⟨oF, cF, rfl⟩ := aA0 d7;have a9 := aA6 HW.out.2.2 bw;have c3 := (c7c a9).2.2.2.1;have c4 := (c7c a9).2.2.2.2.1;have c5 := (c7c a9).2.2.2.2.2.1;have f3 := aA2 a9 3;have f4 := aA2 a9 4;have f5 := aA2 a9 5;have i8 := aA8 HV.out bw (fun g hg => aB0 HV.out hg)
   have i9 : w8.ownsRow w.heap.size 232 2 (.slice oF fs.length cF) fs.length (aE5 fs) := aF5 d7 HW.out.1.size;have k9 := HW.out.1.trans (bw.mono HW.out.1.size);have i6 := aA6 HW.out.2.1 bw;obtain ⟨W9, d9⟩ := exq (((w8.setCell ⟨q, 3, none⟩ (.int .i64 st)).setCell ⟨q, 4, none⟩ (.slice oF fs.length cF)).setCell ⟨q, 5, none⟩ (.string bd))
   have h9 : Hid (Bw w W9) := by
    show Below _ _ _
    rw [d9]
    exact bsc (bsc (bsc k9 h6.out 3) h6.out 4) h6.out 5
   have l0 : Hid (W9.heap[R]? = some (.cells #[.string ⟨#[]⟩, .slice none 0 0, .slice none 0 0, .int .i64 0, .slice none 0 0, .string ⟨#[]⟩, .int .i64 0] 36)) := by
    show _ = _
    rw [d9, heap_setCell_other _ _ _ _ h7.out, heap_setCell_other _ _ _ _ h7.out, heap_setCell_other _ _ _ _ h7.out]
    exact i6
   have j0 : Hid (W9.heap[q]? = some (.cells #[.string x1, .slice none 0 0, .slice oV j cV, .int .i64 st, .slice oF fs.length cF, .string bd, .int .i64 t] 36)) := by
    show _ = _
    rw [d9]
    have h := aA3 _ q 5 _ _ _ (.string bd) (aA3 _ q 4 _ _ _ (.slice oF fs.length cF) (aA3 _ q 3 _ _ _ (.int .i64 st) a9))
    simpa using h
   have h0 : Hid (W9.ownsRow w.heap.size 9 1 (.slice oV j cV) j (ys.map Value.string)) := by
    show World.ownsRow _ _ _ _ _ _ _
    rw [d9]
    refine aA9 i8 (fun g hg => ?_)
    have a5 := aE8 i8 a9 (by decide) g hg
    rw [heap_setCell_other _ _ g _ a5, heap_setCell_other _ _ g _ a5, heap_setCell_other _ _ g _ a5]
   have i1 : Hid (W9.ownsRow w.heap.size 232 2 (.slice oF fs.length cF) fs.length (aE5 fs)) := by
    show World.ownsRow _ _ _ _ _ _ _
    rw [d9]
    refine aA9 i9 (fun g hg => ?_)
    have a5 := aE8 i9 a9 (by decide) g hg
    rw [heap_setCell_other _ _ g _ a5, heap_setCell_other _ _ g _ a5, heap_setCell_other _ _ g _ a5]
   have h3 := hid d9.symm;have n5 := (c7c j0.out).2.2.2.2.1;clear hr k7 k8 d7 bw a9 i8 i9 k9 i6 d9 HW HV c9 j9;go_upto_region 17 with fail
   rw [h3.out];clear c3 c4 c5 f3 f4 f5 h3;go_wp2_with fail
   refine (aU7 _ fs.length w.heap.size fs _ (aB4.of_owns i1.out) (by have := (aM1 d8.out.1).1; omega) (aP8 d8.out.1 _)).mono ?_;rintro e l1 ⟨vN, rfl, b3, bw⟩;obtain ⟨oN, cN, rfl⟩ := aA0 b3;have a8 := aA6 j0.out bw;have c1 := (c7c a8).2.1;have f1 := aA2 a8 1;have e0 := aA8 h0.out bw (fun g hg => aB0 h0.out hg)
   have e8 := aA8 i1.out bw (fun g hg => aB0 i1.out hg)
   have e9 : l1.ownsRow w.heap.size 9 1 (.slice oN (aC1 fs).length cN) (aC1 fs).length ((aC1 fs).map Value.string) := aF5 b3 h9.out.size
   have j1 : Hid (∀ g, (Value.slice oN (aC1 fs).length cN).ownBlock = some g → (Value.slice oV j cV).ownBlock ≠ some g) := fun g hg e => by
    have h1 := aC8 b3 hg
    have h2 := aB0 h0.out e
    omega
   obtain ⟨f7, a7⟩ := exq (l1.setCell ⟨q, 1, none⟩ (.slice oN (aC1 fs).length cN))
   have f8 : Hid (Bw w f7) := by
    show Below _ _ _
    rw [a7]
    exact bsc (h9.out.trans (bw.mono h9.out.size)) h6.out 1
   have h5 : Hid (f7.heap[R]? = some (.cells #[.string ⟨#[]⟩, .slice none 0 0, .slice none 0 0, .int .i64 0, .slice none 0 0, .string ⟨#[]⟩, .int .i64 0] 36)) := by
    show _ = _
    rw [a7, heap_setCell_other _ _ _ _ h7.out]
    exact aA6 l0.out bw
   have f9 : Hid (f7.heap[q]? = some (.cells #[.string x1, .slice oN (aC1 fs).length cN, .slice oV j cV, .int .i64 st, .slice oF fs.length cF, .string bd, .int .i64 t] 36)) := by
    show _ = _
    rw [a7]
    have h := aA3 _ q 1 _ _ _ (.slice oN (aC1 fs).length cN) a8
    simpa using h
   have b4 : Hid (f7.ownsRow w.heap.size 9 1 (.slice oV j cV) j (ys.map Value.string)) := by
    show World.ownsRow _ _ _ _ _ _ _
    rw [a7]
    exact aA9 e0 (fun g hg => heap_setCell_other _ _ g _ (aE8 e0 a8 (by decide) g hg))
   have b5 : Hid (f7.ownsRow w.heap.size 232 2 (.slice oF fs.length cF) fs.length (aE5 fs)) := by
    show World.ownsRow _ _ _ _ _ _ _
    rw [a7]
    exact aA9 e8 (fun g hg => heap_setCell_other _ _ g _ (aE8 e8 a8 (by decide) g hg))
   have b6 : Hid (f7.ownsRow w.heap.size 9 1 (.slice oN (aC1 fs).length cN) (aC1 fs).length ((aC1 fs).map Value.string)) := by
    show World.ownsRow _ _ _ _ _ _ _
    rw [a7]
    exact aA9 e9 (fun g hg => heap_setCell_other _ _ g _ (aE8 e9 a8 (by decide) g hg))
   have b9 := hid a7.symm;clear b3 bw a8 e0 e8 e9 a7 h9 l0 j0 h0 i1 n5;go_upto_region 18 with fail
   rw [b9.out];clear c1 f1 b9;obtain ⟨d0, d1, d2, d3, d4, d5, d6⟩ := c7c f9.out;have j2 := bJ5 d8.out.1;have r3 := (aM1 d8.out.1).1;go_wp2_with fail
   have c7 := bA1 x1 oN (aC1 fs).length cN (aC1 fs) oV j cV ys st (.slice oF fs.length cF) fs.length w.heap.size fs bd t f7 (aC2 b6.out) (aC2 b4.out) (aB4.of_owns b5.out) j2.1 (by omega) (by omega) j2.2 (fun i hi => by have := m8.out _ (aG7 ys i (by rw [j7.out]; exact hi)); unfold maxLen; omega) (bE0 d8.out.1) z1 (by have := d8.out.2; unfold maxLen; omega) (aP8 d8.out.1 _)
   refine c7.mono ?_;clear c7;rintro e l2 ⟨u, rfl, l3, l4, bw⟩;have l5 := hid l3;have n6 := hid l4;have a0 := aA6 h5.out bw;have b1 := f8.out.trans (bw.mono f8.out.size);have g0 := aA6 f9.out bw;have i2 := aA8 b5.out bw (fun g hg => aB0 b5.out hg)
   have i3 := aA8 b6.out bw (fun g hg => aB0 b6.out hg)
   have i4 := aA8 b4.out bw (fun g hg => aB0 b4.out hg)
   clear l3 l4 bw d0 d1 d2 d3 d4 d5 d6 j2 h5 f8 f9 b5 b6 b4;by_cases hus : u = s
   rotate_left
   ·have g8 : Hid (∀ p ys st fs b t, ¬ aG2 s p ys st fs b t) := fun p' ys' st' fs' b' t' h => by
     obtain ⟨rfl, rfl, rfl, rfl, rfl, rfl⟩ := n4.out _ _ _ _ _ _ h
     exact hus ((l5.out h.1).trans h.2)
    have n7 := aB8 hus;obtain ⟨c0, c1, c2, c3, c4, c5, c6⟩ := c7c a0;have f0 := aA2 a0 0;have f1 := aA2 a0 1;have f2 := aA2 a0 2;have f3 := aA2 a0 3;have f4 := aA2 a0 4;have f5 := aA2 a0 5;have f6 := aA2 a0 6;obtain ⟨WE, a6⟩ := exq ((((((((l2.setCell ⟨R, 0, none⟩ (.string ⟨#[]⟩)).setCell ⟨R, 1, none⟩ (.slice none 0 0)).setCell ⟨R, 2, none⟩ (.slice none 0 0)).setCell ⟨R, 3, none⟩ (.int .i64 0)).setCell ⟨R, 4, none⟩ (.slice none 0 0)).setCell ⟨R, 5, none⟩ (.string ⟨#[]⟩)).setCell ⟨R, 6, none⟩ (.int .i64 0)));have b7 := hid a6.symm;have b8 : Hid (Bw w WE) := by show Below _ _ _; rw [a6]; exact (bsc (bsc (bsc (bsc (bsc (bsc (bsc b1 a4.out 0) a4.out 1) a4.out 2) a4.out 3) a4.out 4) a4.out 5) a4.out 6)
    have b0 : WE.heap[R]? = some (.cells #[.string ⟨#[]⟩, .slice none 0 0, .slice none 0 0, .int .i64 0, .slice none 0 0, .string ⟨#[]⟩, .int .i64 0] 36) := by rw [a6]; have h := (aA3 _ R 6 _ _ _ (.int .i64 0) (aA3 _ R 5 _ _ _ (.string ⟨#[]⟩) (aA3 _ R 4 _ _ _ (.slice none 0 0) (aA3 _ R 3 _ _ _ (.int .i64 0) (aA3 _ R 2 _ _ _ (.slice none 0 0) (aA3 _ R 1 _ _ _ (.slice none 0 0) (aA3 _ R 0 _ _ _ (.string ⟨#[]⟩) a0))))))); simpa using h
    obtain ⟨k0, k1, k2, k3, k4, k5, k6⟩ := c7c b0;clear a6 b0 a0 b1;clear hus i2 i3 i4 g0;go_wp2_with fail
    simp only [b7.out]
    exact bodyPost_ret (v := .tuple #[.agg #[.string ⟨#[]⟩, .slice none 0 0, .slice none 0 0, .int .i64 0, .slice none 0 0, .string ⟨#[]⟩, .int .i64 0], .bool false]) (by simp [results, results109, go_sem, k0, k1, k2, k3, k4, k5, k6]) rfl ⟨b8.out, .inr ⟨rfl, g8.out⟩⟩
   have n8 : Hid (aG2 s x1 ys st fs bd t) := by
    by_cases hp : ObjP x1 (aC1 fs) ys st fs bd t
    ·exact ⟨hp, by rw [← l5.out hp]; exact hus⟩
    ·exfalso
     have h1 := n6.out hp
     have h2 : s.size = 0 := by rw [← hus, h1]; rfl
     omega
   have n7 : (u.toList == s.toList) = true := (aD3 _ _).2 hus;obtain ⟨d0, d1, d2, d3, d4, d5, d6⟩ := c7c g0;obtain ⟨c0, c1, c2, c3, c4, c5, c6⟩ := c7c a0;have f0 := aA2 a0 0;have f1 := aA2 a0 1;have f2 := aA2 a0 2;have f3 := aA2 a0 3;have f4 := aA2 a0 4;have f5 := aA2 a0 5;have f6 := aA2 a0 6;obtain ⟨WE, a6⟩ := exq ((((((((l2.setCell ⟨R, 0, none⟩ (.string x1)).setCell ⟨R, 1, none⟩ (.slice oN (aC1 fs).length cN)).setCell ⟨R, 2, none⟩ (.slice oV j cV)).setCell ⟨R, 3, none⟩ (.int .i64 st)).setCell ⟨R, 4, none⟩ (.slice oF fs.length cF)).setCell ⟨R, 5, none⟩ (.string bd)).setCell ⟨R, 6, none⟩ (.int .i64 t)));have b7 := hid a6.symm;have b8 : Hid (Bw w WE) := by show Below _ _ _; rw [a6]; exact (bsc (bsc (bsc (bsc (bsc (bsc (bsc b1 a4.out 0) a4.out 1) a4.out 2) a4.out 3) a4.out 4) a4.out 5) a4.out 6)
   have b0 : WE.heap[R]? = some (.cells #[.string x1, .slice oN (aC1 fs).length cN, .slice oV j cV, .int .i64 st, .slice oF fs.length cF, .string bd, .int .i64 t] 36) := by rw [a6]; have h := (aA3 _ R 6 _ _ _ (.int .i64 t) (aA3 _ R 5 _ _ _ (.string bd) (aA3 _ R 4 _ _ _ (.slice oF fs.length cF) (aA3 _ R 3 _ _ _ (.int .i64 st) (aA3 _ R 2 _ _ _ (.slice oV j cV) (aA3 _ R 1 _ _ _ (.slice oN (aC1 fs).length cN) (aA3 _ R 0 _ _ _ (.string x1) a0))))))); simpa using h
   have n9 : Hid (WE.ownsRow w.heap.size 232 2 (.slice oF fs.length cF) fs.length (aE5 fs)) := by
    show World.ownsRow _ _ _ _ _ _ _
    rw [a6]
    refine aA9 i2 (fun g hg => ?_)
    have a5 := aE8 i2 a0 (by decide) g hg
    rw [heap_setCell_other _ _ g _ a5, heap_setCell_other _ _ g _ a5, heap_setCell_other _ _ g _ a5, heap_setCell_other _ _ g _ a5, heap_setCell_other _ _ g _ a5, heap_setCell_other _ _ g _ a5, heap_setCell_other _ _ g _ a5]
   have o0 : Hid (WE.ownsRow w.heap.size 9 1 (.slice oN (aC1 fs).length cN) (aC1 fs).length ((aC1 fs).map Value.string)) := by
    show World.ownsRow _ _ _ _ _ _ _
    rw [a6]
    refine aA9 i3 (fun g hg => ?_)
    have a5 := aE8 i3 a0 (by decide) g hg
    rw [heap_setCell_other _ _ g _ a5, heap_setCell_other _ _ g _ a5, heap_setCell_other _ _ g _ a5, heap_setCell_other _ _ g _ a5, heap_setCell_other _ _ g _ a5, heap_setCell_other _ _ g _ a5, heap_setCell_other _ _ g _ a5]
   have o1 : Hid (WE.ownsRow w.heap.size 9 1 (.slice oV j cV) j (ys.map Value.string)) := by
    show World.ownsRow _ _ _ _ _ _ _
    rw [a6]
    refine aA9 i4 (fun g hg => ?_)
    have a5 := aE8 i4 a0 (by decide) g hg
    rw [heap_setCell_other _ _ g _ a5, heap_setCell_other _ _ g _ a5, heap_setCell_other _ _ g _ a5, heap_setCell_other _ _ g _ a5, heap_setCell_other _ _ g _ a5, heap_setCell_other _ _ g _ a5, heap_setCell_other _ _ g _ a5]
   obtain ⟨k0, k1, k2, k3, k4, k5, k6⟩ := c7c b0;clear a6 b0 a0 b1;clear hus i2 i3 i4 g0;go_wp2_with fail
   simp only [b7.out]
   exact bodyPost_ret (v := .tuple #[.agg #[.string x1, .slice oN (aC1 fs).length cN, .slice oV j cV, .int .i64 st, .slice oF fs.length cF, .string bd, .int .i64 t], .bool true]) (by simp [results, results109, go_sem, k0, k1, k2, k3, k4, k5, k6]) rfl ⟨b8.out, .inl ⟨x1, ys, st, fs, bd, t, _, _, _, rfl, n8.out, ⟨o0.out, by rw [j7.out]; exact o1.out, n9.out, j1.out⟩⟩⟩
 have o2 : Hid (∀ p ys st fs b t, ¬ aG2 s p ys st fs b t) := fun p ys st fs b t h => bF3 (bF4 h).1 rfl l8
 clear l8;go_wp2_with fail
 refine (aL3 ⟨#[]⟩ _ (by decide)).mono ?_;rintro e w3 ⟨vW, xs, rfl, g7, o4, bw, hwd⟩;obtain ⟨oW, cW, rfl⟩ := aA0 g7;have i5 : Hid (Bw w w3) := H1.out.trans (bw.mono H1.out.size);have i7 := hblk l7 bw;clear g7 bw hwd H1 l7;have a0 := i7.out;have b1 := i5.out;have g8 : Hid (∀ p ys st fs b t, ¬ aG2 s p ys st fs b t) := o2.out;obtain ⟨c0, c1, c2, c3, c4, c5, c6⟩ := c7c a0;have f0 := aA2 a0 0;have f1 := aA2 a0 1;have f2 := aA2 a0 2;have f3 := aA2 a0 3;have f4 := aA2 a0 4;have f5 := aA2 a0 5;have f6 := aA2 a0 6;obtain ⟨WE, a6⟩ := exq ((((((((w3.setCell ⟨R, 0, none⟩ (.string ⟨#[]⟩)).setCell ⟨R, 1, none⟩ (.slice none 0 0)).setCell ⟨R, 2, none⟩ (.slice none 0 0)).setCell ⟨R, 3, none⟩ (.int .i64 0)).setCell ⟨R, 4, none⟩ (.slice none 0 0)).setCell ⟨R, 5, none⟩ (.string ⟨#[]⟩)).setCell ⟨R, 6, none⟩ (.int .i64 0)));have b7 := hid a6.symm;have b8 : Hid (Bw w WE) := by show Below _ _ _; rw [a6]; exact (bsc (bsc (bsc (bsc (bsc (bsc (bsc b1 a4.out 0) a4.out 1) a4.out 2) a4.out 3) a4.out 4) a4.out 5) a4.out 6)
 have b0 : WE.heap[R]? = some (.cells #[.string ⟨#[]⟩, .slice none 0 0, .slice none 0 0, .int .i64 0, .slice none 0 0, .string ⟨#[]⟩, .int .i64 0] 36) := by rw [a6]; have h := (aA3 _ R 6 _ _ _ (.int .i64 0) (aA3 _ R 5 _ _ _ (.string ⟨#[]⟩) (aA3 _ R 4 _ _ _ (.slice none 0 0) (aA3 _ R 3 _ _ _ (.int .i64 0) (aA3 _ R 2 _ _ _ (.slice none 0 0) (aA3 _ R 1 _ _ _ (.slice none 0 0) (aA3 _ R 0 _ _ _ (.string ⟨#[]⟩) a0))))))); simpa using h
 obtain ⟨k0, k1, k2, k3, k4, k5, k6⟩ := c7c b0;clear a6 b0 a0 b1;clear i7 i5;go_wp2_with fail
 simp only [b7.out]
 exact bodyPost_ret (v := .tuple #[.agg #[.string ⟨#[]⟩, .slice none 0 0, .slice none 0 0, .int .i64 0, .slice none 0 0, .string ⟨#[]⟩, .int .i64 0], .bool false]) (by simp [results, results109, go_sem, k0, k1, k2, k3, k4, k5, k6]) rfl ⟨b8.out, .inr ⟨rfl, g8.out⟩⟩
def bS7 (v1 v2 VB : Value) (cs : Ts) (ws : List (Int × ByteArray)) (bl : Bs) : List Rw := [(⟨9, 1, v1, cs.length, cs.map Value.string⟩ : Rw), ⟨128, 2, v2, ws.length, aA4 ws⟩, ⟨44, 4, VB, bl.length, aB3 bl⟩]
end Go.Proofs.YtiobfnpmidjijaaGreatDoor
