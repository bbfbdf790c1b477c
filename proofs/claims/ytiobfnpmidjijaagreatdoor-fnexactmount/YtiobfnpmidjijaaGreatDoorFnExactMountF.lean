/- What the proof of FnExactMount leans on: contracts of the program's and the specification's functions, and plain facts (part 6 of 12). -/
import Derived.Test.YtiobfnpmidjijaaGreatDoorFnExactMountE
set_option maxHeartbeats 16000000
set_option maxRecDepth 100000
namespace Go.Proofs.YtiobfnpmidjijaaGreatDoor
open Go.Proofs.Tryz
open Go.RowKit
open Go.Lib hiding intOf
def aM4 (kv : Ks) : Prop := ∀ x ∈ kv, ∃ o1 c1 o2 c2 o3 c3, x.2.1 = .slice o1 x.1.xs.length c1 ∧ x.2.2.1 = .slice o2 x.1.ys.length c2 ∧ x.2.2.2 = .slice o3 x.1.fs.length c3
theorem aM4.sub {kv kv' : Ks} (h : aM4 kv) (hs : ∀ x ∈ kv', x ∈ kv) : aM4 kv' := fun x hx => h x (hs x hx)
theorem cW5 (f : FuncId) (q b n : Nat) (D : DataW Value) (kv : Ks) (G : KpD × Value × Value × Value → Bool) (w : World) (hown : aT4 w b n D) (hi : aW1 D kv) (ha : aM3 kv) (hsl : aM4 kv) (hcf : ∀ (args : Array Value) (W : World), (callFunc f args).run prog W = .ok (.enter f args) W)
  (hf : ∀ W, w.grownBy W (some b) → ∀ x ∈ kv, Calls prog f #[kpX x, .pointer (some ⟨q, 0, none⟩)] W fun e w' => e = .returned (.bool (G x)) ∧ Below W.heap.size W w') :
  Calls prog 143 #[.map (some b), .func (.func f) #[] #[.pointer (some ⟨q, 0, none⟩)]] w fun e w' => e = .returned (.tuple #[]) ∧ (∃ D', aT4 w' b n D' ∧ aW1 D' (kv.filter (fun y => !G y))) ∧ w.grownBy w' (some b) := by
 unfold aT4 at hown;have c5 := hid hf;have c6 := hid hsl;have b7 := hid ha;have HI := hid hi;clear hf hsl ha hi;go_enter func143, ntmps143
 go_wp2_with (first
  | (at_range; refine wpList_range_own _ rfl _ 191 rfl 3 52 bY5 underlying191 mpR b n D rfl hown ?_; intro w0 b0 c7 d4)
  | go_in)
 go_frame;go_loopw [8] (fun _ wr => ∃ (left : Lit → Bool) (cnt : Nat) (D1 : DataW Value), wr.ranges prog 3 mpR b w.heap.size n D1 left cnt ∧ Hid (aQ8 G D1 left kv) ∧ w.grownBy wr (some b)) (fun _ wr => wr.rangeLeft b w.heap.size)
 case atStart => exact ⟨_, _, D, b0, aQ8.start HI.out, c7.but _⟩
 case round =>
  obtain ⟨left, cnt, D1, a7, HF, b8⟩ := hrel
  go_wp2_with (first
   | (at_next; refine wpList_next_ranges _ rfl _ rfl 3 bY5 mpR (Value.int .i64) (fun v : Value => v) (fun d5 kl h => by obtain ⟨x, e, _⟩ := Maps.keyOf_int_inv underlying3 h; exact ⟨x, e⟩) (fun v y _ => ⟨v, rfl⟩) b w.heap.size n D1 left cnt rfl a7 ?_ ?_)
   | go_in)
  ·intro _ c8;go_wp2
   go_end0
   exact ⟨rfl, ⟨D1, a7.owns, HF.out.done c8⟩, b8⟩
  intro xa c kl yd yp w1 b1 a0 b2 hR b3 a1 c9 b9 d0 a8;have a4 := b8.andThen b9 (fun j hj => by cases hj; exact Or.inl (Nat.le_refl _))
  obtain ⟨xb, d1, d2, _⟩ := Maps.keyOf_int_inv underlying3 a0;cases d1
  subst d2;have ey := dD8 hR;obtain ⟨d3, _⟩ := Prod.mk.inj ey;subst d3;obtain ⟨x, a9, ea, ec⟩ := HF.out.at b3;subst ea ec;obtain ⟨y, v1, v2, v3⟩ := x;obtain ⟨o1, c1, o2, c2, o3, c3, e1, e2, e3⟩ := c6.out _ a9;dsimp only at e1 e2 e3;subst e1 e2 e3;dsimp only at a0 b3 b2 a1 a8 ⊢;unfold kpX at a8;dsimp only at a8;have c0 := hid a9;have d6 := hid b2;have b4 := hid a0;obtain ⟨g, hG⟩ := exq (G (y, .slice o1 y.xs.length c1, .slice o2 y.ys.length c2, .slice o3 y.fs.length c3));have HG := hid hG;have HC : Hid (∀ W, w.grownBy W (some b) → Calls prog f #[.agg #[.string y.p, .slice o1 y.xs.length c1, .slice o2 y.ys.length c2, .int .i64 y.st, .slice o3 y.fs.length c3, .string y.b, .int .i64 y.t, .int .i64 y.a, .int .i64 y.q], .pointer (some ⟨q, 0, none⟩)] W fun e w' => e = .returned (.bool g) ∧ Below W.heap.size W w') := fun W hW => by rw [hG]; exact c5.out W hW _ a9
  have c4 : Hid (Below w1.heap.size w1 (w1.alloc (.cells #[.string y.p, .slice o1 y.xs.length c1, .slice o2 y.ys.length c2, .int .i64 y.st, .slice o3 y.fs.length c3, .string y.b, .int .i64 y.t, .int .i64 y.a, .int .i64 y.q] 52))) := (Below.refl _ _).alloc (Nat.le_refl _) _;have b5 : Hid (w.grownBy (w1.alloc (.cells #[.string y.p, .slice o1 y.xs.length c1, .slice o2 y.ys.length c2, .int .i64 y.st, .slice o3 y.fs.length c3, .string y.b, .int .i64 y.t, .int .i64 y.a, .int .i64 y.q] 52)) (some b)) := a4.andThen (World.grownBy_alloc w1 _ none) (fun j hj => by cases hj)
  clear hG a0 b2 b3 a9 hR;unfold kpX;dsimp only;go_wp2_with fail
  refine (HC.out _ b5.out).mono ?_;rintro e w2 ⟨rfl, bw⟩;have a2 := aU4 (aU4 a1 c4.out) bw;have a5 : w.grownBy w2 (some b) := b5.out.andThen (aE6 bw none) (fun j hj => by cases hj)
  clear a1 bw c4 b5 a4 a8 b9 d0 HC;cases g with
  | true =>
   go_wp2_with (first
    | (at_delete; refine wpList_delete_ranges _ rfl _ _ 191 3 rfl 52 bY5 underlying191 mpR b w.heap.size n _ _ _ rfl a2 _ _ rfl b4.out ?_; intro w3 b6 a3 d7 a6; go_frame)
    | go_in)
   rw [Maps.strike_twice] at a3;go_roundw
   case rel => exact ⟨_, b6, _, a3, HF.out.strike b7.out c0.out HG.out.symm, a5.andThen a6.grown (fun j hj => by cases hj; exact Or.inr rfl)⟩
   case measure => rw [a3.left_eq, a7.left_eq]; omega
  | false =>
   go_wp2_with fail
   go_roundw
   case rel => exact ⟨_, b1, D1, a2, HF.out.stay b7.out c0.out HG.out.symm, a5⟩
   case measure => rw [a2.left_eq, a7.left_eq]; exact c9
def insK (x : KpD × Value × Value × Value) : Ks → Ks
 | [] => [x]
 | y :: l => if x.1.q < y.1.q then x :: y :: l else y :: insK x l
theorem cS8 {x : KpD × Value × Value × Value} : ∀ {l : Ks}, (∀ y ∈ l, ¬ x.1.q < y.1.q) → insK x l = l ++ [x]
 | [], _ => rfl
 | y :: l, h => by rw [insK, if_neg (h y List.mem_cons_self), cS8 (fun z hz => h z (List.mem_cons_of_mem _ hz))]; rfl
theorem cJ3 {x y : KpD × Value × Value × Value} : ∀ {l : Ks}, (∃ z ∈ l, x.1.q < z.1.q) → insK x (l ++ [y]) = insK x l ++ [y]
 | [], h => by obtain ⟨z, hz, _⟩ := h; cases hz
 | z :: l, h => by
  rw [List.cons_append, insK, insK]
  by_cases e : x.1.q < z.1.q
  · rw [if_pos e, if_pos e]; rfl
  ·rw [if_neg e, if_neg e, cJ3 (l := l) (by
    obtain ⟨u, hu, hq⟩ := h
    rcases List.mem_cons.1 hu with rfl | hu
    · exact absurd hq e
    · exact ⟨u, hu, hq⟩)]; rfl
theorem dE0 {x y : KpD × Value × Value × Value} {l : Ks} (h : ∀ z ∈ l, ¬ x.1.q < z.1.q) (hy : x.1.q < y.1.q) : insK x (l ++ [y]) = l ++ [x] ++ [y] := by
 induction l with
 | nil => simp [insK, hy]
 | cons z l ih => rw [List.cons_append, insK, if_neg (h z List.mem_cons_self), ih (fun u hu => h u (List.mem_cons_of_mem _ hu))]; rfl
theorem cS9 (x : KpD × Value × Value × Value) : ∀ l : Ks, (insK x l).length = l.length + 1
 | [] => rfl
 | y :: l => by
  rw [insK]
  split
  · rfl
  · rw [List.length_cons, cS9 x l]; rfl
def InsT (x : KpD × Value × Value × Value) (l : Ks) (put : Bool) (acc : Ks) : Prop := (put = false ∧ (∀ y ∈ l, ¬ x.1.q < y.1.q) ∧ acc = l) ∨ (put = true ∧ (∃ y ∈ l, x.1.q < y.1.q) ∧ acc = insK x l)
theorem InsT.len {x : KpD × Value × Value × Value} {l acc : Ks} {put : Bool} (h : InsT x l put acc) : acc.length ≤ l.length + 1 := by
 rcases h with ⟨_, _, rfl⟩ | ⟨_, _, rfl⟩
 ·omega
 rw [cS9]; omega
theorem InsT.low {x y : KpD × Value × Value × Value} {l acc : Ks} (h : InsT x l false acc) (hy : ¬ x.1.q < y.1.q) : InsT x (l ++ [y]) false (acc ++ [y]) := by
 rcases h with ⟨_, h, rfl⟩ | ⟨h, _⟩
 ·exact .inl ⟨rfl, fun z hz => (List.mem_append.1 hz).elim (h z) (fun e => by rw [List.mem_singleton.1 e]; exact hy), rfl⟩
 cases h
theorem InsT.put {x y : KpD × Value × Value × Value} {l acc : Ks} (h : InsT x l false acc) (hy : x.1.q < y.1.q) : InsT x (l ++ [y]) true (acc ++ [x] ++ [y]) := by
 rcases h with ⟨_, h, rfl⟩ | ⟨h, _⟩
 ·exact .inr ⟨rfl, ⟨y, by simp, hy⟩, (dE0 h hy).symm⟩
 cases h
theorem InsT.more {x y : KpD × Value × Value × Value} {l acc : Ks} (h : InsT x l true acc) : InsT x (l ++ [y]) true (acc ++ [y]) := by
 rcases h with ⟨h, _⟩ | ⟨_, h, rfl⟩
 ·cases h
 exact .inr ⟨rfl, h.elim fun z hz => ⟨z, List.mem_append_left _ hz.1, hz.2⟩, (cJ3 h).symm⟩
theorem InsT.done {x : KpD × Value × Value × Value} {l acc : Ks} (h : InsT x l true acc) : acc = insK x l := by
 rcases h with ⟨h, _⟩ | ⟨_, _, h⟩
 ·cases h
 exact h
theorem InsT.last {x : KpD × Value × Value × Value} {l acc : Ks} (h : InsT x l false acc) : acc ++ [x] = insK x l := by
 rcases h with ⟨_, h, rfl⟩ | ⟨h, _⟩
 ·exact (cS8 h).symm
 cases h
theorem aM0 {w : World} {B n cap : Nat} {o : Oa} {kv : Ks} (h : w.ownsRow B 52 9 (.slice o n cap) n (kv.flatMap kpC)) (j : Nat) (hj : j < kv.length) (hn : kv.length = n) : ∃ g, o = some ⟨g, 0, none⟩ ∧ KpAt w g j (kv[j]'hj) := by
 obtain ⟨g, rfl⟩ := aM6 h (by omega);have a0 : ∀ i, i < 9 → ∀ u, (kpC (kv[j]'hj))[i]? = some u → w.cell? ⟨g, j * 9 + i, none⟩ = some u := fun i hi u hu => (bA9 h (j * 9 + i) u (by rw [bE7 kpC 9 aZ1 kv j i hj hi]; exact hu)).1
 exact ⟨g, rfl, ⟨by rw [← Nat.add_zero (j * 9)]; exact a0 0 (by decide) _ rfl, a0 1 (by decide) _ rfl, a0 2 (by decide) _ rfl, a0 3 (by decide) _ rfl, a0 4 (by decide) _ rfl, a0 5 (by decide) _ rfl, a0 6 (by decide) _ rfl, a0 7 (by decide) _ rfl, a0 8 (by decide) _ rfl⟩⟩
theorem bR7 {W : World} {q T : Nat} {a b c d e f g h i : Value} (kk : W.heap[q]? = some (.cells #[a, b, c, d, e, f, g, h, i] T)) : W.cell? ⟨q, 0, none⟩ = some a ∧ W.cell? ⟨q, 1, none⟩ = some b ∧ W.cell? ⟨q, 2, none⟩ = some c ∧ W.cell? ⟨q, 3, none⟩ = some d ∧ W.cell? ⟨q, 4, none⟩ = some e ∧ W.cell? ⟨q, 5, none⟩ = some f ∧ W.cell? ⟨q, 6, none⟩ = some g ∧ W.cell? ⟨q, 7, none⟩ = some h ∧ W.cell? ⟨q, 8, none⟩ = some i := by simp [World.cell?, kk]
theorem cO6 (B : Nat) (v : Value) (kv : Ks) (y : KpD) (o1 : Oa) (c1 : Nat) (o2 : Oa) (c2 : Nat) (o3 : Oa) (c3 : Nat) (w : World) (h : w.ownsRow B 52 9 v kv.length (kv.flatMap kpC)) (hsl : aM4 kv) (hn : kv.length ≤ 1048576) :
  Calls prog 111 #[v, .agg #[.string y.p, .slice o1 y.xs.length c1, .slice o2 y.ys.length c2, .int .i64 y.st, .slice o3 y.fs.length c3, .string y.b, .int .i64 y.t, .int .i64 y.a, .int .i64 y.q]] w fun e w' => ∃ g c, e = .returned (.slice (some ⟨g, 0, none⟩) (insK ((y, .slice o1 y.xs.length c1, .slice o2 y.ys.length c2, .slice o3 y.fs.length c3) : KpD × Value × Value × Value) kv).length c) ∧ w'.ownsRow w.heap.size 52 9 (.slice (some ⟨g, 0, none⟩) (insK ((y, .slice o1 y.xs.length c1, .slice o2 y.ys.length c2, .slice o3 y.fs.length c3) : KpD × Value × Value × Value) kv).length c) (insK ((y, .slice o1 y.xs.length c1, .slice o2 y.ys.length c2, .slice o3 y.fs.length c3) : KpD × Value × Value × Value) kv).length ((insK ((y, .slice o1 y.xs.length c1, .slice o2 y.ys.length c2, .slice o3 y.fs.length c3) : KpD × Value × Value × Value) kv).flatMap kpC) ∧ Below w.heap.size w w' := by
 obtain ⟨oV, cV, e1⟩ := aA0 h;subst e1;obtain ⟨i0, d9, e0, e4, e5⟩ := info_parts bB5;obtain ⟨n, g6⟩ := exq kv.length;rw [← g6] at h hn ⊢;have d5 := hid g6.symm;have HV : Hid (∀ W, Bw w W → W.ownsRow B 52 9 (.slice oV n cV) n (kv.flatMap kpC)) := fun W hb => aA8 h hb (fun g hg => aB0 h hg)
 have i7 := hid hsl;clear g6 h hsl;go_enter func111, ntmps111;go_upto_region 1 with fail
 obtain ⟨q1, f3⟩ := exq (w.heap.size);obtain ⟨w1, e6⟩ := exq (w.alloc (.cells #[.string y.p, .slice o1 y.xs.length c1, .slice o2 y.ys.length c2, .int .i64 y.st, .slice o3 y.fs.length c3, .string y.b, .int .i64 y.t, .int .i64 y.a, .int .i64 y.q] 52));rw [← e6]; try rw [← f3];have h5 : Bw w w1 := by rw [e6]; exact (Below.refl _ _).alloc (Nat.le_refl _) _
 have h6 : Hid (w1.heap[q1]? = some (.cells #[.string y.p, .slice o1 y.xs.length c1, .slice o2 y.ys.length c2, .int .i64 y.st, .slice o3 y.fs.length c3, .string y.b, .int .i64 y.t, .int .i64 y.a, .int .i64 y.q] 52)) := by show _ = _; rw [e6, f3]; exact heap_alloc_new _ _
 have f4 : Hid (Bw w w1) := h5;have h7 : Hid (w1.heap.size = q1 + 1) := by show _ = _; rw [e6, f3]; simp
 clear e6 h5 f3;go_upto_region 2 with fail
 obtain ⟨q2, f5⟩ := exq (w1.heap.size);obtain ⟨w2, f6⟩ := exq (w1.alloc (.cells #[] 52));rw [← f6]; try rw [← f5];have g8 : Below w1.heap.size w1 w2 := by rw [f6]; exact (Below.refl _ _).alloc (Nat.le_refl _) _
 have h8 := hblk h6 g8;have h9 : Hid (Bw w w2) := f4.out.trans (g8.mono f4.out.size);have i1 : Hid (w2.ownsRow w.heap.size 52 9 (.slice (some ⟨q2, 0, none⟩) 0 0) 0 (([] : Ks).flatMap kpC)) := ⟨rfl, .inr ⟨q2, 0, #[], rfl, by rw [f5]; exact f4.out.size, by rw [f6, f5]; exact heap_alloc_new _ _, Nat.le_refl _, Nat.zero_le _, rfl, rfl⟩⟩;have e7 : Hid (q2 ≠ q1) := by have h1 := h7.out; show _ ≠ _; omega
 clear f6 g8 h7 f5 f4 h6;go_wp2_with fail
 go_loopw [5, 6, 7] (fun a b i wr => ∃ (j : Nat) (acc : Ks) (put : Bool) (gz pz : Nat), j ≤ n ∧ i = .int .i64 (j : Int) ∧ b = .bool put ∧ a = .slice (some ⟨gz, 0, none⟩) acc.length pz ∧ Hid (InsT ((y, .slice o1 y.xs.length c1, .slice o2 y.ys.length c2, .slice o3 y.fs.length c3) : KpD × Value × Value × Value) (kv.take j) put acc) ∧ Hid (wr.ownsRow w.heap.size 52 9 (.slice (some ⟨gz, 0, none⟩) acc.length pz) acc.length (acc.flatMap kpC)) ∧ Hid (wr.heap[q1]? = some (.cells #[.string y.p, .slice o1 y.xs.length c1, .slice o2 y.ys.length c2, .int .i64 y.st, .slice o3 y.fs.length c3, .string y.b, .int .i64 y.t, .int .i64 y.a, .int .i64 y.q] 52)) ∧ Hid (gz ≠ q1) ∧ Hid (Bw w wr)) (fun _ _ i _ => n - (intOf i).toNat)
 case atStart => exact ⟨0, [], false, q2, 0, Nat.zero_le _, rfl, rfl, rfl, .inl ⟨rfl, fun y hy => by simp at hy, by simp⟩, i1, h8, e7, h9⟩
 case round =>
  clear i1 h8 e7 h9;obtain ⟨j, acc, put, gz, pz, hj, rfl, rfl, rfl, HI, HO, HQ, c7, HB⟩ := hrel;have j8 : acc.length ≤ 1048577 := by have h1 := HI.out.len; rw [List.length_take] at h1; omega
  by_cases hlt : (j : Int) < (n : Int)
  rotate_left
  ·have HT : Hid (kv.take j = kv) := by show _ = _; rw [List.take_of_length_le (by rw [d5.out]; omega)]
   have j9 : j = n := by omega
   cases put with
   | true =>
    go_wp2_with fail
    go_ret;have h1 := HI.out.done;rw [HT.out] at h1;subst h1;exact ⟨gz, pz, rfl, HO.out, HB.out⟩
   | false =>
    have d6 : Below wr.heap.size wr (wr.alloc (.cells #[.string y.p, .slice o1 y.xs.length c1, .slice o2 y.ys.length c2, .int .i64 y.st, .slice o3 y.fs.length c3, .string y.b, .int .i64 y.t, .int .i64 y.a, .int .i64 y.q] 52)) := (Below.refl _ _).alloc (Nat.le_refl _) _;have b7 : (wr.alloc (.cells #[.string y.p, .slice o1 y.xs.length c1, .slice o2 y.ys.length c2, .int .i64 y.st, .slice o3 y.fs.length c3, .string y.b, .int .i64 y.t, .int .i64 y.a, .int .i64 y.q] 52)).ownsRow w.heap.size 52 9 (.slice (some ⟨gz, 0, none⟩) acc.length pz) acc.length (acc.flatMap kpC) := aA8 HO.out d6 (fun g hg => aB0 HO.out hg)
    have b8 : ∀ j u, ([.string y.p, .slice o1 y.xs.length c1, .slice o2 y.ys.length c2, .int .i64 y.st, .slice o3 y.fs.length c3, .string y.b, .int .i64 y.t, .int .i64 y.a, .int .i64 y.q] : List Value)[j]? = some u → (wr.alloc (.cells #[.string y.p, .slice o1 y.xs.length c1, .slice o2 y.ys.length c2, .int .i64 y.st, .slice o3 y.fs.length c3, .string y.b, .int .i64 y.t, .int .i64 y.a, .int .i64 y.q] 52)).cell? ((⟨wr.heap.size, 0, none⟩ : Addr).add j) = some u := World.news_of_block (heap_alloc_new _ _);have b2 : acc.length + 1 ≤ maxLen := by unfold maxLen; omega
    have b3 : (acc.length + 1) * 136 ≤ 140737488355328 := by omega
    have a9 : w.heap.size ≤ (wr.alloc (.cells #[.string y.p, .slice o1 y.xs.length c1, .slice o2 y.ys.length c2, .int .i64 y.st, .slice o3 y.fs.length c3, .string y.b, .int .i64 y.t, .int .i64 y.a, .int .i64 y.q] 52)).heap.size := Nat.le_trans HB.out.size d6.size;have cq := bR7 HQ.out;go_wp2_with (at_builtin; refine wpList_append_lies _ rfl _ _ 28 rfl w.heap.size 52 i0 (.agg #[.string ⟨#[]⟩, .slice none 0 0, .slice none 0 0, .int .i64 0, .slice none 0 0, .string ⟨#[]⟩, .int .i64 0, .int .i64 0, .int .i64 0]) 9 136 underlying28 d9 e0 e4 e5 rfl (by decide) _ _ _ rfl b7 ⟨wr.heap.size, 0, none⟩ 1 1 [.string y.p, .slice o1 y.xs.length c1, .slice o2 y.ys.length c2, .int .i64 y.st, .slice o3 y.fs.length c3, .string y.b, .int .i64 y.t, .int .i64 y.a, .int .i64 y.q] rfl rfl b8 (by intro u hu; simp only [List.mem_cons, List.not_mem_nil, or_false] at hu; rcases hu with rfl | rfl | rfl | rfl | rfl | rfl | rfl | rfl | rfl <;> rfl) (by decide) b2 b3 a9 _ rfl ?_)
    intro g7 i2 w7 b9 a0 a6 b0;have i8 : Hid (Bw w w7) := (HB.out.trans (d6.mono HB.out.size)).grown a0 a9 (fun g hg => aC8 b7 hg)
    obtain ⟨a7, f7⟩ : ∃ a, a = acc ++ [((y, .slice o1 y.xs.length c1, .slice o2 y.ys.length c2, .slice o3 y.fs.length c3) : KpD × Value × Value × Value)] := ⟨_, rfl⟩;have i3 : Hid (acc.length + 1 = a7.length) := by show _ = _; rw [f7, List.length_append]; rfl
    have i9 : Hid (w7.ownsRow w.heap.size 52 9 (.slice (some ⟨g7, 0, none⟩) a7.length i2) a7.length (a7.flatMap kpC)) := by
     show World.ownsRow _ _ _ _ _ _ _
     rw [← i3.out, f7, List.flatMap_append]
     exact b9
    have j0 := hid f7;clear f7;have k0 : Hid (w7.heap[q1]? = some (.cells #[.string y.p, .slice o1 y.xs.length c1, .slice o2 y.ys.length c2, .int .i64 y.st, .slice o3 y.fs.length c3, .string y.b, .int .i64 y.t, .int .i64 y.a, .int .i64 y.q] 52)) := (a0.block q1 (Nat.lt_of_lt_of_le (blt HQ.out) d6.size) (fun e => c7.out (by injection e with e2; exact e2.symm))).trans ((d6.block q1 (blt HQ.out)).trans HQ.out)
    have j1 : Hid (g7 ≠ q1) := by
     have h1 := (blt HQ.out)
     rcases a6 with h | h
     ·intro e; exact c7.out ((Option.some.inj h).trans e)
     ·intro e; omega
    rw [i3.out];clear cq;clear b7 b9 b8 b2 b3 a9 d6 a0 a6 b0;go_wp2_with fail
    go_ret;have h1 := HI.out.last;rw [HT.out, ← j0.out] at h1;have j2 := i9.out;subst h1;exact ⟨g7, i2, rfl, j2, i8.out⟩
  have j3 : j < n := by omega
  have f8 : j < kv.length := by rw [d5.out]; exact j3
  obtain ⟨xz, f9⟩ := exq (kv[j]'f8);have g9 : Hid (kv.take (j + 1) = kv.take j ++ [xz]) := by show _ = _; rw [f9, List.take_append_getElem f8]
  obtain ⟨z, z1, z2, z3⟩ := xz;obtain ⟨p1, d1, p2, d2, p3, d3, e1, e2, e3⟩ := i7.out _ (by rw [f9]; exact List.getElem_mem f8 : (z, z1, z2, z3) ∈ kv);dsimp only at e1 e2 e3;subst e1 e2 e3;have j4 : Hid (kv[j]'f8 = ((z, .slice p1 z.xs.length d1, .slice p2 z.ys.length d2, .slice p3 z.fs.length d3) : KpD × Value × Value × Value)) := f9.symm;clear f9;obtain ⟨gV, eV, b6⟩ := aM0 (HV.out _ HB.out) j (by rw [d5.out]; omega) d5.out
  have d7 : Hid (∀ W, Bw w W → KpAt W gV j ((z, .slice p1 z.xs.length d1, .slice p2 z.ys.length d2, .slice p3 z.fs.length d3) : KpD × Value × Value × Value)) := fun W hb => by
   obtain ⟨g2, e2, h2⟩ := aM0 (HV.out _ hb) j (by rw [d5.out]; omega) d5.out
   rw [eV] at e2; injection e2 with e2; injection e2 with e2; subst e2; rw [j4.out] at h2; exact h2
  clear b6;subst eV;have b6 := d7.out _ HB.out;obtain ⟨y0, y1, y2, y3, y4, y5, y6, y7, y8⟩ := b6;have k1 := (bR7 HQ.out).2.2.2.2.2.2.2.2
  have i4 : (fun W : World => W.cell? ⟨gV, j * 9 + 8, none⟩ = some (.int .i64 z.q) ∧ W.cell? ⟨q1, 8, none⟩ = some (.int .i64 y.q)) wr.drew := by
   have h1 := d7.out _ (HB.out.trans ((Below.refl _ wr).drew.mono HB.out.size))
   exact ⟨h1.c8, (bR7 (aA6 HQ.out (Below.refl _ wr).drew)).2.2.2.2.2.2.2.2⟩
  go_upto_region 6 with fail
  refine wp_region_held_drew (S := fun W => W.cell? ⟨gV, j * 9 + 8, none⟩ = some (.int .i64 z.q) ∧ W.cell? ⟨q1, 8, none⟩ = some (.int .i64 y.q)) (by kernel_rfl) i4 (fun _ => ?_)
  clear i4;obtain ⟨w3, hX⟩ := exq wr.drew;have bw := bdr hX;rw [← hX];have b5 : Hid (Bw w w3) := HB.out.trans (bw.mono HB.out.size);have d4 := hown HO bw;have b1 := hblk HQ bw;clear bw hX HB HO HQ;have b6 := d7.out _ b5.out;have hS : w3.cell? ⟨gV, j * 9 + 8, none⟩ = some (.int .i64 z.q) ∧ w3.cell? ⟨q1, 8, none⟩ = some (.int .i64 y.q) := ⟨b6.c8, (bR7 b1.out).2.2.2.2.2.2.2.2⟩;clear b6;cases put with
  | true =>
   refine aB5 (i := 0) (v := .bool true) (some 15) rfl rfl (by kernel_rfl) (by kernel_rfl) (by kernel_rfl) (fun _ _ _ h => h) (Or.inl ⟨by rfl, by intro W _; go_simp⟩) hS ?_
   go_frame;refine aB5 (i := 1) (v := .bool false) (some 16) rfl rfl (by kernel_rfl) (by kernel_rfl) (by kernel_rfl) (fun _ _ _ h => h) (Or.inl ⟨by rfl, by intro W _; go_simp⟩) hS ?_
   go_frame;refine aB5 (i := 2) (v := .bool false) (some 17) rfl rfl (by kernel_rfl) (by kernel_rfl) (by kernel_rfl) (fun _ _ _ h => h) (Or.inl ⟨by rfl, by intro W _; go_simp⟩) hS ?_
   go_frame;refine aB5 (i := 3) (v := undef) (some 18) rfl rfl (by kernel_rfl) (by kernel_rfl) (by kernel_rfl) (fun _ _ _ h => h) (Or.inr ⟨by rfl, rfl⟩) hS ?_
   go_frame;refine aB5 (i := 4) (v := undef) (some 19) rfl rfl (by kernel_rfl) (by kernel_rfl) (by kernel_rfl) (fun _ _ _ h => h) (Or.inr ⟨by rfl, rfl⟩) hS ?_
   go_frame;refine aB5 (i := 5) (v := undef) (some 20) rfl rfl (by kernel_rfl) (by kernel_rfl) (by kernel_rfl) (fun _ _ _ h => h) (Or.inr ⟨by rfl, rfl⟩) hS ?_
   go_frame;refine aB5 (i := 6) (v := undef) (some 21) rfl rfl (by kernel_rfl) (by kernel_rfl) (by kernel_rfl) (fun _ _ _ h => h) (Or.inr ⟨by rfl, rfl⟩) hS ?_
   go_frame;refine aB5 (i := 7) (v := undef) (some 22) rfl rfl (by kernel_rfl) (by kernel_rfl) (by kernel_rfl) (fun _ _ _ h => h) (Or.inr ⟨by rfl, rfl⟩) hS ?_
   go_frame;refine aB5 (i := 8) (v := undef) (some 23) rfl rfl (by kernel_rfl) (by kernel_rfl) (by kernel_rfl) (fun _ _ _ h => h) (Or.inr ⟨by rfl, rfl⟩) hS ?_
   go_frame;refine aB5 (i := 9) (v := undef) (some 24) rfl rfl (by kernel_rfl) (by kernel_rfl) (by kernel_rfl) (fun _ _ _ h => h) (Or.inr ⟨by rfl, rfl⟩) hS ?_
   go_frame;refine aB5 (i := 10) (v := undef) (some 25) rfl rfl (by kernel_rfl) (by kernel_rfl) (by kernel_rfl) (fun _ _ _ h => h) (Or.inr ⟨by rfl, rfl⟩) hS ?_
   go_frame;refine aB5 (i := 11) (v := .bool false) (some 26) rfl rfl (by kernel_rfl) (by kernel_rfl) (by kernel_rfl) (fun _ _ _ h => h) (Or.inl ⟨by rfl, by intro W _; go_simp⟩) hS ?_
   go_frame;clear hS;refine wdn ?_;have a8 : Below w3.heap.size w3 (w3.alloc (.cells #[.string z.p, .slice p1 z.xs.length d1, .slice p2 z.ys.length d2, .int .i64 z.st, .slice p3 z.fs.length d3, .string z.b, .int .i64 z.t, .int .i64 z.a, .int .i64 z.q] 52)) := (Below.refl _ _).alloc (Nat.le_refl _) _;have a1 : (w3.alloc (.cells #[.string z.p, .slice p1 z.xs.length d1, .slice p2 z.ys.length d2, .int .i64 z.st, .slice p3 z.fs.length d3, .string z.b, .int .i64 z.t, .int .i64 z.a, .int .i64 z.q] 52)).ownsRow w.heap.size 52 9 (.slice (some ⟨gz, 0, none⟩) acc.length pz) acc.length (acc.flatMap kpC) := aA8 d4.out a8 (fun g hg => aB0 d4.out hg)
   have a2 : ∀ j u, ([.string z.p, .slice p1 z.xs.length d1, .slice p2 z.ys.length d2, .int .i64 z.st, .slice p3 z.fs.length d3, .string z.b, .int .i64 z.t, .int .i64 z.a, .int .i64 z.q] : List Value)[j]? = some u → (w3.alloc (.cells #[.string z.p, .slice p1 z.xs.length d1, .slice p2 z.ys.length d2, .int .i64 z.st, .slice p3 z.fs.length d3, .string z.b, .int .i64 z.t, .int .i64 z.a, .int .i64 z.q] 52)).cell? ((⟨w3.heap.size, 0, none⟩ : Addr).add j) = some u := World.news_of_block (heap_alloc_new _ _);have b2 : acc.length + 1 ≤ maxLen := by unfold maxLen; omega
   have b3 : (acc.length + 1) * 136 ≤ 140737488355328 := by omega
   have a9 : w.heap.size ≤ (w3.alloc (.cells #[.string z.p, .slice p1 z.xs.length d1, .slice p2 z.ys.length d2, .int .i64 z.st, .slice p3 z.fs.length d3, .string z.b, .int .i64 z.t, .int .i64 z.a, .int .i64 z.q] 52)).heap.size := Nat.le_trans b5.out.size a8.size;have b6 := d7.out w3 b5.out;obtain ⟨y0, y1, y2, y3, y4, y5, y6, y7, y8⟩ := b6;dsimp only at y0 y1 y2 y3 y4 y5 y6 y7 y8;go_wp2_with (at_builtin; refine wpList_append_lies _ rfl _ _ 28 rfl w.heap.size 52 i0 (.agg #[.string ⟨#[]⟩, .slice none 0 0, .slice none 0 0, .int .i64 0, .slice none 0 0, .string ⟨#[]⟩, .int .i64 0, .int .i64 0, .int .i64 0]) 9 136 underlying28 d9 e0 e4 e5 rfl (by decide) _ _ _ rfl a1 ⟨w3.heap.size, 0, none⟩ 1 1 [.string z.p, .slice p1 z.xs.length d1, .slice p2 z.ys.length d2, .int .i64 z.st, .slice p3 z.fs.length d3, .string z.b, .int .i64 z.t, .int .i64 z.a, .int .i64 z.q] rfl rfl a2 (by intro u hu; simp only [List.mem_cons, List.not_mem_nil, or_false] at hu; rcases hu with rfl | rfl | rfl | rfl | rfl | rfl | rfl | rfl | rfl <;> rfl) (by decide) b2 b3 a9 _ rfl ?_)
   intro g5 c9 w5 a3 a0 a6 b0;have e8 : Hid (Bw w w5) := (b5.out.trans (a8.mono b5.out.size)).grown a0 a9 (fun g hg => aC8 a1 hg)
   obtain ⟨a5, b4⟩ : ∃ a, a = acc ++ [((z, .slice p1 z.xs.length d1, .slice p2 z.ys.length d2, .slice p3 z.fs.length d3) : KpD × Value × Value × Value)] := ⟨_, rfl⟩;have d0 : Hid (acc.length + 1 = a5.length) := by show _ = _; rw [b4, List.length_append]; rfl
   have e9 : Hid (w5.ownsRow w.heap.size 52 9 (.slice (some ⟨g5, 0, none⟩) a5.length c9) a5.length (a5.flatMap kpC)) := by
    show World.ownsRow _ _ _ _ _ _ _
    rw [← d0.out, b4, List.flatMap_append]
    exact a3
   have f0 := hid b4;clear b4;have f1 : Hid (w5.heap[q1]? = some (.cells #[.string y.p, .slice o1 y.xs.length c1, .slice o2 y.ys.length c2, .int .i64 y.st, .slice o3 y.fs.length c3, .string y.b, .int .i64 y.t, .int .i64 y.a, .int .i64 y.q] 52)) := (a0.block q1 (Nat.lt_of_lt_of_le (blt b1.out) a8.size) (fun e => c7.out (by injection e with e2; exact e2.symm))).trans ((a8.block q1 (blt b1.out)).trans b1.out)
   have c0 : Hid (g5 ≠ q1) := by
    have h1 := (blt b1.out)
    rcases a6 with h | h
    ·intro e; exact c7.out ((Option.some.inj h).trans e)
    ·intro e; omega
   rw [d0.out];clear y0 y1 y2 y3 y4 y5 y6 y7 y8;clear a1 a3 a2 b2 b3 a9 a8 a0 a6 b0;go_wp2_with fail
   go_roundw
   case rel => exact ⟨j + 1, a5, true, g5, c9, by omega, by go_num, rfl, rfl, by show InsT _ _ _ _; rw [g9.out, f0.out]; exact HI.out.more, e9, f1, c0, e8⟩
   case measure => simp [intOf]; omega
  | false =>
   by_cases hc : y.q < z.q
   rotate_left
   ·have j5 : decide (y.q < z.q) = false := decide_eq_false hc;refine aB5 (i := 0) (v := .bool false) (some 15) rfl rfl (by kernel_rfl) (by kernel_rfl) (by kernel_rfl) (fun _ _ _ h => h) (Or.inl ⟨by rfl, by intro W _; go_simp⟩) hS ?_
    go_frame;refine aB5 (i := 1) (v := .bool true) (some 16) rfl rfl (by kernel_rfl) (by kernel_rfl) (by kernel_rfl) (fun _ _ _ h => h) (Or.inl ⟨by rfl, by intro W _; go_simp⟩) hS ?_
    go_frame;refine aB5 (i := 2) (v := .bool true) (some 17) rfl rfl (by kernel_rfl) (by kernel_rfl) (by kernel_rfl) (fun _ _ _ h => h) (Or.inl ⟨by rfl, by intro W _; go_simp⟩) hS ?_
    go_frame;refine aB5 (i := 3) (v := .slice (some ⟨gV, 0, none⟩) n cV) (some 18) rfl rfl (by kernel_rfl) (by kernel_rfl) (by kernel_rfl) (fun _ _ _ h => h) (Or.inl ⟨by rfl, by intro W _; go_simp⟩) hS ?_
    go_frame;refine aB5 (i := 4) (v := .int .i64 (j : Int)) (some 19) rfl rfl (by kernel_rfl) (by kernel_rfl) (by kernel_rfl) (fun _ _ _ h => h) (Or.inl ⟨by rfl, by intro W _; go_simp⟩) hS ?_
    go_frame;refine aB5 (i := 5) (v := .pointer (some ⟨gV, j * 9, none⟩)) (some 20) rfl rfl (by kernel_rfl) (by kernel_rfl) (by kernel_rfl) (fun _ _ _ h => h) (Or.inl ⟨by rfl, by intro W _; go_simp⟩) hS ?_
    go_frame;refine aB5 (i := 6) (v := .pointer (some ⟨gV, j * 9 + 8, none⟩)) (some 21) rfl rfl (by kernel_rfl) (by kernel_rfl) (by kernel_rfl) (fun _ _ _ h => h) (Or.inl ⟨by rfl, by intro W _; go_simp⟩) hS ?_
    go_frame;refine aB5 (i := 7) (v := .int .i64 z.q) (some 22) rfl rfl (by kernel_rfl) (by kernel_rfl) (by kernel_rfl) (fun _ _ _ h => h) (Or.inl ⟨by rfl, by intro W hW; obtain ⟨h0, h3⟩ := hW; go_simp⟩) hS ?_
    go_frame;refine aB5 (i := 8) (v := .pointer (some ⟨q1, 8, none⟩)) (some 23) rfl rfl (by kernel_rfl) (by kernel_rfl) (by kernel_rfl) (fun _ _ _ h => h) (Or.inl ⟨by rfl, by intro W _; go_simp⟩) hS ?_
    go_frame;refine aB5 (i := 9) (v := .int .i64 y.q) (some 24) rfl rfl (by kernel_rfl) (by kernel_rfl) (by kernel_rfl) (fun _ _ _ h => h) (Or.inl ⟨by rfl, by intro W hW; obtain ⟨h0, h3⟩ := hW; go_simp⟩) hS ?_
    go_frame;refine aB5 (i := 10) (v := .bool false) (some 25) rfl rfl (by kernel_rfl) (by kernel_rfl) (by kernel_rfl) (fun _ _ _ h => h) (Or.inl ⟨by rfl, by intro W _; go_simp⟩) hS ?_
    go_frame;refine aB5 (i := 11) (v := .bool false) (some 26) rfl rfl (by kernel_rfl) (by kernel_rfl) (by kernel_rfl) (fun _ _ _ h => h) (Or.inl ⟨by rfl, by intro W _; go_simp⟩) hS ?_
    go_frame;clear hS;refine wdn ?_;have a8 : Below w3.heap.size w3 (w3.alloc (.cells #[.string z.p, .slice p1 z.xs.length d1, .slice p2 z.ys.length d2, .int .i64 z.st, .slice p3 z.fs.length d3, .string z.b, .int .i64 z.t, .int .i64 z.a, .int .i64 z.q] 52)) := (Below.refl _ _).alloc (Nat.le_refl _) _;have a1 : (w3.alloc (.cells #[.string z.p, .slice p1 z.xs.length d1, .slice p2 z.ys.length d2, .int .i64 z.st, .slice p3 z.fs.length d3, .string z.b, .int .i64 z.t, .int .i64 z.a, .int .i64 z.q] 52)).ownsRow w.heap.size 52 9 (.slice (some ⟨gz, 0, none⟩) acc.length pz) acc.length (acc.flatMap kpC) := aA8 d4.out a8 (fun g hg => aB0 d4.out hg)
    have a2 : ∀ j u, ([.string z.p, .slice p1 z.xs.length d1, .slice p2 z.ys.length d2, .int .i64 z.st, .slice p3 z.fs.length d3, .string z.b, .int .i64 z.t, .int .i64 z.a, .int .i64 z.q] : List Value)[j]? = some u → (w3.alloc (.cells #[.string z.p, .slice p1 z.xs.length d1, .slice p2 z.ys.length d2, .int .i64 z.st, .slice p3 z.fs.length d3, .string z.b, .int .i64 z.t, .int .i64 z.a, .int .i64 z.q] 52)).cell? ((⟨w3.heap.size, 0, none⟩ : Addr).add j) = some u := World.news_of_block (heap_alloc_new _ _);have b2 : acc.length + 1 ≤ maxLen := by unfold maxLen; omega
    have b3 : (acc.length + 1) * 136 ≤ 140737488355328 := by omega
    have a9 : w.heap.size ≤ (w3.alloc (.cells #[.string z.p, .slice p1 z.xs.length d1, .slice p2 z.ys.length d2, .int .i64 z.st, .slice p3 z.fs.length d3, .string z.b, .int .i64 z.t, .int .i64 z.a, .int .i64 z.q] 52)).heap.size := Nat.le_trans b5.out.size a8.size;have b6 := d7.out w3 b5.out;obtain ⟨y0, y1, y2, y3, y4, y5, y6, y7, y8⟩ := b6;dsimp only at y0 y1 y2 y3 y4 y5 y6 y7 y8;go_wp2_with (at_builtin; refine wpList_append_lies _ rfl _ _ 28 rfl w.heap.size 52 i0 (.agg #[.string ⟨#[]⟩, .slice none 0 0, .slice none 0 0, .int .i64 0, .slice none 0 0, .string ⟨#[]⟩, .int .i64 0, .int .i64 0, .int .i64 0]) 9 136 underlying28 d9 e0 e4 e5 rfl (by decide) _ _ _ rfl a1 ⟨w3.heap.size, 0, none⟩ 1 1 [.string z.p, .slice p1 z.xs.length d1, .slice p2 z.ys.length d2, .int .i64 z.st, .slice p3 z.fs.length d3, .string z.b, .int .i64 z.t, .int .i64 z.a, .int .i64 z.q] rfl rfl a2 (by intro u hu; simp only [List.mem_cons, List.not_mem_nil, or_false] at hu; rcases hu with rfl | rfl | rfl | rfl | rfl | rfl | rfl | rfl | rfl <;> rfl) (by decide) b2 b3 a9 _ rfl ?_)
    intro g5 c9 w5 a3 a0 a6 b0;have e8 : Hid (Bw w w5) := (b5.out.trans (a8.mono b5.out.size)).grown a0 a9 (fun g hg => aC8 a1 hg)
    obtain ⟨a5, b4⟩ : ∃ a, a = acc ++ [((z, .slice p1 z.xs.length d1, .slice p2 z.ys.length d2, .slice p3 z.fs.length d3) : KpD × Value × Value × Value)] := ⟨_, rfl⟩;have d0 : Hid (acc.length + 1 = a5.length) := by show _ = _; rw [b4, List.length_append]; rfl
    have e9 : Hid (w5.ownsRow w.heap.size 52 9 (.slice (some ⟨g5, 0, none⟩) a5.length c9) a5.length (a5.flatMap kpC)) := by
     show World.ownsRow _ _ _ _ _ _ _
     rw [← d0.out, b4, List.flatMap_append]
     exact a3
    have f0 := hid b4;clear b4;have f1 : Hid (w5.heap[q1]? = some (.cells #[.string y.p, .slice o1 y.xs.length c1, .slice o2 y.ys.length c2, .int .i64 y.st, .slice o3 y.fs.length c3, .string y.b, .int .i64 y.t, .int .i64 y.a, .int .i64 y.q] 52)) := (a0.block q1 (Nat.lt_of_lt_of_le (blt b1.out) a8.size) (fun e => c7.out (by injection e with e2; exact e2.symm))).trans ((a8.block q1 (blt b1.out)).trans b1.out)
    have c0 : Hid (g5 ≠ q1) := by
     have h1 := (blt b1.out)
     rcases a6 with h | h
     ·intro e; exact c7.out ((Option.some.inj h).trans e)
     ·intro e; omega
    rw [d0.out];clear y0 y1 y2 y3 y4 y5 y6 y7 y8;clear a1 a3 a2 b2 b3 a9 a8 a0 a6 b0;go_wp2_with fail
    go_roundw
    case rel => exact ⟨j + 1, a5, false, g5, c9, by omega, by go_num, rfl, rfl, by show InsT _ _ _ _; rw [g9.out, f0.out]; exact HI.out.low (by show ¬ (y.q < z.q); omega), e9, f1, c0, e8⟩
    case measure => simp [intOf]; omega
   have j5 : decide (y.q < z.q) = true := decide_eq_true hc;refine aB5 (i := 0) (v := .bool false) (some 15) rfl rfl (by kernel_rfl) (by kernel_rfl) (by kernel_rfl) (fun _ _ _ h => h) (Or.inl ⟨by rfl, by intro W _; go_simp⟩) hS ?_
   go_frame;refine aB5 (i := 1) (v := .bool true) (some 16) rfl rfl (by kernel_rfl) (by kernel_rfl) (by kernel_rfl) (fun _ _ _ h => h) (Or.inl ⟨by rfl, by intro W _; go_simp⟩) hS ?_
   go_frame;refine aB5 (i := 2) (v := .bool true) (some 17) rfl rfl (by kernel_rfl) (by kernel_rfl) (by kernel_rfl) (fun _ _ _ h => h) (Or.inl ⟨by rfl, by intro W _; go_simp⟩) hS ?_
   go_frame;refine aB5 (i := 3) (v := .slice (some ⟨gV, 0, none⟩) n cV) (some 18) rfl rfl (by kernel_rfl) (by kernel_rfl) (by kernel_rfl) (fun _ _ _ h => h) (Or.inl ⟨by rfl, by intro W _; go_simp⟩) hS ?_
   go_frame;refine aB5 (i := 4) (v := .int .i64 (j : Int)) (some 19) rfl rfl (by kernel_rfl) (by kernel_rfl) (by kernel_rfl) (fun _ _ _ h => h) (Or.inl ⟨by rfl, by intro W _; go_simp⟩) hS ?_
   go_frame;refine aB5 (i := 5) (v := .pointer (some ⟨gV, j * 9, none⟩)) (some 20) rfl rfl (by kernel_rfl) (by kernel_rfl) (by kernel_rfl) (fun _ _ _ h => h) (Or.inl ⟨by rfl, by intro W _; go_simp⟩) hS ?_
   go_frame;refine aB5 (i := 6) (v := .pointer (some ⟨gV, j * 9 + 8, none⟩)) (some 21) rfl rfl (by kernel_rfl) (by kernel_rfl) (by kernel_rfl) (fun _ _ _ h => h) (Or.inl ⟨by rfl, by intro W _; go_simp⟩) hS ?_
   go_frame;refine aB5 (i := 7) (v := .int .i64 z.q) (some 22) rfl rfl (by kernel_rfl) (by kernel_rfl) (by kernel_rfl) (fun _ _ _ h => h) (Or.inl ⟨by rfl, by intro W hW; obtain ⟨h0, h3⟩ := hW; go_simp⟩) hS ?_
   go_frame;refine aB5 (i := 8) (v := .pointer (some ⟨q1, 8, none⟩)) (some 23) rfl rfl (by kernel_rfl) (by kernel_rfl) (by kernel_rfl) (fun _ _ _ h => h) (Or.inl ⟨by rfl, by intro W _; go_simp⟩) hS ?_
   go_frame;refine aB5 (i := 9) (v := .int .i64 y.q) (some 24) rfl rfl (by kernel_rfl) (by kernel_rfl) (by kernel_rfl) (fun _ _ _ h => h) (Or.inl ⟨by rfl, by intro W hW; obtain ⟨h0, h3⟩ := hW; go_simp⟩) hS ?_
   go_frame;refine aB5 (i := 10) (v := .bool true) (some 25) rfl rfl (by kernel_rfl) (by kernel_rfl) (by kernel_rfl) (fun _ _ _ h => h) (Or.inl ⟨by rfl, by intro W _; go_simp⟩) hS ?_
   go_frame;refine aB5 (i := 11) (v := .bool true) (some 26) rfl rfl (by kernel_rfl) (by kernel_rfl) (by kernel_rfl) (fun _ _ _ h => h) (Or.inl ⟨by rfl, by intro W _; go_simp⟩) hS ?_
   go_frame;clear hS;refine wdn ?_;have d8 : Below w3.heap.size w3 (w3.alloc (.cells #[.string y.p, .slice o1 y.xs.length c1, .slice o2 y.ys.length c2, .int .i64 y.st, .slice o3 y.fs.length c3, .string y.b, .int .i64 y.t, .int .i64 y.a, .int .i64 y.q] 52)) := (Below.refl _ _).alloc (Nat.le_refl _) _;have c4 : (w3.alloc (.cells #[.string y.p, .slice o1 y.xs.length c1, .slice o2 y.ys.length c2, .int .i64 y.st, .slice o3 y.fs.length c3, .string y.b, .int .i64 y.t, .int .i64 y.a, .int .i64 y.q] 52)).ownsRow w.heap.size 52 9 (.slice (some ⟨gz, 0, none⟩) acc.length pz) acc.length (acc.flatMap kpC) := aA8 d4.out d8 (fun g hg => aB0 d4.out hg)
   have c5 : ∀ j u, ([.string y.p, .slice o1 y.xs.length c1, .slice o2 y.ys.length c2, .int .i64 y.st, .slice o3 y.fs.length c3, .string y.b, .int .i64 y.t, .int .i64 y.a, .int .i64 y.q] : List Value)[j]? = some u → (w3.alloc (.cells #[.string y.p, .slice o1 y.xs.length c1, .slice o2 y.ys.length c2, .int .i64 y.st, .slice o3 y.fs.length c3, .string y.b, .int .i64 y.t, .int .i64 y.a, .int .i64 y.q] 52)).cell? ((⟨w3.heap.size, 0, none⟩ : Addr).add j) = some u := World.news_of_block (heap_alloc_new _ _);have b2 : acc.length + 1 ≤ maxLen := by unfold maxLen; omega
   have b3 : (acc.length + 1) * 136 ≤ 140737488355328 := by omega
   have a9 : w.heap.size ≤ (w3.alloc (.cells #[.string y.p, .slice o1 y.xs.length c1, .slice o2 y.ys.length c2, .int .i64 y.st, .slice o3 y.fs.length c3, .string y.b, .int .i64 y.t, .int .i64 y.a, .int .i64 y.q] 52)).heap.size := Nat.le_trans b5.out.size d8.size;have cq := bR7 b1.out;go_wp2_with (at_builtin; refine wpList_append_lies _ rfl _ _ 28 rfl w.heap.size 52 i0 (.agg #[.string ⟨#[]⟩, .slice none 0 0, .slice none 0 0, .int .i64 0, .slice none 0 0, .string ⟨#[]⟩, .int .i64 0, .int .i64 0, .int .i64 0]) 9 136 underlying28 d9 e0 e4 e5 rfl (by decide) _ _ _ rfl c4 ⟨w3.heap.size, 0, none⟩ 1 1 [.string y.p, .slice o1 y.xs.length c1, .slice o2 y.ys.length c2, .int .i64 y.st, .slice o3 y.fs.length c3, .string y.b, .int .i64 y.t, .int .i64 y.a, .int .i64 y.q] rfl rfl c5 (by intro u hu; simp only [List.mem_cons, List.not_mem_nil, or_false] at hu; rcases hu with rfl | rfl | rfl | rfl | rfl | rfl | rfl | rfl | rfl <;> rfl) (by decide) b2 b3 a9 _ rfl ?_)
   intro g4 i5 w4 c6 a0 a6 b0;have g0 : Hid (Bw w w4) := (b5.out.trans (d8.mono b5.out.size)).grown a0 a9 (fun g hg => aC8 c4 hg)
   obtain ⟨a4, g1⟩ : ∃ a, a = acc ++ [((y, .slice o1 y.xs.length c1, .slice o2 y.ys.length c2, .slice o3 y.fs.length c3) : KpD × Value × Value × Value)] := ⟨_, rfl⟩;have h4 : Hid (acc.length + 1 = a4.length) := by show _ = _; rw [g1, List.length_append]; rfl
   have i6 : Hid (w4.ownsRow w.heap.size 52 9 (.slice (some ⟨g4, 0, none⟩) a4.length i5) a4.length (a4.flatMap kpC)) := by
    show World.ownsRow _ _ _ _ _ _ _
    rw [← h4.out, g1, List.flatMap_append]
    exact c6
   have j6 := hid g1;clear g1;have g3 : Hid (w4.heap[q1]? = some (.cells #[.string y.p, .slice o1 y.xs.length c1, .slice o2 y.ys.length c2, .int .i64 y.st, .slice o3 y.fs.length c3, .string y.b, .int .i64 y.t, .int .i64 y.a, .int .i64 y.q] 52)) := (a0.block q1 (Nat.lt_of_lt_of_le (blt b1.out) d8.size) (fun e => c7.out (by injection e with e2; exact e2.symm))).trans ((d8.block q1 (blt b1.out)).trans b1.out)
   have f2 : Hid (g4 ≠ q1) := by
    have h1 := (blt b1.out)
    rcases a6 with h | h
    ·intro e; exact c7.out ((Option.some.inj h).trans e)
    ·intro e; omega
   rw [h4.out];clear cq d4 b5 b1;have j7 : a4.length ≤ 1048578 := by have h1 := h4.out; omega
   clear c4 c6 c5 b2 b3 a9 d8 a0 a6 b0;have a8 : Below w4.heap.size w4 (w4.alloc (.cells #[.string z.p, .slice p1 z.xs.length d1, .slice p2 z.ys.length d2, .int .i64 z.st, .slice p3 z.fs.length d3, .string z.b, .int .i64 z.t, .int .i64 z.a, .int .i64 z.q] 52)) := (Below.refl _ _).alloc (Nat.le_refl _) _;have a1 : (w4.alloc (.cells #[.string z.p, .slice p1 z.xs.length d1, .slice p2 z.ys.length d2, .int .i64 z.st, .slice p3 z.fs.length d3, .string z.b, .int .i64 z.t, .int .i64 z.a, .int .i64 z.q] 52)).ownsRow w.heap.size 52 9 (.slice (some ⟨g4, 0, none⟩) a4.length i5) a4.length (a4.flatMap kpC) := aA8 i6.out a8 (fun g hg => aB0 i6.out hg)
   have a2 : ∀ j u, ([.string z.p, .slice p1 z.xs.length d1, .slice p2 z.ys.length d2, .int .i64 z.st, .slice p3 z.fs.length d3, .string z.b, .int .i64 z.t, .int .i64 z.a, .int .i64 z.q] : List Value)[j]? = some u → (w4.alloc (.cells #[.string z.p, .slice p1 z.xs.length d1, .slice p2 z.ys.length d2, .int .i64 z.st, .slice p3 z.fs.length d3, .string z.b, .int .i64 z.t, .int .i64 z.a, .int .i64 z.q] 52)).cell? ((⟨w4.heap.size, 0, none⟩ : Addr).add j) = some u := World.news_of_block (heap_alloc_new _ _);have b2 : a4.length + 1 ≤ maxLen := by unfold maxLen; omega
   have b3 : (a4.length + 1) * 136 ≤ 140737488355328 := by omega
   have a9 : w.heap.size ≤ (w4.alloc (.cells #[.string z.p, .slice p1 z.xs.length d1, .slice p2 z.ys.length d2, .int .i64 z.st, .slice p3 z.fs.length d3, .string z.b, .int .i64 z.t, .int .i64 z.a, .int .i64 z.q] 52)).heap.size := Nat.le_trans g0.out.size a8.size;have b6 := d7.out w4 g0.out;obtain ⟨y0, y1, y2, y3, y4, y5, y6, y7, y8⟩ := b6;dsimp only at y0 y1 y2 y3 y4 y5 y6 y7 y8;go_wp2_with (at_builtin; refine wpList_append_lies _ rfl _ _ 28 rfl w.heap.size 52 i0 (.agg #[.string ⟨#[]⟩, .slice none 0 0, .slice none 0 0, .int .i64 0, .slice none 0 0, .string ⟨#[]⟩, .int .i64 0, .int .i64 0, .int .i64 0]) 9 136 underlying28 d9 e0 e4 e5 rfl (by decide) _ _ _ rfl a1 ⟨w4.heap.size, 0, none⟩ 1 1 [.string z.p, .slice p1 z.xs.length d1, .slice p2 z.ys.length d2, .int .i64 z.st, .slice p3 z.fs.length d3, .string z.b, .int .i64 z.t, .int .i64 z.a, .int .i64 z.q] rfl rfl a2 (by intro u hu; simp only [List.mem_cons, List.not_mem_nil, or_false] at hu; rcases hu with rfl | rfl | rfl | rfl | rfl | rfl | rfl | rfl | rfl <;> rfl) (by decide) b2 b3 a9 _ rfl ?_)
   intro g5 c9 w5 a3 a0 a6 b0;have e8 : Hid (Bw w w5) := (g0.out.trans (a8.mono g0.out.size)).grown a0 a9 (fun g hg => aC8 a1 hg)
   obtain ⟨a5, b4⟩ : ∃ a, a = a4 ++ [((z, .slice p1 z.xs.length d1, .slice p2 z.ys.length d2, .slice p3 z.fs.length d3) : KpD × Value × Value × Value)] := ⟨_, rfl⟩;have d0 : Hid (a4.length + 1 = a5.length) := by show _ = _; rw [b4, List.length_append]; rfl
   have e9 : Hid (w5.ownsRow w.heap.size 52 9 (.slice (some ⟨g5, 0, none⟩) a5.length c9) a5.length (a5.flatMap kpC)) := by
    show World.ownsRow _ _ _ _ _ _ _
    rw [← d0.out, b4, List.flatMap_append]
    exact a3
   have f0 := hid b4;clear b4;have f1 : Hid (w5.heap[q1]? = some (.cells #[.string y.p, .slice o1 y.xs.length c1, .slice o2 y.ys.length c2, .int .i64 y.st, .slice o3 y.fs.length c3, .string y.b, .int .i64 y.t, .int .i64 y.a, .int .i64 y.q] 52)) := (a0.block q1 (Nat.lt_of_lt_of_le (blt g3.out) a8.size) (fun e => f2.out (by injection e with e2; exact e2.symm))).trans ((a8.block q1 (blt g3.out)).trans g3.out)
   have c0 : Hid (g5 ≠ q1) := by
    have h1 := (blt g3.out)
    rcases a6 with h | h
    ·intro e; exact f2.out ((Option.some.inj h).trans e)
    ·intro e; omega
   rw [d0.out];clear y0 y1 y2 y3 y4 y5 y6 y7 y8;clear a1 a3 a2 b2 b3 a9 a8 a0 a6 b0;go_wp2_with fail
   go_roundw
   case rel => exact ⟨j + 1, a5, true, g5, c9, by omega, by go_num, rfl, rfl, by show InsT _ _ _ _; rw [g9.out, f0.out, j6.out]; exact HI.out.put hc, e9, f1, c0, e8⟩
   case measure => simp [intOf]; omega
def aO7 (s : Tx) (x : Int) (k : KpD) : Prop := ∃ b, aL9 s k.q b ∧ aG2 b k.p k.ys k.st k.fs k.b k.t ∧ k.xs = aC1 k.fs ∧ k.a = x ∧ k.q < 100000
theorem aO7.uniq {s : ByteArray} {x : Int} {k k' : KpD} (h : aO7 s x k) (h' : aO7 s x k') : k = k' := by
 obtain ⟨b, h1, h2, h3, h4, _⟩ := h;obtain ⟨b', g1, g2, g3, g4, _⟩ := h';obtain ⟨e1, e2⟩ := h1.uniq g1;subst e2;obtain ⟨f1, f2, f3, f4, f5, f6⟩ := h2.uniq g2;have hx : k.xs = k'.xs := by rw [h3, g3, f4]
 have ha : k.a = k'.a := h4.trans g4.symm;clear h1 h2 h3 h4 g1 g2 g3 g4;cases k
 cases k'
 dsimp only at e1 f1 f2 f3 f4 f5 f6 hx ha;subst e1 f1 f2 f3 f4 f5 f6 hx ha;rfl
def insD (k : KpD) : List KpD → List KpD
 | [] => [k]
 | y :: l => if k.q < y.q then k :: y :: l else y :: insD k l
theorem cT0 (x : KpD × Value × Value × Value) : ∀ l : Ks, (insK x l).map (·.1) = insD x.1 (l.map (·.1))
 | [] => rfl
 | y :: l => by
  rw [insK, List.map_cons, insD]
  split
  · rfl
  · rw [List.map_cons, cT0 x l]
def aD6 (cs : Ts) (ws : List (Int × ByteArray)) (bl : Bs) (m0 : Int) : Nat → Int → List KpD → Prop
 | 0, m, l => m = m0 ∧ l = []
 | n + 1, m, l => ∃ m' l', aD6 cs ws bl m0 n m' l' ∧ ((∃ k, aO7 (aL5 cs ws ((5 + n : Nat) : Int)) ((5 + n : Nat) : Int) k ∧ m = max m' k.q ∧ ((AnyK bl k ∧ l = l') ∨ (¬ AnyK bl k ∧ l = insD k l'))) ∨ ((∀ k, ¬ aO7 (aL5 cs ws ((5 + n : Nat) : Int)) ((5 + n : Nat) : Int) k) ∧ m = m' ∧ l = l'))
theorem aD6.uniq {cs : Ts} {ws : List (Int × ByteArray)} {bl : Bs} {m0 : Int} : ∀ {n : Nat} {m m' : Int} {l l' : List KpD}, aD6 cs ws bl m0 n m l → aD6 cs ws bl m0 n m' l' → m = m' ∧ l = l'
 | 0, _, _, _, _, h, h' => ⟨h.1.trans h'.1.symm, h.2.trans h'.2.symm⟩
 | n + 1, _, _, _, _, h, h' => by
  obtain ⟨a, b, h1, h2⟩ := h
  obtain ⟨a', b', g1, g2⟩ := h'
  obtain ⟨e1, e2⟩ := aD6.uniq h1 g1
  subst e1 e2
  rcases h2 with ⟨k, k1, rfl, k3⟩ | ⟨k1, rfl, rfl⟩
  ·rcases g2 with ⟨z, z1, rfl, z3⟩ | ⟨z1, _⟩
   ·have e := aO7.uniq k1 z1
    subst e
    refine ⟨rfl, ?_⟩
    rcases k3 with ⟨u, rfl⟩ | ⟨u, rfl⟩
    ·rcases z3 with ⟨_, rfl⟩ | ⟨v, _⟩
     · rfl
     · exact absurd u v
    ·rcases z3 with ⟨v, _⟩ | ⟨_, rfl⟩
     · exact absurd v u
     · rfl
   · exact absurd k1 (z1 k)
  ·rcases g2 with ⟨z, z1, _⟩ | ⟨_, rfl, rfl⟩
   · exact absurd z1 (k1 z)
   · exact ⟨rfl, rfl⟩
theorem aD6.len {cs : Ts} {ws : List (Int × ByteArray)} {bl : Bs} {m0 : Int} : ∀ {n : Nat} {m : Int} {l : List KpD}, aD6 cs ws bl m0 n m l → l.length ≤ n
 | 0, _, _, h => by rw [h.2]; exact Nat.le_refl _
 | n + 1, _, _, h => by
  obtain ⟨a, b, h1, h2⟩ := h
  have h3 := aD6.len h1
  have hi : ∀ (k : KpD) (l : List KpD), (insD k l).length = l.length + 1 := fun k l => by
   induction l with
   | nil => rfl
   | cons y l ih =>
    rw [insD]
    split
    · rfl
    · rw [List.length_cons, ih]; rfl
  rcases h2 with ⟨k, _, _, ⟨_, rfl⟩ | ⟨_, rfl⟩⟩ | ⟨_, _, rfl⟩
  · omega
  · rw [hi]; omega
  · omega
theorem bM9 {k z : KpD} : ∀ {l : List KpD}, z ∈ insD k l → z = k ∨ z ∈ l
 | [], h => .inl (List.mem_singleton.1 h)
 | y :: l, h => by
  rw [insD] at h
  split at h
  ·rcases List.mem_cons.1 h with h | h
   · exact .inl h
   · exact .inr h
  ·rcases List.mem_cons.1 h with h | h
   · exact .inr (by rw [h]; exact List.mem_cons_self)
   ·rcases bM9 h with h | h
    · exact .inl h
    · exact .inr (List.mem_cons_of_mem _ h)
theorem aD6.cells {cs : Ts} {ws : List (Int × ByteArray)} {bl : Bs} {m0 : Int} : ∀ {n : Nat} {m : Int} {l : List KpD}, aD6 cs ws bl m0 n m l → ∀ k ∈ l, 5 ≤ k.a ∧ k.a < 5 + (n : Int)
 | 0, _, _, h, k, hk => by rw [h.2] at hk; cases hk
 | n + 1, _, _, h, k, hk => by
  obtain ⟨a, b, h1, h2⟩ := h
  have key : ∀ z ∈ b, 5 ≤ z.a ∧ z.a < 5 + ((n + 1 : Nat) : Int) := fun z hz => by have h3 := aD6.cells h1 z hz; omega
  rcases h2 with ⟨z, hz, _, ⟨_, rfl⟩ | ⟨_, rfl⟩⟩ | ⟨_, _, rfl⟩
  · exact key k hk
  ·rcases bM9 hk with rfl | hk
   ·obtain ⟨_, _, _, _, h4, _⟩ := hz
    omega
   · exact key k hk
  · exact key k hk
def dJ5 (k o : KpD) : Bool := decide (k.p = o.p) && (decide (k.xs = o.xs) && decide (k.ys = o.ys))
theorem dE1 {k o : KpD} : dJ5 k o = true ↔ aZ3 k o := by simp [dJ5, aZ3]
def aM5 : List KpD → List KpD
 | [] => []
 | k :: l => if l.any (fun z => decide (z.q = k.q) || dJ5 z k) then aM5 l else k :: aM5 l
def bL6 (l : List KpD) : Int := match l.getLast? with
 | none => 5
 | some k => aN7 k.a
theorem aH3.uniq {cs : Ts} {ws : List (Int × ByteArray)} {l l' : Bs} {m m' : Int} (h : aH3 cs ws l m) (h' : aH3 cs ws l' m') (he : aV0 cs ws l.length) (he' : aV0 cs ws l'.length) (hl : l.length ≤ 5) (hl' : l'.length ≤ 5) : l = l' ∧ m = m' := by
 obtain ⟨qs, h1, h2, h3⟩ := h;obtain ⟨a5, g1, g2, g3⟩ := h'
 have a6 : ∀ i, i < l.length → i < l'.length → qs[i]? = a5[i]? ∧ l[i]? = l'[i]? := fun i hi a7 => by
  obtain ⟨q, b, x, a1, a2, a3, a4⟩ := h3 i hi
  obtain ⟨q', b', x', c1, c2, c3, c4⟩ := g3 i a7
  obtain ⟨e1, e2⟩ := a3.uniq c3
  subst e2
  obtain ⟨f1, f2, f3, f4⟩ := a4.uniq c4
  refine ⟨by rw [a1, c1, e1], ?_⟩
  rw [a2, c2]
  obtain ⟨x1, x2, x3, x4⟩ := x
  obtain ⟨y1, y2, y3, y4⟩ := x'
  dsimp only at f1 f2 f3 f4
  rw [f1, f2, f3, f4]
 have a0 : ∀ {n : Nat} {r : Bs} {rs : List Int}, aV0 cs ws n → r.length ≤ 5 → (∀ i, i < r.length → ∃ (q : Int) (b : Tx) (x : Int × ByteArray × ByteArray × Int), rs[i]? = some q ∧ r[i]? = some x ∧ aL9 (aL5 cs ws (i : Int)) q b ∧ aI8 b x.1 x.2.1 x.2.2.1 x.2.2.2) → r.length ≤ n := fun he hr hg => by
  rcases he with rfl | he
  ·exact hr
  ·refine Nat.le_of_not_lt fun a8 => ?_
   obtain ⟨q, b, x, _, _, r3, r4⟩ := hg _ a8
   exact he _ _ _ _ _ _ r3 r4
 have e : l.length = l'.length := Nat.le_antisymm (a0 he' hl h3) (a0 he hl' g3)
 have e1 : l = l' := List.ext_getElem? fun i => by
  by_cases hi : i < l.length
  ·exact (a6 i hi (by omega)).2
  ·rw [List.getElem?_eq_none (by omega), List.getElem?_eq_none (by omega)]
 have e2 : qs = a5 := List.ext_getElem? fun i => by
  by_cases hi : i < l.length
  ·exact (a6 i hi (by omega)).1
  ·rw [List.getElem?_eq_none (by omega), List.getElem?_eq_none (by omega)]
 exact ⟨e1, by rw [← h2, ← g2, e2]⟩
def aZ8 (cs : Ts) (ws : List (Int × ByteArray)) (s : ShD) : Prop := ∃ (bl : Bs) (m0 m : Int) (l : List KpD), bl.length ≤ 5 ∧ aH3 cs ws bl m0 ∧ aV0 cs ws bl.length ∧ aD6 cs ws bl m0 15 m l ∧ s = ⟨cs, ws, aM5 l, bl, bL6 (aM5 l), m + 1⟩
theorem aZ8.uniq {cs : Ts} {ws : List (Int × ByteArray)} {s s' : ShD} (h : aZ8 cs ws s) (h' : aZ8 cs ws s') : s = s' := by
 obtain ⟨bl, m0, m, l, h1, h2, h3, h4, rfl⟩ := h;obtain ⟨a0, a1, m', l', g1, g2, g3, g4, rfl⟩ := h';obtain ⟨e1, e2⟩ := h2.uniq g2 h3 g3 h1 g1;subst e1 e2;obtain ⟨e3, e4⟩ := h4.uniq g4;rw [e3, e4]
end Go.Proofs.YtiobfnpmidjijaaGreatDoor
namespace Go.Proofs.YtiobfnpmidjijaaGreatDoor
open Go.Proofs.Tryz
def aH6 {α : Type} (key : α → Int) (x : α) : List α → List α
 | [] => [x]
 | y :: l => if key x < key y then x :: y :: l else y :: aH6 key x l
def aR4 {α : Type} (key : α → Int) (l : List α) : Prop := l.Pairwise (fun x y => key x ≤ key y)
theorem aT5 {α : Type} (key : α → Int) (x : α) : ∀ l : List α, (aH6 key x l).Perm (x :: l)
 | [] => List.Perm.refl _
 | y :: l => by
  rw [aH6]
  split
  · exact List.Perm.refl _
  · exact ((aT5 key x l).cons y).trans (List.Perm.swap x y l)
theorem aY0 {α : Type} {key : α → Int} {x : α} : ∀ {l : List α}, aR4 key l → aR4 key (aH6 key x l)
 | [], _ => List.pairwise_singleton _ _
 | y :: l, h => by
  obtain ⟨h1, h2⟩ := List.pairwise_cons.1 h
  rw [aH6]
  split
  ·rename_i e
   refine List.pairwise_cons.2 ⟨fun z hz => ?_, h⟩
   rcases List.mem_cons.1 hz with rfl | hz
   · exact Int.le_of_lt e
   · exact Int.le_trans (Int.le_of_lt e) (h1 z hz)
  ·rename_i e
   refine List.pairwise_cons.2 ⟨fun z hz => ?_, aY0 h2⟩
   rcases List.mem_cons.1 ((aT5 key x l).mem_iff.1 hz) with rfl | hz
   · exact Int.not_lt.1 e
   · exact h1 z hz
theorem cW6 {α : Type} {key : α → Int} {x : α} : ∀ {l : List α}, (∀ y ∈ l, key x < key y) → aH6 key x l = x :: l
 | [], _ => rfl
 | y :: l, h => by rw [aH6, if_pos (h y List.mem_cons_self)]
theorem bR8 {α : Type} {key : α → Int} {x : α} : ∀ {l : List α}, (∀ y ∈ l, ¬ key x < key y) → aH6 key x l = l ++ [x]
 | [], _ => rfl
 | y :: l, h => by rw [aH6, if_neg (h y List.mem_cons_self), bR8 (fun z hz => h z (List.mem_cons_of_mem _ hz))]; rfl
theorem bY8 {α : Type} {key : α → Int} {x y : α} (hy : key x < key y) : ∀ p : List α, aH6 key x (p ++ [y]) = aH6 key x p ++ [y]
 | [] => by simp [aH6, hy]
 | z :: p => by
  rw [List.cons_append, aH6, aH6]
  split
  · rfl
  · rw [bY8 hy p]; rfl
theorem bG4 {α : Type} {key : α → Int} {x : α} (f : α → Bool) : ∀ {l : List α}, aR4 key l → (aH6 key x l).filter f = if f x = true then aH6 key x (l.filter f) else l.filter f
 | [], _ => by
  rw [aH6]
  by_cases e : f x = true
  · rw [if_pos e, List.filter_cons_of_pos e]; rfl
  · rw [if_neg e, List.filter_cons_of_neg e]
 | y :: l, h => by
  obtain ⟨h1, h2⟩ := List.pairwise_cons.1 h
  rw [aH6]
  by_cases e : key x < key y
  ·rw [if_pos e]
   by_cases ex : f x = true
   ·rw [if_pos ex, List.filter_cons_of_pos ex, cW6]
    intro z hz
    rcases List.mem_cons.1 (List.mem_filter.1 hz).1 with rfl | hz
    · exact e
    · exact Int.lt_of_lt_of_le e (h1 z hz)
   · rw [if_neg ex, List.filter_cons_of_neg ex]
  ·rw [if_neg e]
   have ih := bG4 (x := x) f h2
   by_cases ey : f y = true
   ·rw [List.filter_cons_of_pos ey, List.filter_cons_of_pos ey, ih]
    split
    · rw [aH6, if_neg e]
    · rfl
   · rw [List.filter_cons_of_neg ey, List.filter_cons_of_neg ey, ih]
theorem bY9 {α β : Type} {key : α → Int} {key2 : β → Int} {f : α → β} (h : ∀ x, key2 (f x) = key x) (x : α) : ∀ l : List α, (aH6 key x l).map f = aH6 key2 (f x) (l.map f)
 | [] => rfl
 | y :: l => by
  rw [aH6, List.map_cons, aH6, h x, h y]
  split
  · rfl
  · rw [List.map_cons, bY9 h x l]
def aG3 {α : Type} (key : α → Int) (l : List α) : List α := l.foldl (fun acc x => aH6 key x acc) []
theorem aN3 {α : Type} (key : α → Int) (l : List α) (x : α) : aG3 key (l ++ [x]) = aH6 key x (aG3 key l) := by
 unfold aG3;rw [List.foldl_append];rfl
theorem bB8 {α : Type} {P : List α → Prop} (h0 : P []) (h1 : ∀ l x, P l → P (l ++ [x])) (l : List α) : P l := by
 have a0 : ∀ n (l : List α), l.length = n → P l := by
  intro n
  induction n with
  | zero => intro l hl; rw [List.eq_nil_of_length_eq_zero hl]; exact h0
  | succ n ih =>
   intro l hl
   have a1 : l ≠ [] := by intro e; rw [e] at hl; simp at hl
   rw [← List.dropLast_concat_getLast a1]
   exact h1 _ _ (ih _ (by rw [List.length_dropLast]; omega))
 exact a0 _ l rfl
theorem bG5 {α : Type} (key : α → Int) (l : List α) : aR4 key (aG3 key l) := by
 refine bB8 (P := fun l => aR4 key (aG3 key l)) List.Pairwise.nil (fun l x h => ?_) l
 show aR4 key (aG3 key (l ++ [x]))
 rw [aN3];exact aY0 h
theorem aT6 {α : Type} (key : α → Int) (l : List α) : (aG3 key l).Perm l := by
 refine bB8 (P := fun l => (aG3 key l).Perm l) (List.Perm.refl _) (fun l x h => ?_) l
 show (aG3 key (l ++ [x])).Perm _
 rw [aN3];exact (aT5 key x _).trans ((h.cons x).trans (List.perm_append_comm (l₁ := [x])))
theorem cE0 {α : Type} (key : α → Int) (f : α → Bool) (l : List α) : (aG3 key l).filter f = aG3 key (l.filter f) := by
 refine bB8 (P := fun l => (aG3 key l).filter f = aG3 key (l.filter f)) rfl (fun l x h => ?_) l
 show (aG3 key (l ++ [x])).filter f = aG3 key ((l ++ [x]).filter f)
 rw [aN3, bG4 f (bG5 key l), List.filter_append, h];by_cases e : f x = true
 ·rw [if_pos e, List.filter_cons_of_pos e, List.filter_nil, aN3]
 rw [if_neg e, List.filter_cons_of_neg e, List.filter_nil, List.append_nil]
theorem bZ0 {α β : Type} {key : α → Int} {key2 : β → Int} {f : α → β} (h : ∀ x, key2 (f x) = key x) (l : List α) : (aG3 key l).map f = aG3 key2 (l.map f) := by
 refine bB8 (P := fun l => (aG3 key l).map f = aG3 key2 (l.map f)) rfl (fun l x ih => ?_) l
 show (aG3 key (l ++ [x])).map f = aG3 key2 ((l ++ [x]).map f)
 rw [aN3, bY9 h, ih, List.map_append, List.map_cons, List.map_nil, aN3]
section
variable {α : Type} [Inhabited α] {lt : α → α → Bool} {key : α → Int}
theorem cE1 {d : Array α} {p s : List α} {x : α} (h : d.toList = p ++ x :: s) : d[p.length]! = x := by
 have hl : d.size = p.length + (s.length + 1) := by rw [← Array.length_toList, h]; simp
 have a0 : p.length < d.size := by omega
 rw [getElem!_pos d p.length a0, ← Array.getElem_toList a0];simp [h]
theorem dJ6 {d : Array α} {p s : List α} {x y : α} (h : d.toList = p ++ y :: x :: s) : (Go.Sort.swp d (p.length + 1) p.length).toList = p ++ x :: y :: s := by
 have hl : d.size = p.length + (s.length + 2) := by rw [← Array.length_toList, h]; simp
 have ey : d[p.length]! = y := cE1 (s := x :: s) h
 have ex : d[p.length + 1]! = x := by
  have h1 := cE1 (p := p ++ [y]) (s := s) (x := x) (d := d) (by rw [h]; simp)
  simpa using h1
 unfold Go.Sort.swp;apply List.ext_getElem?
 intro i;simp only [ex, ey, Array.getElem?_toList]
 by_cases e1 : i = p.length
 ·subst e1;simp [hl]
 by_cases e2 : i = p.length + 1
 ·subst e2;simp [hl]
 have h2 : d[i]? = (p ++ y :: x :: s)[i]? := by rw [← Array.getElem?_toList, h]
 rw [Array.getElem?_setIfInBounds_ne (by omega), Array.getElem?_setIfInBounds_ne (by omega), h2];by_cases e3 : i < p.length
 ·rw [List.getElem?_append_left e3, List.getElem?_append_left e3]
 rw [List.getElem?_append_right (by omega), List.getElem?_append_right (by omega)];obtain ⟨k, hk⟩ : ∃ k, i - p.length = k + 2 := ⟨i - p.length - 2, by omega⟩;rw [hk];rfl
theorem bG6 (hlt : ∀ x y, lt x y = decide (key x < key y)) : ∀ (j : Nat) (d : Array α) (p s : List α) (x : α), d.toList = p ++ x :: s → p.length = j → aR4 key p → (Go.Sort.insInner lt 0 j d).toList = aH6 key x p ++ s
 | 0, d, p, s, x, h, hp, _ => by
  rw [List.eq_nil_of_length_eq_zero hp] at h ⊢
  exact h
 | j + 1, d, p, s, x, h, hp, hs => by
  have hne : p ≠ [] := by intro e; rw [e] at hp; simp at hp
  obtain ⟨p', y, rfl⟩ : ∃ p' y, p = p' ++ [y] := ⟨_, _, (List.dropLast_concat_getLast hne).symm⟩
  have hp' : p'.length = j := by simpa using hp
  have h' : d.toList = p' ++ y :: x :: s := by rw [h]; simp
  have ex : d[j + 1]! = x := by rw [← hp]; exact cE1 h
  have ey : d[j]! = y := by rw [← hp']; exact cE1 h'
  rw [Go.Sort.insInner, ex, ey, hlt]
  have hs' := List.pairwise_append.1 hs
  by_cases e : key x < key y
  ·rw [decide_eq_true e, if_pos (by simp)]
   have h2 : (Go.Sort.swp d (j + 1) j).toList = p' ++ x :: y :: s := by rw [← hp']; exact dJ6 h'
   rw [bG6 hlt j _ p' (y :: s) x h2 hp' hs'.1, bY8 e]
   simp
  ·rw [decide_eq_false e, if_neg (by simp), h, bR8]
   · simp
   ·intro z hz
    rcases List.mem_append.1 hz with hz | hz
    ·have := hs'.2.2 z hz y (by simp)
     omega
    · rw [List.mem_singleton.1 hz]; exact e
theorem bG7 (hlt : ∀ x y, lt x y = decide (key x < key y)) : ∀ (n i : Nat) (d : Array α) (p r : List α), d.size - i = n → d.toList = p ++ r → p.length = i → aR4 key p → (Go.Sort.insOuter lt 0 d.size i d).toList = r.foldl (fun acc x => aH6 key x acc) p
 | 0, i, d, p, r, hn, h, hp, _ => by
  have hl : d.size = p.length + r.length := by rw [← Array.length_toList, h]; simp
  rw [Go.Sort.insOuter, if_neg (by omega), h, List.eq_nil_of_length_eq_zero (l := r) (by omega)]
  simp
 | n + 1, i, d, p, r, hn, h, hp, hs => by
  have hl : d.size = p.length + r.length := by rw [← Array.length_toList, h]; simp
  cases r with
  | nil => simp at hl; omega
  | cons x r =>
   rw [Go.Sort.insOuter, if_pos (by omega)]
   have h1 := bG6 hlt i d p r x h hp hs
   have hz : (Go.Sort.insInner lt 0 i d).size = d.size := by
    rw [← Array.length_toList, h1, List.length_append, (aT5 key x p).length_eq, hl]
    simp only [List.length_cons]
    omega
   have h2 := bG7 hlt n (i + 1) (Go.Sort.insInner lt 0 i d) (aH6 key x p) r (by omega) h1 (by rw [(aT5 key x p).length_eq, List.length_cons, hp]) (aY0 hs)
   rw [hz] at h2
   rw [h2]
   rfl
theorem bG8 (hlt : ∀ x y, lt x y = decide (key x < key y)) (d : Array α) : (Go.Sort.insertionSort lt d 0 d.size).toList = aG3 key d.toList := by
 unfold Go.Sort.insertionSort aG3
 cases hd : d.toList with
 | nil =>
  have hz : d.size = 0 := by rw [← Array.length_toList, hd]; rfl
  rw [Go.Sort.insOuter, if_neg (by omega), hd]
  rfl
 | cons x r =>
  have hz : d.size = r.length + 1 := by rw [← Array.length_toList, hd]; rfl
  rw [bG7 hlt (d.size - 1) (0 + 1) d [x] r (by omega) hd rfl (List.pairwise_singleton _ _)]
  rfl
end
end Go.Proofs.YtiobfnpmidjijaaGreatDoor
namespace Go.Proofs.YtiobfnpmidjijaaGreatDoor
open Go.Proofs.Tryz
open Go.RowKit
open Go.Lib hiding intOf
theorem cT1 (k : KpD) : ∀ l : List KpD, insD k l = aH6 (fun z : KpD => z.q) k l
 | [] => rfl
 | y :: l => by
  rw [insD, aH6, cT1 k l]
def aZ9 (z k : KpD) : Bool := decide (z.q = k.q) || dJ5 z k
theorem aW2 {z k : KpD} : aZ9 z k = true ↔ z.q = k.q ∨ aZ3 z k := by rw [aZ9, Bool.or_eq_true, decide_eq_true_iff, dE1]
theorem cW7 (z k : KpD) : aZ9 z k = aZ9 k z := by
 rw [Bool.eq_iff_iff, aW2, aW2];unfold aZ3;constructor
 ·rintro (h | ⟨h1, h2, h3⟩)
  ·exact .inl h.symm
  exact .inr ⟨h1.symm, h2.symm, h3.symm⟩
 rintro (h | ⟨h1, h2, h3⟩)
 ·exact .inl h.symm
 exact .inr ⟨h1.symm, h2.symm, h3.symm⟩
theorem aS3 (k : KpD) (l : List KpD) : aM5 (k :: l) = if l.any (fun z => aZ9 z k) = true then aM5 l else k :: aM5 l := rfl
theorem bZ1 (k : KpD) : ∀ l : List KpD, aM5 (l ++ [k]) = (aM5 l).filter (fun z => !aZ9 z k) ++ [k]
 | [] => rfl
 | y :: l => by
  rw [List.cons_append, aS3, aS3, bZ1 k l, List.any_append]
  by_cases e : l.any (fun z => aZ9 z y) = true
  · rw [e, Bool.true_or, if_pos rfl, if_pos rfl]
  ·have e' : l.any (fun z => aZ9 z y) = false := Bool.eq_false_iff.2 e
   have e2 : [k].any (fun z => aZ9 z y) = aZ9 y k := by rw [cW7 y k]; simp
   rw [e', Bool.false_or, e2, if_neg (c := false = true) Bool.false_ne_true]
   by_cases h : aZ9 y k = true
   · rw [if_pos h, List.filter_cons_of_neg (by simp [h])]
   · rw [if_neg h, List.filter_cons_of_pos (by simpa using h)]; rfl
theorem bA0 : ∀ l : List KpD, List.Sublist (aM5 l) l
 | [] => List.Sublist.refl _
 | y :: l => by
  rw [aS3]
  split
  · exact (bA0 l).cons y
  · exact (bA0 l).cons_cons y
theorem bR9 : ∀ l : List KpD, (aM5 l).Pairwise (fun x y => x.q ≠ y.q)
 | [] => List.Pairwise.nil
 | y :: l => by
  rw [aS3]
  split
  · exact bR9 l
  ·rename_i h
   refine List.pairwise_cons.2 ⟨fun z hz e => h ?_, bR9 l⟩
   rw [List.any_eq_true]
   exact ⟨z, (bA0 l).subset hz, aW2.2 (.inl e.symm)⟩
theorem cW8 {l : List KpD} {j : Nat} (hj : j < l.length) (h : ∀ i, j < i → (h : i < l.length) → ¬ ((l[i]'h).q = (l[j]'hj).q ∨ aZ3 (l[i]'h) (l[j]'hj))) : aM5 (l.drop j) = l[j]'hj :: aM5 (l.drop (j + 1)) := by
 have e0 : l[j]'hj :: l.drop (j + 1) = l.drop j := by rw [List.getElem_cons_drop]
 rw [← e0, aS3, if_neg];intro e;obtain ⟨z, hz, hs⟩ := List.any_eq_true.1 e;obtain ⟨i, hi, rfl⟩ := List.getElem_of_mem hz;rw [List.length_drop] at hi;rw [List.getElem_drop] at hs;exact h (j + 1 + i) (by omega) (by omega) (aW2.1 hs)
theorem cW9 {l : List KpD} {j : Nat} (hj : j < l.length) (h : ¬ ∀ i, j < i → (h : i < l.length) → ¬ ((l[i]'h).q = (l[j]'hj).q ∨ aZ3 (l[i]'h) (l[j]'hj))) : aM5 (l.drop j) = aM5 (l.drop (j + 1)) := by
 have e0 : l[j]'hj :: l.drop (j + 1) = l.drop j := by rw [List.getElem_cons_drop]
 rw [← e0, aS3, if_pos];refine Classical.byContradiction fun e => h fun i h1 h2 h3 => e (List.any_eq_true.2 ⟨l[i]'h2, ?_, aW2.2 h3⟩)
 rw [List.mem_iff_getElem];exact ⟨i - (j + 1), by rw [List.length_drop]; omega, by rw [List.getElem_drop]; congr 1; omega⟩
def aN4 (l : Ks) : Ks := l.foldl (fun acc x => acc.filter (fun z => !aZ9 z.1 x.1) ++ [x]) []
theorem bI9 (l : Ks) (x : KpD × Value × Value × Value) : aN4 (l ++ [x]) = (aN4 l).filter (fun z => !aZ9 z.1 x.1) ++ [x] := by
 unfold aN4;rw [List.foldl_append];rfl
theorem cJ4 (l : Ks) : (aN4 l).map (·.1) = aM5 (l.map (·.1)) := by
 refine bB8 (P := fun l : Ks => (aN4 l).map (·.1) = aM5 (l.map (·.1))) rfl (fun l x ih => ?_) l
 show (aN4 (l ++ [x])).map (·.1) = aM5 ((l ++ [x]).map (·.1))
 rw [bI9, List.map_append, List.map_append, List.map_cons, List.map_nil, bZ1, ← ih, List.filter_map];rfl
theorem aO8 (l : Ks) : List.Sublist (aN4 l) l := by
 refine bB8 (P := fun l : Ks => List.Sublist (aN4 l) l) (List.Sublist.refl _) (fun l x ih => ?_) l
 show List.Sublist (aN4 (l ++ [x])) (l ++ [x])
 rw [bI9];exact (List.filter_sublist.trans ih).append (List.Sublist.refl _)
theorem dE2 {l kvt : Ks} (hs : aR4 (fun z : KpD => z.q) (l.map (·.1))) (hp : kvt.Perm (aN4 l)) (ht : kvt.Pairwise (fun x y => x.1.q ≤ y.1.q)) : kvt = aN4 l := by
 have h1 : (aN4 l).Pairwise (fun x y => x.1.q ≤ y.1.q) := (List.pairwise_map.1 hs).sublist (aO8 l)
 have h2 : (aN4 l).Pairwise (fun x y => x.1.q ≠ y.1.q) := by
  have h := bR9 (l.map (·.1))
  rw [← cJ4, List.pairwise_map] at h
  exact h
 have h3 : (aN4 l).Pairwise (fun x y => x.1.q < y.1.q) := (List.pairwise_and_iff.2 ⟨h1, h2⟩).imp (fun h => by have := h.1; have := h.2; omega)
 have h4 : kvt.Pairwise (fun x y => x.1.q ≠ y.1.q) := (hp.pairwise_iff (fun h => Ne.symm h)).2 h2
 have h5 : kvt.Pairwise (fun x y => x.1.q < y.1.q) := (List.pairwise_and_iff.2 ⟨ht, h4⟩).imp (fun h => by have := h.1; have := h.2; omega)
 exact hp.eq_of_pairwise (fun a b _ _ e1 e2 => absurd e1 (by omega)) h5 h3
def aN8 (cs : Ts) (ws : List (Int × ByteArray)) : Nat → List KpD → Prop
 | 0, l => l = []
 | n + 1, l => ∃ l', aN8 cs ws n l' ∧ ((∃ k, aO7 (aL5 cs ws ((5 + n : Nat) : Int)) ((5 + n : Nat) : Int) k ∧ l = l' ++ [k]) ∨ ((∀ k, ¬ aO7 (aL5 cs ws ((5 + n : Nat) : Int)) ((5 + n : Nat) : Int) k) ∧ l = l'))
theorem aN8.len {cs : Ts} {ws : List (Int × ByteArray)} : ∀ {n : Nat} {l : List KpD}, aN8 cs ws n l → l.length ≤ n
 | 0, _, h => by rw [show _ = [] from h]; exact Nat.le_refl _
 | n + 1, _, h => by
  obtain ⟨l', h1, ⟨k, _, rfl⟩ | ⟨_, rfl⟩⟩ := h
  ·have := h1.len
   rw [List.length_append, List.length_singleton]
   omega
  ·have := h1.len
   omega
theorem aN8.cells {cs : Ts} {ws : List (Int × ByteArray)} : ∀ {n : Nat} {l : List KpD}, aN8 cs ws n l → (∀ k ∈ l, 5 ≤ k.a ∧ k.a < 5 + (n : Int)) ∧ l.Pairwise (fun x y => x.a ≠ y.a)
 | 0, _, h => by rw [show _ = [] from h]; exact ⟨fun k hk => (by cases hk), List.Pairwise.nil⟩
 | n + 1, _, h => by
  obtain ⟨l', h1, ⟨k, ⟨_, _, _, _, ha, _⟩, rfl⟩ | ⟨_, rfl⟩⟩ := h
  ·obtain ⟨h2, h3⟩ := h1.cells
   refine ⟨fun z hz => ?_, List.pairwise_append.2 ⟨h3, List.pairwise_singleton _ _, fun x hx y hy => ?_⟩⟩
   ·rcases List.mem_append.1 hz with hz | hz
    ·have := h2 z hz
     omega
    ·rw [List.mem_singleton.1 hz]
     omega
   ·rw [List.mem_singleton.1 hy]
    have := h2 x hx
    omega
  ·obtain ⟨h2, h3⟩ := h1.cells
   exact ⟨fun z hz => by have := h2 z hz; omega, h3⟩
theorem aN8.nums {cs : Ts} {ws : List (Int × ByteArray)} : ∀ {n : Nat} {l : List KpD}, aN8 cs ws n l → ∀ k ∈ l, 0 ≤ k.q ∧ k.q < 100000 ∧ ObjK k
 | 0, _, h, k, hk => by rw [show _ = [] from h] at hk; cases hk
 | n + 1, _, h, k, hk => by
  obtain ⟨l', h1, ⟨z, ⟨d, h2, h3, h4, _, h5⟩, rfl⟩ | ⟨_, rfl⟩⟩ := h
  ·rcases List.mem_append.1 hk with hk | hk
   · exact h1.nums k hk
   ·rw [List.mem_singleton.1 hk]
    have h6 := h2.1.1
    exact ⟨by omega, h5, (h4 ▸ h3.1 : ObjP z.p z.xs z.ys z.st z.fs z.b z.t)⟩
  · exact h1.nums k hk
theorem bJ0 {cs : Ts} {ws : List (Int × ByteArray)} {bl : Bs} {m0 : Int} {f : KpD → Bool} (hf : ∀ k, f k = true ↔ ¬ AnyK bl k) : ∀ {n : Nat} {l : List KpD}, aN8 cs ws n l → aD6 cs ws bl m0 n (l.foldl (fun m k => max m k.q) m0) (aG3 (fun z : KpD => z.q) (l.filter f))
 | 0, _, h => by rw [show _ = [] from h]; exact ⟨rfl, rfl⟩
 | n + 1, _, h => by
  obtain ⟨l', h1, ⟨k, hk, rfl⟩ | ⟨hn, rfl⟩⟩ := h
  ·refine ⟨_, _, bJ0 hf h1, .inl ⟨k, hk, by rw [List.foldl_append]; rfl, ?_⟩⟩
   by_cases e : f k = true
   ·refine .inr ⟨(hf k).1 e, ?_⟩
    rw [List.filter_append, List.filter_cons_of_pos e, List.filter_nil, aN3, cT1]
   ·refine .inl ⟨Classical.byContradiction fun h2 => e ((hf k).2 h2), ?_⟩
    rw [List.filter_append, List.filter_cons_of_neg e, List.filter_nil, List.append_nil]
  · exact ⟨_, _, bJ0 hf h1, .inr ⟨hn, rfl, rfl⟩⟩
theorem dJ7 {l l' : List KpD} (h : l.Perm l') (m : Int) : l.foldl (fun m k => max m k.q) m = l'.foldl (fun m k => max m k.q) m :=
 h.foldl_eq' (fun x _ y _ z => by omega) m
theorem cX0 {l : List KpD} (h : 0 < l.length) : bL6 l = aN7 (l[l.length - 1]'(by omega)).a := by
 unfold bL6;rw [List.getLast?_eq_getElem?, List.getElem?_eq_getElem (by omega)]
theorem aH3.ex (cs : Ts) (ws : List (Int × ByteArray)) : ∃ (l : Bs) (m : Int), l.length ≤ 5 ∧ aH3 cs ws l m ∧ aV0 cs ws l.length := by
 have a0 : ∀ n, n ≤ 5 → ∃ (l : Bs) (m : Int), aH3 cs ws l m ∧ (l.length = n ∨ (l.length < n ∧ aV0 cs ws l.length)) := by
  intro n
  induction n with
  | zero => intro _; exact ⟨[], 0, ⟨[], rfl, rfl, fun i hi => absurd hi (Nat.not_lt_zero _)⟩, .inl rfl⟩
  | succ n ih =>
   intro hn
   obtain ⟨l, m, h, e | ⟨h1, h2⟩⟩ := ih (by omega)
   ·by_cases hx : ∃ q b k a c t, aL9 (aL5 cs ws (l.length : Int)) q b ∧ aI8 b k a c t
    ·obtain ⟨q, b, k, a, c, t, hr, hb⟩ := hx
     exact ⟨l ++ [(k, a, c, t)], bC6 m q, h.snoc hr hb, .inl (by rw [List.length_append, e]; rfl)⟩
    ·exact ⟨l, m, h, .inr ⟨by omega, .inr (fun q b k a c t hr hb => hx ⟨q, b, k, a, c, t, hr, hb⟩)⟩⟩
   ·exact ⟨l, m, h, .inr ⟨by omega, h2⟩⟩
 obtain ⟨l, m, h, e | ⟨h1, h2⟩⟩ := a0 5 (Nat.le_refl _)
 ·exact ⟨l, m, by omega, h, .inl e⟩
 exact ⟨l, m, by omega, h, h2⟩
theorem aD6.ex (cs : Ts) (ws : List (Int × ByteArray)) (bl : Bs) (m0 : Int) : ∀ n, ∃ m l, aD6 cs ws bl m0 n m l
 | 0 => ⟨m0, [], rfl, rfl⟩
 | n + 1 => by
  obtain ⟨m, l, h⟩ := aD6.ex cs ws bl m0 n
  by_cases hx : ∃ k, aO7 (aL5 cs ws ((5 + n : Nat) : Int)) ((5 + n : Nat) : Int) k
  ·obtain ⟨k, hk⟩ := hx
   by_cases ha : AnyK bl k
   · exact ⟨_, _, m, l, h, .inl ⟨k, hk, rfl, .inl ⟨ha, rfl⟩⟩⟩
   · exact ⟨_, _, m, l, h, .inl ⟨k, hk, rfl, .inr ⟨ha, rfl⟩⟩⟩
  · exact ⟨_, _, m, l, h, .inr ⟨fun k hk => hx ⟨k, hk⟩, rfl, rfl⟩⟩
theorem aZ8.ex (cs : Ts) (ws : List (Int × ByteArray)) : ∃ s, aZ8 cs ws s := by
 obtain ⟨bl, m0, h1, h2, h3⟩ := aH3.ex cs ws;obtain ⟨m, l, h4⟩ := aD6.ex cs ws bl m0 15;exact ⟨_, bl, m0, m, l, h1, h2, h3, h4, rfl⟩
theorem bA1 (p : Tx) (o1 : Oa) (n1 c1 : Nat) (xs : Ts) (o2 : Oa) (n2 c2 : Nat) (ys : Ts) (st : Int) (v3 : Value) (n3 base : Nat) (fs : Fs) (b : Tx) (t : Int) (w : World) (h1 : aC0 w o1 n1 xs) (h2 : aC0 w o2 n2 ys) (h3 : aB4 w base v3 n3 fs) (hn1 : n1 ≤ 2000000) (hn2 : n2 ≤ 2000000) (hn3 : n3 ≤ 2000000) (hs1 : ∀ i, i < n1 → (aA7 xs i).size ≤ maxLen) (hs2 : ∀ i, i < n2 → (aA7 ys i).size ≤ maxLen) (hs3 : aR0 n3 fs) (hp : p.size ≤ maxLen) (hx : b.size ≤ maxLen) (hg : (getV fs aF0).size ≤ 1048576) :
  Calls prog 52 #[.agg #[.string p, .slice o1 n1 c1, .slice o2 n2 c2, .int .i64 st, v3, .string b, .int .i64 t]] w fun e w' => bO7 (ObjP p xs ys st fs b t) (objT p ys st fs b t) w e w' := by
 obtain ⟨o3, c3, rfl, _⟩ := h3.slice;have c7 : Hid (∀ W, Bw w W → aC0 W o1 n1 xs) := fun W h => h1.below h
 have b7 : Hid (∀ W, Bw w W → aC0 W o2 n2 ys) := fun W h => h2.below h
 have b8 : Hid (∀ W, Bw w W → aB4 W base (.slice o3 n3 c3) n3 fs) := fun W h => h3.below h
 have a5 : Hid (ys.length = n2) := h2.1;have c8 := hid hs1;have c9 := hid hs2;have b9 := hid hs3;have d0 := hid hp;have HX := hid hx;have HG := hid hg;obtain ⟨tt, c0⟩ := exq (aD1 t);have b1 : Hid (aD1 t = tt) := c0.symm;obtain ⟨nn, c4⟩ : ∃ x, x = aD1 ((n2 : Nat) : Int) := ⟨_, rfl⟩;have b2 : Hid (aD1 ((n2 : Nat) : Int) = nn) := c4.symm;clear h1 h2 h3 hs1 hs2 hs3 hp hx hg c0 c4;have K0 := jnil w;go_enter func52, ntmps52;go_upto_region 1 with fail
 obtain ⟨q1, b3⟩ := exq (w.heap.size);obtain ⟨w1, a6⟩ := exq (w.alloc (.cells #[.string p, .slice o1 n1 c1, .slice o2 n2 c2, .int .i64 st, .slice o3 n3 c3, .string b, .int .i64 t] 36));have b4 := b3.symm;rw [← a6]; try rw [← b3];have hs1 := hsa a6 b4;have bw := bal a6;have K1 := ja K0 a6 b4;clear bw a6 b4 K0;clear hs1 b3;have b5 := c7c (jb K1 0 rfl);go_wp2_with fail
 refine (bF6 p _ n1 _ xs _ n2 _ ys st _ n3 base fs b t _ (c7.out _ K1.hb) (b7.out _ K1.hb) (b8.out _ K1.hb) (by omega) (by omega) (by omega) c8.out c9.out b9.out d0.out HX.out HG.out).mono ?_;rintro e w2 ⟨u1, rfl, a2, bw⟩;have K2 := jw K1 bw;clear bw K1;clear b5;cases u1
 ·have HF : Hid (¬ ObjP p xs ys st fs b t) := fun h => nomatch a2.2 h
  clear a2;go_wp2_with fail
  go_ret;exact ⟨⟨#[]⟩, rfl, fun h => absurd h HF.out, fun _ => rfl, K2.hb⟩
 have a3 : Hid (ObjP p xs ys st fs b t) := a2.1 rfl;clear a2;have HT : Hid (0 ≤ t ∧ t ≤ 1000000) := a3.out.2.2.1;have d1 : Hid (n2 ≤ 4) := by show _ ≤ _; have h4 := a3.out.2.2.2.1.2; have h5 := a3.out.2.2.2.2.2.1; have h6 := a5.out; omega
 obtain ⟨hd, a8⟩ := exq (aK1 p t n2)
 have d2 : Hid (((((((⟨#[111, 98, 106, 32]⟩ ++ p) ++ ⟨#[32]⟩) ++ tt) ++ ⟨#[32]⟩) ++ nn) ++ ⟨#[10]⟩) = hd) := by
  show _ = _
  rw [a8, ← b1.out, ← b2.out, aC9 HT.out.1, aC9 (by omega)]
  rfl
 have c5 : Hid (∀ k, k ≤ n2 → (aG0 hd ys k).size ≤ 400) := fun k hk => by
  have h := bI6 a3.out k (by rw [a5.out]; exact hk)
  rw [a5.out, ← a8] at h
  have := d1.out
  omega
 have b6 : Hid (objT p ys st fs b t = aG0 hd ys n2 ++ aL7 st fs b) := by
  show _ = _
  unfold objT
  rw [a5.out, ← a8]
 have c6 : Hid (aN1 st fs b) := a3.out.1;have zp : p.size ≤ 60 := a3.out.2.1.2.2.1;have e1 : tt.size ≤ 8 := by rw [← b1.out, aC9 HT.out.1]; exact aD8 _
 have e2 : nn.size ≤ 8 := by rw [← b2.out, aC9 (by omega)]; exact aD8 _
 clear a8;go_upto_region 3 with fail
 refine wp_region_held_drew (S := fun W => W.heap[q1]? = some (.cells #[.string p, .slice o1 n1 c1, .slice o2 n2 c2, .int .i64 st, .slice o3 n3 c3, .string b, .int .i64 t] 36)) (by kernel_rfl) (jb K2 0 rfl) (fun _ => ?_)
 obtain ⟨w3, hX⟩ := exq w2.drew;have bw := bdr hX;rw [← hX];have K3 := jw K2 bw;have a1 := (jb K3 0 rfl);clear bw hX K2;refine tkP 0 (.pointer (some ⟨q1, 0, none⟩)) 8 rfl rfl a1 ?_;go_frame;refine tkL 1 (.string p) 9 rfl rfl (Or.inl ⟨by rfl, by intro W hW; have a0 := hW; have y0 := c7c a0; go_simp⟩) a1 ?_;go_frame;refine tkL 2 (.string (⟨#[111, 98, 106, 32]⟩ ++ p)) 10 rfl rfl (Or.inl ⟨by rfl, by intro W _; go_simp <;> omega⟩) a1 ?_;go_frame;refine tkL 3 (.string ((⟨#[111, 98, 106, 32]⟩ ++ p) ++ ⟨#[32]⟩)) 11 rfl rfl (Or.inl ⟨by rfl, by intro W _; go_simp <;> omega⟩) a1 ?_;go_frame;refine tkP 4 (.pointer (some ⟨q1, 6, none⟩)) 12 rfl rfl a1 ?_;go_frame;refine tkL 5 (.int .i64 t) 13 rfl rfl (Or.inl ⟨by rfl, by intro W hW; have a0 := hW; have y6 := c7c a0; go_simp⟩) a1 ?_;go_frame;refine tkP 9 (.pointer (some ⟨q1, 2, none⟩)) 17 rfl rfl a1 ?_;go_frame;refine tkL 10 (.slice o2 n2 c2) 18 rfl rfl (Or.inl ⟨by rfl, by intro W hW; have a0 := hW; have y2 := c7c a0; go_simp⟩) a1 ?_;go_frame;refine tkP 11 (.int .i64 (n2 : Int)) 19 rfl rfl a1 ?_;go_frame;refine rd1 6 rfl (fun K hK => ?_)
 go_simp;refine (aE0 t _ (by have := HT.out; omega) (by have := HT.out; omega)).mono ?_;rintro e w4 ⟨rfl, bw⟩;rw [b1.out];have K4 := jw K3 bw;clear bw K3;have a9 := (jb K4 0 rfl);refine hK.out _ _ a9 (fun _ => ?_)
 clear hK K a1;refine tkL 7 (.string (((⟨#[111, 98, 106, 32]⟩ ++ p) ++ ⟨#[32]⟩) ++ tt)) 15 rfl rfl (Or.inl ⟨by rfl, by intro W _; go_simp <;> omega⟩) a9 ?_;go_frame;refine tkL 8 (.string ((((⟨#[111, 98, 106, 32]⟩ ++ p) ++ ⟨#[32]⟩) ++ tt) ++ ⟨#[32]⟩)) 16 rfl rfl (Or.inl ⟨by rfl, by intro W _; go_simp <;> omega⟩) a9 ?_;go_frame;refine rd1 12 rfl (fun K hK => ?_)
 go_simp;refine (aE0 ((n2 : Nat) : Int) _ (by omega) (by omega)).mono ?_;rintro e w5 ⟨rfl, bw⟩;rw [b2.out];have K5 := jw K4 bw;clear bw K4;have a7 := (jb K5 0 rfl);refine hK.out _ _ a7 (fun _ => ?_)
 clear hK K a9;refine tkL 13 (.string (((((⟨#[111, 98, 106, 32]⟩ ++ p) ++ ⟨#[32]⟩) ++ tt) ++ ⟨#[32]⟩) ++ nn)) 21 rfl rfl (Or.inl ⟨by rfl, by intro W _; go_simp <;> omega⟩) a7 ?_;go_frame;refine tkL 14 (.string ((((((⟨#[111, 98, 106, 32]⟩ ++ p) ++ ⟨#[32]⟩) ++ tt) ++ ⟨#[32]⟩) ++ nn) ++ ⟨#[10]⟩)) 22 rfl rfl (Or.inl ⟨by rfl, by intro W _; go_simp <;> omega⟩) a7 ?_;go_frame;refine tkP 15 (.string ((((((⟨#[111, 98, 106, 32]⟩ ++ p) ++ ⟨#[32]⟩) ++ tt) ++ ⟨#[32]⟩) ++ nn) ++ ⟨#[10]⟩)) 3 rfl rfl a7 ?_;go_frame;clear a7;refine wdn ?_;go_wp2_with fail
 go_loopw [3, 4] (fun o i wr => ∃ j : Nat, j ≤ n2 ∧ o = .string (aG0 hd ys j) ∧ i = .int .i64 (j : Int) ∧ Hid (Bw w wr ∧ wr.heap[q1]? = some (.cells #[.string p, .slice o1 n1 c1, .slice o2 n2 c2, .int .i64 st, .slice o3 n3 c3, .string b, .int .i64 t] 36))) (fun _ i _ => n2 - (intOf i).toNat)
 case atStart => exact ⟨0, Nat.zero_le _, by rw [d2.out]; rfl, rfl, ⟨K5.hb, (jb K5 0 rfl)⟩⟩
 case round =>
  obtain ⟨j, hj, rfl, rfl, HW⟩ := hrel;have d3 : wr.cell? ⟨q1, 2, none⟩ = some (.slice o2 n2 c2) := (aA1 HW.out.2 2).trans rfl;by_cases hlt : (j : Int) < (n2 : Int)
  ·obtain ⟨g, d4, hg, hc⟩ := (b7.out wr HW.out.1).2 j (by omega);subst d4;obtain ⟨x, b0⟩ := exq (aA7 ys j);rw [← b0] at hc;obtain ⟨ot, a4⟩ := exq (aG0 hd ys j);have HN : Hid (ot ++ x ++ ⟨#[10]⟩ = aG0 hd ys (j + 1)) := by show _ = _; rw [a4, b0, aG0]
   have zo := c5.out j (by omega);have zx : x.size ≤ 60 := by rw [b0]; exact (a3.out.2.2.2.2.2.2 _ (aG7 ys j (by rw [a5.out]; omega))).2.1
   rw [← a4] at zo ⊢;clear b0 a4;go_wp2_with fail
   go_roundw
   case rel => exact ⟨j + 1, by omega, by rw [HN.out], by go_num, HW⟩
   case measure => simp [intOf]; omega
  obtain rfl : j = n2 := by omega
  obtain ⟨ot, a4⟩ := exq (aG0 hd ys j);have d5 : Hid (objT p ys st fs b t = ot ++ aL7 st fs b) := by show _ = _; rw [a4]; exact b6.out
  have zo := c5.out j (by omega);rw [← a4] at zo ⊢;have d6 : wr.cell? ⟨q1, 3, none⟩ = some (.int .i64 st) := (aA1 HW.out.2 3).trans rfl;have d7 : wr.cell? ⟨q1, 4, none⟩ = some (.slice o3 n3 c3) := (aA1 HW.out.2 4).trans rfl;have d8 : wr.cell? ⟨q1, 5, none⟩ = some (.string b) := (aA1 HW.out.2 5).trans rfl;clear a4;go_wp2_with fail
  refine (aR1 st _ b n3 base fs _ (b8.out _ HW.out.1) (by omega) b9.out HX.out).mono ?_;rintro e d9 ⟨u, rfl, hu, _, bw⟩;have HU : Hid (u = aL7 st fs b) := hu c6.out;have zu : u.size ≤ 1000 := by rw [HU.out]; exact bY1 c6.out
  have e0 : Hid (Bw w d9) := HW.out.1.trans (bw.mono HW.out.1.size);clear bw hu d3 d6 d7 d8 HW;go_wp2_with fail
  go_ret;exact ⟨_, rfl, fun _ => by rw [d5.out, HU.out], fun h => absurd a3.out h, e0.out⟩
def aH5 (w : World) : Prop := ∃ m : Int, w.cell? ⟨1, 0, none⟩ = some (.int .i64 m)
theorem aH5.lt {w : World} (h : aH5 w) : 1 < w.heap.size := by
 obtain ⟨m, hm⟩ := h;exact World.block_lt_of_cell? w _ hm
theorem aH5.below {B : Nat} {w w' : World} (h : aH5 w) (hb : Below B w w') (hB : 1 < B) : aH5 w' := by
 obtain ⟨m, hm⟩ := h;exact ⟨m, by rw [hb.cell (p := ⟨1, 0, none⟩) hB]; exact hm⟩
def aK4 (w : World) (b : Nat) (left : Tx) : Prop := w.heap[b]? = some (.cells #[.string left] 285)
theorem aK4.cell {w : World} {b : Nat} {left : ByteArray} (h : aK4 w b left) : w.cell? ⟨b, 0, none⟩ = some (.string left) := by
 unfold aK4 at h;simp [World.cell?, h]
theorem aK4.frozen {w : World} {b : Nat} {left : ByteArray} (h : aK4 w b left) : w.frozen? ⟨b, 0, none⟩ = false := by
 unfold aK4 at h;simp [World.frozen?, h]
theorem aK4.put {w : World} {b : Nat} {left : ByteArray} (h : aK4 w b left) (x : Tx) : aK4 (w.setCell ⟨b, 0, none⟩ (.string x)) b x := by
 unfold aK4 at h ⊢;rw [aA3 _ _ _ _ _ _ _ h];rfl
def Took (b : Nat) (left : Tx) (w w' : World) : Prop := aK4 w' b left ∧ w.grownBy w' (some b)
theorem aR8 (b : Nat) (left sep : Tx) (w : World) (h : aK4 w b left) (hl : left.size ≤ 4000000) (hm : aH5 w) :
  Calls prog 277 #[.pointer (some ⟨b, 0, none⟩), .string sep] w fun e w' => e = .returned (.string (cutA left sep)) ∧ Took b (cutB left sep) w w' := by
 obtain ⟨m, hm⟩ := hm;have hc := h.cell;obtain ⟨x, hx⟩ := exq (cutA left sep);obtain ⟨y, hy⟩ := exq (cutB left sep);have HX : Hid ((⟨(Lib.cut left.data.toList sep.data.toList).1.toArray⟩ : Tx) = x) := hx.symm;have HY : Hid ((⟨(Lib.cut left.data.toList sep.data.toList).2.1.toArray⟩ : Tx) = y) := hy.symm;rw [← hx, ← hy];clear hx hy;go_enter func277, ntmps277;go_wp2_with fail
 refine (Tryz.strings_Cut left sep m _ (by omega) hm).mono ?_;rintro e w1 ⟨rfl, k, rfl⟩;rw [HX.out, HY.out];generalize (Lib.cut left.data.toList sep.data.toList).2.2 = t;have h1 : aK4 (w.drewN k) b left := h;have hg : w.grownBy (w.drewN k) (some b) := ⟨rfl, rfl, rfl, Nat.le_refl _, fun _ _ _ => rfl⟩
 have a0 := h1.cell;have a1 := h1.frozen;have HT : Hid (Took b y w ((w.drewN k).setCell ⟨b, 0, none⟩ (.string y))) := ⟨h1.put y, aB6 hg (aD9 _ _ _ _)⟩;clear hc h hm h1 hg;go_wp2_with fail
 go_ret;exact ⟨rfl, HT.out⟩
theorem bG9 (b : Nat) (left word : Tx) (w : World) (h : aK4 w b left) :
  Calls prog 284 #[.pointer (some ⟨b, 0, none⟩), .string word] w fun e w' => e = .returned (.tuple #[]) ∧ Took b (aK5 left word) w w' := by
 have hc := h.cell;have hf := h.frozen;have HT : Hid (Took b (aK5 left word) w (w.setCell ⟨b, 0, none⟩ (.string (aK5 left word)))) := ⟨h.put _, aD9 _ _ _ _⟩;obtain ⟨y, hy⟩ := exq (aK5 left word);have HY : Hid ((⟨(Lib.trimPrefix left.data.toList word.data.toList).toArray⟩ : Tx) = y) := hy.symm;rw [← hy] at HT ⊢;clear hy h;go_enter func284, ntmps284;go_wp2_with fail
 refine (Tryz.strings_TrimPrefix left word _).mono ?_;rintro e w1 ⟨rfl, rfl⟩;rw [HY.out];go_wp2_with fail
 exact bodyPost_end (v := .tuple #[]) (by simp [results, results284, go_sem]) rfl ⟨rfl, HT.out⟩
theorem bV1 (b : Nat) (left : Tx) (w : World) (h : aK4 w b left) :
  Calls prog 369 #[.pointer (some ⟨b, 0, none⟩)] w fun e w' => e = .returned (.bool (hasP left lnE)) ∧ w' = w := by
 have hc := h.cell;obtain ⟨t, ht⟩ := exq (hasP left lnE);rw [← ht];go_enter func369, ntmps369;go_wp2_with fail
 refine (Tryz.strings_HasPrefix left lnE _).mono ?_;rintro e w1 ⟨rfl, rfl⟩;have HT : Hid (Lib.hasPrefix left.data.toList lnE.data.toList = t) := ht.symm;rw [HT.out];clear ht;go_wp2_with fail
 go_ret;exact ⟨rfl, rfl⟩
structure RdSt (w : World) (B b q : Nat) (T : TypeId) (bd : Tx) (tl : List Value) (fs : Fs) (left : Tx) (fv : Value) (W : World) : Prop where
 rd : aK4 W b left
 qc : W.heap[q]? = some (.cells ⟨fv :: .string bd :: tl⟩ T)
 own : W.ownsRow B 232 2 fv fs.length (aE5 fs)
 low : Below B w W
def bZ2 (T : TypeId) : Prop := T ≠ 232
theorem bJ1 {w : World} {base : Nat} {t : TypeId} {size : Nat} {v : Value} {n : Nat} {xs : List Value} {j : Nat} {cs : Array Value} {T : TypeId} {fr : Nat × Nat} (h : w.ownsRow base t size v n xs) (hT : T ≠ t) (hj : w.heap[j]? = some (.cells cs T fr)) : v.ownBlock ≠ some j := by
 intro e;rcases h.2 with ⟨rfl, _⟩ | ⟨g, a0, a1, rfl, _, h1, _⟩
 ·cases e
 cases e
 rw [h1] at hj;cases hj
 exact hT rfl
theorem aR9 {w : World} {base : Nat} {t : TypeId} {size : Nat} {v : Value} {n : Nat} {xs : List Value} {j : Nat} (h : w.ownsRow base t size v n xs) (hj : v.ownBlock = some j) : base ≤ j ∧ j < w.heap.size := by
 rcases h.2 with ⟨rfl, _⟩ | ⟨g, a0, a1, rfl, h0, h1, _⟩
 ·cases hj
 cases hj
 exact ⟨h0, (blt h1)⟩
theorem RdSt.bq {w : World} {B b q : Nat} {T : TypeId} {bd : ByteArray} {tl : List Value} {fs : Fs} {left : ByteArray} {fv : Value} {W : World} (h : RdSt w B b q T bd tl fs left fv W) : q ≠ b := by
 intro e;subst e;have := h.rd;unfold aK4 at this;rw [h.qc] at this;cases this
theorem RdSt.took {w : World} {B b q : Nat} {T : TypeId} {bd : ByteArray} {tl : List Value} {fs : Fs} {left left' : ByteArray} {fv : Value} {W W' : World} (h : RdSt w B b q T bd tl fs left fv W) (hB : B ≤ W.heap.size) (hb : B ≤ b) (ht : Took b left' W W') : RdSt w B b q T bd tl fs left' fv W' := by
 have hq := h.bq;have a0 : q < W.heap.size := (Array.getElem?_eq_some_iff.1 h.qc).1;refine ⟨ht.1, ?_, ?_, h.low.trans (bP2 ht.2 hB hb)⟩
 ·rw [ht.2.block q a0 (by simpa using hq)]; exact h.qc
 refine aA9 h.own (fun j hj => ?_)
 have a1 := (aR9 h.own hj).2;refine ht.2.block j a1 ?_;intro e;cases e
 have := h.rd;unfold aK4 at this;exact bJ1 h.own (by decide) this hj
theorem RdSt.below {w : World} {B b q : Nat} {T : TypeId} {bd : ByteArray} {tl : List Value} {fs : Fs} {left : ByteArray} {fv : Value} {W W' : World} (h : RdSt w B b q T bd tl fs left fv W) (hB : B ≤ W.heap.size) (hb : Below W.heap.size W W') : RdSt w B b q T bd tl fs left fv W' := by
 have a0 : q < W.heap.size := (Array.getElem?_eq_some_iff.1 h.qc).1;have a1 : b < W.heap.size := (Array.getElem?_eq_some_iff.1 h.rd).1;refine ⟨?_, ?_, ?_, h.low.trans (hb.mono hB)⟩
 ·have := h.rd;unfold aK4 at this ⊢;rw [hb.block b a1]; exact this
 ·rw [hb.block q a0]; exact h.qc
 exact aA9 h.own (fun j hj => hb.block j (aR9 h.own hj).2)
theorem RdSt.qcell {w : World} {B b q : Nat} {T : TypeId} {bd : ByteArray} {tl : List Value} {fs : Fs} {left : ByteArray} {fv : Value} {W : World} (h : RdSt w B b q T bd tl fs left fv W) : W.cell? ⟨q, 0, none⟩ = some fv ∧ W.cell? ⟨q, 1, none⟩ = some (.string bd) ∧ W.frozen? ⟨q, 0, none⟩ = false ∧ W.frozen? ⟨q, 1, none⟩ = false := by
 have := h.qc;refine ⟨?_, ?_, ?_, ?_⟩ <;> simp [World.cell?, World.frozen?, this]
theorem RdSt.more {w : World} {B b q : Nat} {T : TypeId} {bd : ByteArray} {tl : List Value} {fs : Fs} {left nm vl : ByteArray} {fv : Value} {W W' : World} {v' : Value} {o : Obj} (h : RdSt w B b q T bd tl fs left fv W) (hT : bZ2 T) (hB : B ≤ W.heap.size) (hq : B ≤ q)
  (hg : (W.alloc o).grownBy W' fv.ownBlock) (hown : W'.ownsRow B 232 2 v' (fs.length + 1) (aE5 fs ++ [.string nm, .string vl])) :
  (W'.heap[q]? = some (.cells ⟨fv :: .string bd :: tl⟩ T)) ∧ RdSt w B b q T bd tl (fs ++ [(nm, vl)]) left v' (W'.setCell ⟨q, 0, none⟩ v') := by
 have a0 : q < W.heap.size := (Array.getElem?_eq_some_iff.1 h.qc).1;have a1 : b < W.heap.size := (Array.getElem?_eq_some_iff.1 h.rd).1;have a3 := h.bq
 have k1 : W'.heap[q]? = some (.cells ⟨fv :: .string bd :: tl⟩ T) := by
  rw [hg.block q (by simp; omega) (fun e => bJ1 h.own hT h.qc e.symm), heap_alloc_old W _ a0]; exact h.qc
 have k2 : W'.heap[b]? = some (.cells #[.string left] 285) := by
  have hr := h.rd
  unfold aK4 at hr
  rw [hg.block b (by simp; omega) (fun e => bJ1 h.own (by decide) hr e.symm), heap_alloc_old W _ a1]; exact hr
 have hz : ∀ g, fv.ownBlock = some g → B ≤ g := fun g hg => (aR9 h.own hg).1
 have a2 : Below B w W' := (h.low.alloc hB o).grown hg (by simp; omega) hz;refine ⟨k1, ⟨?_, ?_, ?_, bsc a2 hq 0⟩⟩
 ·show _ = _
  rw [heap_setCell_other _ _ b _ (fun e => a3 e.symm)]; exact k2
 ·rw [aA3 _ _ _ _ _ _ _ k1]; rfl
 rw [bK3, cH0, List.length_append];refine aA9 hown (fun j hj => ?_)
 rw [heap_setCell_other _ _ j _ (fun e => by
  subst e
  exact bJ1 hown hT k1 hj)]
def bZ3 (fs : Fs) (left : Tx) : Fs := if cutA left nmE = clen then fs else fs ++ [(cutA left nmE, cutA (cutB left nmE) lnE)]
def cE2 (left : Tx) : ByteArray := cutB (cutB left nmE) lnE
theorem cJ5 (w0 : World) (B b q : Nat) (T : TypeId) (bd : Tx) (tl : List Value) (fs : Fs) (left : Tx) (fv : Value) (w : World) (hst : RdSt w0 B b q T bd tl fs left fv w) (hT : bZ2 T) (hB : B ≤ w.heap.size) (hbB : B ≤ b) (hqB : B ≤ q) (hl : left.size ≤ 4000000) (hn : fs.length ≤ 1000) (hlen : aH5 w0) (hlB : 1 < B) :
  Calls prog 370 #[.pointer (some ⟨q, 0, none⟩), .pointer (some ⟨b, 0, none⟩)] w fun e w' => e = .returned (.tuple #[]) ∧ ∃ fv', RdSt w0 B b q T bd tl (bZ3 fs left) (cE2 left) fv' w' := by
 obtain ⟨i0, hi, c3, c4, c5⟩ := info_parts dA1;have a3 := hlen.below hst.low hlB;have z1 := aF9 left nmE;have z2 := aH1 left nmE;have z3 := aF9 (cutB left nmE) lnE;go_enter func370, ntmps370;go_wp2_with fail
 refine (aR8 b left nmE _ hst.rd hl a3).mono ?_;rintro e w1 ⟨rfl, b1⟩;have a2 := hst.took hB hbB b1;have b2 : B ≤ w1.heap.size := Nat.le_trans hB b1.2.size;have a4 := hlen.below a2.low hlB;clear hst b1 a3 hB;go_wp2_with fail
 refine (aR8 b (cutB left nmE) lnE _ a2.rd (by omega) a4).mono ?_;rintro e w2 ⟨rfl, b3⟩;have a0 := a2.took b2 hbB b3;have b4 : B ≤ w2.heap.size := Nat.le_trans b2 b3.2.size;clear a2 b3 a4 b2;obtain ⟨nm, a7⟩ := exq (cutA left nmE);obtain ⟨vl, a8⟩ := exq (cutA (cutB left nmE) lnE);obtain ⟨lf, b0⟩ := exq (cutB (cutB left nmE) lnE);rw [← a7] at z1;rw [← a8] at z3;rw [← b0] at a0;rw [← a7, ← a8];have c1 : Hid (cE2 left = lf) := b0.symm;by_cases hcl : nm = clen
 ·have b5 : Hid (bZ3 fs left = fs) := by
   show _ = _
   unfold bZ3
   rw [← a7, if_pos hcl]
  have ht : (nm.toList == clen.toList) = true := (aD3 _ _).2 hcl;rw [aQ6] at ht;have a6 := hid a0;clear a7 a8 b0 a0 hcl;go_wp2_with fail
  exact bodyPost_end (v := .tuple #[]) (by simp [results, results370, go_sem]) rfl ⟨rfl, fv, by rw [b5.out, c1.out]; exact a6.out⟩
 have b5 : Hid (bZ3 fs left = fs ++ [(nm, vl)]) := by
  show _ = _
  unfold bZ3
  rw [← a7, if_neg hcl, ← a8]
 have ht := aB8 hcl;rw [aQ6] at ht;have a6 := hid a0;clear a7 a8 b0 a0 hcl;obtain ⟨oa, cp, rfl⟩ := aA0 a6.out.own;obtain ⟨n, b6⟩ := exq fs.length;have HN := hid b6;rw [← b6] at a6 hn;clear b6
 have HA : Hid (∀ W, Below w2.drew.heap.size w2.drew W → Hid (RdSt w0 B b q T bd tl fs lf (.slice oa n cp) W) ∧ Hid (W.ownsRow B 232 2 (.slice oa n cp) n (aE5 fs)) ∧ W.cell? ⟨q, 0, none⟩ = some (.slice oa n cp) ∧ (∀ o, (W.alloc o).cell? ⟨q, 0, none⟩ = some (.slice oa n cp)) ∧ Hid (B ≤ W.heap.size) ∧ Hid (∀ o, B ≤ (W.alloc o).heap.size)) := fun W hW => by
  have hd : RdSt w0 B b q T bd tl fs lf (.slice oa n cp) w2.drew := a6.out.below b4 ((Below.refl _ _).drew)
  have h3 := hd.below b4 hW
  have h4 : B ≤ W.heap.size := Nat.le_trans b4 hW.size
  refine ⟨h3, by have := h3.own; rw [← HN.out] at this; exact this, h3.qcell.1, fun o => ?_, h4, fun o => by simp; omega⟩
  exact (h3.below h4 ((Below.refl _ _).alloc (Nat.le_refl _) o)).qcell.1
 have HM : Hid (∀ W3 W4 g a9, Hid (RdSt w0 B b q T bd tl fs lf (.slice oa n cp) W3) → Hid (B ≤ W3.heap.size) → (W3.alloc (.cells #[.string nm, .string vl] 232)).grownBy W4 (Value.slice oa n cp).ownBlock → W4.ownsRow B 232 2 (.slice (some ⟨g, 0, none⟩) (n + 1) a9) (n + 1) (aE5 fs ++ [.string nm, .string vl]) → W4.cell? ⟨q, 0, none⟩ = some (.slice oa n cp) ∧ W4.frozen? ⟨q, 0, none⟩ = false ∧ Hid (RdSt w0 B b q T bd tl (fs ++ [(nm, vl)]) lf (.slice (some ⟨g, 0, none⟩) (n + 1) a9) (W4.setCell ⟨q, 0, none⟩ (.slice (some ⟨g, 0, none⟩) (n + 1) a9)))) := fun W3 W4 g a9 h3 h4 hg ho => by
  obtain ⟨k1, k2⟩ := h3.out.more hT h4.out hqB hg (v' := .slice (some ⟨g, 0, none⟩) (n + 1) a9) (nm := nm) (vl := vl) (by rw [← HN.out]; exact ho)
  exact ⟨by simp [World.cell?, k1], by simp [World.frozen?, k1], k2⟩
 have d3 : w2.cell? ⟨q, 0, none⟩ = some (.slice oa n cp) := a6.out.qcell.1;have c6 : n + 1 ≤ maxLen := by unfold maxLen; omega
 have c7 : (n + 1) * 32 ≤ 140737488355328 := by omega
 have y1 : nm.size ≤ 281474976710656 := by omega
 have y2 : vl.size ≤ 281474976710656 := by omega
 clear a6 hT hlen z1 z2 z3 hl hn;go_wp2_with fail
 go_region_law (first | (go_simp; go_at_call 304; refine (bK6 nm vl _ y1 y2).mono ?_; rintro e w3 ⟨rfl, c2⟩; obtain ⟨c8, c9, d4, d0, d1, b7⟩ := HA.out w3 c2; clear c2) | ((refine step_append_lies _ (by rfl) _ _ _ (by rfl) B 232 i0 (.agg #[.string ⟨#[]⟩, .string ⟨#[]⟩]) 2 32 underlying223 hi c3 c4 c5 rfl (by omega) (.slice oa n cp) n (aE5 fs) (by rfl) (c9.out.alloc _) ⟨w3.heap.size, 0, none⟩ 1 1 [.string nm, .string vl] (by rfl) (by rfl) (World.news_of_block (cs := #[.string nm, .string vl]) (t := 232) (fr := (0, 0)) (heap_alloc_new w3 _)) (by simp [Value.oneCell']) (by omega) c6 c7 (b7.out _) (w3.heap.size + 1) (by simp) ?_; intro g4 b8 w4 a5 a1 b9 c0; obtain ⟨d5, d6, d2⟩ := HM.out w3 w4 g4 b8 c8 d1 a1 a5; clear a5 a1 b9 c0)))
 all_goals
  go_wp2_with fail
  exact bodyPost_end (v := .tuple #[]) (by simp [results, results370, go_sem]) rfl ⟨rfl, _, by rw [b5.out, c1.out]; exact d2.out⟩
def RdX (w : World) (b : Nat) (left : Tx) (tl : List Value) (T : TypeId) : Prop := w.heap[b]? = some (.cells ⟨.string left :: tl⟩ T)
theorem RdX.cell {w : World} {b : Nat} {left : ByteArray} {tl : List Value} {T : TypeId} (h : RdX w b left tl T) : w.cell? ⟨b, 0, none⟩ = some (.string left) := by
 unfold RdX at h;simp [World.cell?, h]
theorem RdX.frozen {w : World} {b : Nat} {left : ByteArray} {tl : List Value} {T : TypeId} (h : RdX w b left tl T) : w.frozen? ⟨b, 0, none⟩ = false := by
 unfold RdX at h;simp [World.frozen?, h]
theorem RdX.put {w : World} {b : Nat} {left : ByteArray} {tl : List Value} {T : TypeId} (h : RdX w b left tl T) (x : Tx) : RdX (w.setCell ⟨b, 0, none⟩ (.string x)) b x tl T := by
 have h2 := aA3 w b 0 _ _ _ (.string x) h;unfold RdX;simpa using h2
def dJ8 (b : Nat) (left : Tx) (tl : List Value) (T : TypeId) (w w' : World) : Prop := RdX w' b left tl T ∧ w.grownBy w' (some b)
theorem bH0 (b : Nat) (left sep : Tx) (tl : List Value) (T : TypeId) (w : World) (h : RdX w b left tl T) (hl : left.size ≤ 4000000) (hm : aH5 w) :
  Calls prog 277 #[.pointer (some ⟨b, 0, none⟩), .string sep] w fun e w' => e = .returned (.string (cutA left sep)) ∧ dJ8 b (cutB left sep) tl T w w' := by
 obtain ⟨m, hm⟩ := hm;have hc := h.cell;obtain ⟨x, hx⟩ := exq (cutA left sep);obtain ⟨y, hy⟩ := exq (cutB left sep);have HX : Hid ((⟨(Lib.cut left.data.toList sep.data.toList).1.toArray⟩ : Tx) = x) := hx.symm;have HY : Hid ((⟨(Lib.cut left.data.toList sep.data.toList).2.1.toArray⟩ : Tx) = y) := hy.symm;rw [← hx, ← hy];clear hx hy;go_enter func277, ntmps277;go_wp2_with fail
 refine (Tryz.strings_Cut left sep m _ (by omega) hm).mono ?_;rintro e w1 ⟨rfl, k, rfl⟩;rw [HX.out, HY.out];generalize (Lib.cut left.data.toList sep.data.toList).2.2 = t;have h1 : RdX (w.drewN k) b left tl T := h;have hg : w.grownBy (w.drewN k) (some b) := ⟨rfl, rfl, rfl, Nat.le_refl _, fun _ _ _ => rfl⟩
 have a0 := h1.cell;have a1 := h1.frozen;have HT : Hid (dJ8 b y tl T w ((w.drewN k).setCell ⟨b, 0, none⟩ (.string y))) := ⟨h1.put y, aB6 hg (aD9 _ _ _ _)⟩;clear hc h hm h1 hg;go_wp2_with fail
 go_ret;exact ⟨rfl, HT.out⟩
theorem dE3 (b : Nat) (left word : Tx) (tl : List Value) (T : TypeId) (w : World) (h : RdX w b left tl T) :
  Calls prog 284 #[.pointer (some ⟨b, 0, none⟩), .string word] w fun e w' => e = .returned (.tuple #[]) ∧ dJ8 b (aK5 left word) tl T w w' := by
 have hc := h.cell;have hf := h.frozen;have HT : Hid (dJ8 b (aK5 left word) tl T w (w.setCell ⟨b, 0, none⟩ (.string (aK5 left word)))) := ⟨h.put _, aD9 _ _ _ _⟩;obtain ⟨y, hy⟩ := exq (aK5 left word);have HY : Hid ((⟨(Lib.trimPrefix left.data.toList word.data.toList).toArray⟩ : Tx) = y) := hy.symm;rw [← hy] at HT ⊢;clear hy h;go_enter func284, ntmps284;go_wp2_with fail
 refine (Tryz.strings_TrimPrefix left word _).mono ?_;rintro e w1 ⟨rfl, rfl⟩;rw [HY.out];go_wp2_with fail
 exact bodyPost_end (v := .tuple #[]) (by simp [results, results284, go_sem]) rfl ⟨rfl, HT.out⟩
theorem cO7 (v : Value) (n base : Nat) (fs : Fs) (k : Nat) (w : World) (hv : aB4 w base v n fs) (hn : n ≤ 1073741824) (hk : k < n) (hs1 : (aD0 fs k).size ≤ maxLen) (hs2 : (aH7 fs k).size ≤ maxLen) :
  Calls prog 345 #[v, .int .i64 (k : Int)] w fun e w' => aA5 (bL3 fs k) w e w' := by
 have HV : Hid (∀ W, Bw w W → aB4 W base v n fs) := fun W h => hv.below h
 obtain ⟨oa, b8, rfl, a2⟩ := hv.slice;obtain ⟨g, rfl, a7⟩ := a2 k hk;have b6 : (k : Int) < (n : Int) := by omega
 have a8 := a7.name k hk;have a9 := a7.val k hk;obtain ⟨nm, b0⟩ := exq (aD0 fs k);obtain ⟨vl, b3⟩ := exq (aH7 fs k);have HO : Hid (bL3 fs k ↔ aK6 nm ∧ aK7 vl ∧ atF fs nm = k ∧ nm ≠ clen) := by rw [b0, b3]; exact Iff.rfl
 rw [← b0] at a8 hs1;rw [← b3] at a9 hs2;clear hv a2 a7 b0 b3;obtain ⟨r, hr⟩ := exq (w.heap.size);have h0 : (w.alloc (.cells #[.string nm, .string vl] 232)).heap.size = w.heap.size + 1 := by simp
 have a4 : Hid (Bw w (w.alloc (.cells #[.string nm, .string vl] 232)) ∧ w.heap.size ≤ (w.alloc (.cells #[.string nm, .string vl] 232)).heap.size) := ⟨(Below.refl _ w).alloc (Nat.le_refl _) _, by omega⟩
 have HR : Hid (∀ W, Below (w.alloc (.cells #[.string nm, .string vl] 232)).heap.size (w.alloc (.cells #[.string nm, .string vl] 232)) W → W.cell? ⟨r, 0, none⟩ = some (.string nm) ∧ W.cell? ⟨r, 1, none⟩ = some (.string vl)) := fun W h => by
  have hh : W.heap[r]? = some (.cells #[.string nm, .string vl] 232) := by rw [hr, h.block _ (by omega)]; exact heap_alloc_new w _
  exact ⟨by simp [World.cell?, hh], by simp [World.cell?, hh]⟩
 go_enter func345, ntmps345;go_wp2_with fail
 refine (aS5 nm _ hs1).mono ?_;rintro e w1 ⟨b1, rfl, a5, a1⟩;rw [← hr];have b4 : Bw w w1 := a4.out.1.trans (a1.mono a4.out.2);obtain ⟨d1, d2⟩ := HR.out w1 a1;clear h0;cases b1
 ·have HF : Hid (¬ bL3 fs k) := fun h => by have := a5.2 (HO.out.1 h).1; cases this
  clear a5 a8 a9 a1 hr;go_wp2_with fail
  go_ret;exact aA5.no HF.out b4
 have HT : Hid (aK6 nm) := a5.1 rfl;clear a5 a8 a9 hr;go_wp2_with fail
 refine (aS7 vl _ hs2).mono ?_;rintro e w2 ⟨b2, rfl, a6, b5⟩;have a0 := a1.trans (b5.mono a1.size);have a3 : Bw w w2 := a4.out.1.trans (a0.mono a4.out.2);obtain ⟨d3, d4⟩ := HR.out w2 a0;cases b2
 ·have HF : Hid (¬ bL3 fs k) := fun h => by have := a6.2 (HO.out.1 h).2.1; cases this
  clear a6 a1 b5 a0 b4 d1 d2;go_wp2_with fail
  go_ret;exact aA5.no HF.out a3
 have b7 : Hid (aK7 vl) := a6.1 rfl;clear a6 a1 b5 a0 b4 d1 d2;by_cases hcl : nm = clen
 ·have ht := (aD3 _ _).2 hcl;rw [aQ6] at ht;have HF : Hid (¬ bL3 fs k) := fun h => (HO.out.1 h).2.2.2 hcl
  clear hcl;go_wp2_with fail
  go_ret;exact aA5.no HF.out a3
 have ht := aB8 hcl;rw [aQ6] at ht;have HC := hid hcl;clear hcl;go_wp2_with fail
 refine (bQ3 _ n base fs nm _ (HV.out w2 a3) hn).mono ?_;rintro e w3 ⟨rfl, rfl⟩;by_cases hat : atF fs nm = k
 ·have HY : Hid (bL3 fs k) := HO.out.2 ⟨HT.out, b7.out, hat, HC.out⟩;rw [hat];clear hat;go_wp2
  go_ret;exact aA5.yes HY.out a3
 have HF : Hid (¬ bL3 fs k) := fun h => hat (HO.out.1 h).2.2.1
 have b9 : ((atF fs nm : Int) == (k : Int)) = false := by rw [beq_eq_false_iff_ne]; omega
 clear hat;go_wp2
 go_ret;exact aA5.no HF.out a3
theorem dS2 (v : Value) (n base : Nat) (fs : Fs) (w : World) (hv : aB4 w base v n fs) (hn : n ≤ 1073741824) (hsz : ∀ i, i < n → (aD0 fs i).size ≤ maxLen ∧ (aH7 fs i).size ≤ maxLen) :
  Calls prog 327 #[v] w fun e w' => aA5 (aG5 fs) w e w' := by
 have hl := hv.len;have HV : Hid (∀ W, Bw w W → aB4 W base v n fs) := fun W h => hv.below h
 have HS := hid hsz;obtain ⟨oa, a9, rfl, a3⟩ := hv.slice;clear hv a3 hsz;by_cases h8 : (8 : Int) < (n : Int)
 ·have HF : Hid (¬ aG5 fs) := fun h => by have := h.1; omega
  go_enter func327, ntmps327;go_wp2
  go_ret;exact aA5.no HF.out (Below.refl _ _)
 go_enter func327, ntmps327;go_wp2
 go_loopw [9] (fun i wr => ∃ k : Nat, k ≤ n ∧ i = .int .i64 (k : Int) ∧ Hid (∀ j, j < k → bL3 fs j) ∧ Bw w wr) (fun i _ => n - (intOf i).toNat)
 case atStart => exact ⟨0, Nat.zero_le _, rfl, fun j h => absurd h (by omega), Below.refl _ _⟩
 case round =>
  obtain ⟨k, hk, rfl, a0, a1⟩ := hrel;by_cases hlt : k < n
  rotate_left
  ·have HF : Hid (aG5 fs) := ⟨by omega, fun i hi => a0.out i (by omega)⟩
   go_wp2
   go_ret;exact aA5.yes HF.out a1
  have a6 : (k : Int) < (n : Int) := by omega
  obtain ⟨a7, a8⟩ := HS.out k hlt;go_wp2_with fail
  refine (cO7 _ n base fs k _ (HV.out wr a1) hn hlt a7 a8).mono ?_;rintro e w1 ⟨b1, rfl, a2, a4⟩;have a5 : Bw w w1 := a1.trans (a4.mono a1.size);cases b1
  ·have HF : Hid (¬ aG5 fs) := fun h => by have := a2.2 (h.2 k (by omega)); cases this
   clear a2 a4;go_wp2
   go_ret;exact aA5.no HF.out a5
  have HY : Hid (bL3 fs k) := a2.1 rfl;clear a2 a4;go_wp2
  go_roundw
  case rel =>
   refine ⟨k + 1, by omega, by go_num, ?_, a5⟩;intro j hj;by_cases e : j = k
   ·subst e; exact HY.out
   exact a0.out j (by omega)
  case measure => simp [intOf]; omega
theorem dJ9 (n : Int) : aV3 n ↔ (cls n ≠ 4 ∧ cls n ≠ 7) := by
 have := aM7 n;unfold aV3;constructor
 ·intro h; omega
 intro h; omega
theorem bZ4 {n : Int} (h : aV3 n) : n < 128 := by unfold aV3 at h; omega
theorem bV2 (r : Int) (w : World) :
  Calls prog 255 #[.int .i32 r] w fun e w' => aA5 (aV3 r) w e w' := by
 have HP : Hid (aV3 r ↔ (cls r ≠ 4 ∧ cls r ≠ 7)) := dJ9 r;go_enter func255, ntmps255;go_wp2_with fail
 refine (aG8 r _).mono ?_;rintro e w1 ⟨rfl, hb⟩;generalize cls r = c at HP ⊢;by_cases h4 : c = 4
 ·have HN : Hid (¬ aV3 r) := fun h => (HP.out.1 h).1 h4
  subst h4;go_wp2_with fail
  go_ret;exact aA5.no HN.out hb
 have h5 : (c != 4) = true := by rw [bne_iff_ne]; exact h4
 by_cases h7 : c = 7
 ·have HN : Hid (¬ aV3 r) := fun h => (HP.out.1 h).2 h7
  subst h7;go_wp2_with fail
  go_ret;exact aA5.no HN.out hb
 have h8 : (c != 7) = true := by rw [bne_iff_ne]; exact h7
 have HY : Hid (aV3 r) := HP.out.2 ⟨h4, h7⟩;go_wp2_with fail
 go_ret;exact aA5.yes HY.out hb
theorem cE3 (s : Tx) (w : World) :
  Calls prog 254 #[.string s, .func (.func 255) #[] #[]] w fun e w' => aA5 (AllB aV3 s) w e w' := by
 go_enter func254, ntmps254;go_wp2
 go_loopw [6] (fun _ wr => ∃ pos : Nat, wr.heap[w.heap.size]? = some (.stringIter s pos) ∧ Bw w wr ∧ Hid (bU3 aV3 s pos)) (fun _ wr => s.size - wr.iterPos w.heap.size)
 case atStart => exact ⟨0, World.iter_heap _ _ _, (Below.refl _ _).alloc (Nat.le_refl _) _, aS1 _ _⟩
 case round =>
  obtain ⟨pos, hh, a2, a0⟩ := hrel;by_cases hp : pos < s.size
  rotate_left
  ·have a5 := fun ty => run_next_end_at (P := prog) wr w.heap.size s pos ty hh hp
   go_wp2
   go_ret;exact aA5.yes (aV1 a0.out hp) a2
  have a5 := fun ty => run_next_any_at (P := prog) wr w.heap.size s pos ty hh hp
  go_wp2_with (go_at_call 255; refine (bV2 _ _).mono ?_; rintro e w1 ⟨b, rfl, hbt, a3⟩)
  ·have a1 : b = false := by simpa using ‹(!b) = true›
   have a6 : ¬ aV3 ((Utf8.decode s pos).1 : Int) := fun h => by rw [hbt.2 h] at a1; cases a1
   go_ret;exact aA5.no (cL5 (fun _ => bZ4) s pos hp a6) (aI2 hh a2 a3).2
  have a1 : b = true := by simpa using ‹(!b) = false›
  obtain ⟨hv, a4⟩ := cL4 (fun _ => bZ4) s pos hp (hbt.1 a1)
  rw [a4] at a3;obtain ⟨h1, h2⟩ := aI2 hh a2 a3;exact ⟨⟨pos + 1, h1, h2, aS2 a0.out hp hv⟩, by rw [iterPos_of h1, iterPos_of hh]; omega⟩
theorem bJ2 (s : Tx) (w : World) (hs : s.size ≤ maxLen) :
  Calls prog 182 #[.string s] w fun e w' => aA5 (aI9 s) w e w' := by
 unfold maxLen at hs;by_cases h1 : (1 : Int) ≤ (s.size : Int)
 rotate_left
 ·have HN : Hid (¬ aI9 s) := fun h => by obtain ⟨_, h5, _⟩ := h; omega
  have hd : decide ((1 : Int) ≤ (s.size : Int)) = false := by simpa using h1
  go_enter func182, ntmps182;go_wp2_with fail
  go_ret;exact aA5.no HN.out (Below.refl _ _)
 have h0 : 0 < s.size := by omega
 by_cases h2 : (s.size : Int) ≤ 60
 rotate_left
 ·have HN : Hid (¬ aI9 s) := fun h => by obtain ⟨_, _, h5, _⟩ := h; omega
  have hd : decide ((s.size : Int) ≤ 60) = false := by simpa using h2
  go_enter func182, ntmps182;go_wp2_with fail
  go_ret;exact aA5.no HN.out (Below.refl _ _)
 by_cases h3 : ((s[0]'h0).toNat : Int) = 47
 rotate_left
 ·have h4 : (((s[0]'h0).toNat : Int) == 47) = false := by rw [beq_eq_false_iff_ne]; exact h3
  have HN : Hid (¬ aI9 s) := fun h => by obtain ⟨_, _, _, _, h5⟩ := h; omega
  clear h3;go_enter func182, ntmps182;go_wp2_with fail
  go_ret;exact aA5.no HN.out (Below.refl _ _)
 have h4 : (((s[0]'h0).toNat : Int) == 47) = true := by rw [beq_iff_eq]; exact h3
 have H3 : Hid ((s[0]'h0).toNat = 47) := by show _ = _; omega
 clear h3;go_enter func182, ntmps182;go_wp2_with fail
 refine (cE3 s _).mono ?_;rintro e w1 ⟨b, rfl, hbt, a0⟩;cases b
 ·have HN : Hid (¬ aI9 s) := fun h => by have := hbt.2 h.1; cases this
  clear hbt;go_wp2_with fail
  go_ret;exact aA5.no HN.out a0
 have HY : Hid (aI9 s) := ⟨hbt.1 rfl, by omega, by omega, h0, H3.out⟩;clear hbt;go_wp2_with fail
 go_ret;exact aA5.yes HY.out a0
def dK0 (fs : Fs) (b : Tx) : Prop := aG5 fs ∧ b.size ≤ 120
theorem cX1 (v : Value) (b : Tx) (n base : Nat) (fs : Fs) (w : World) (hv : aB4 w base v n fs) (hn : n ≤ 1073741824) (hsz : aR0 n fs) (hb : b.size ≤ maxLen) :
  Calls prog 296 #[.agg #[v, .string b]] w fun e w' => aA5 (dK0 fs b) w e w' := by
 obtain ⟨oa, a1, rfl, _⟩ := hv.slice;obtain ⟨r, hr⟩ := exq (w.heap.size)
 have HR : Hid (∀ W, Below (w.alloc (.cells #[.slice oa n a1, .string b] 225)).heap.size (w.alloc (.cells #[.slice oa n a1, .string b] 225)) W → (W.cell? ⟨r, 0, none⟩ = some (.slice oa n a1) ∧ W.cell? ⟨r, 1, none⟩ = some (.string b)) ∧ aB4 W base (.slice oa n a1) n fs ∧ Bw w W) := fun W h => by
  have hh := aW8 h
  rw [← hr] at hh
  exact ⟨⟨by simp [World.cell?, hh], by simp [World.cell?, hh]⟩, hv.below (aI4 h), aI4 h⟩
 obtain ⟨_, a3, _⟩ := HR.out _ (Below.refl _ _);unfold maxLen at hb;go_enter func296, ntmps296;go_wp2_with fail
 refine (dS2 _ n base fs _ a3 hn hsz).mono ?_;rintro e w1 ⟨b1, rfl, a2, a4⟩;rw [← hr];obtain ⟨⟨c0, c1⟩, _, a0⟩ := HR.out w1 a4;clear hv a3 hsz a4 hr;cases b1
 ·have HF : Hid (¬ dK0 fs b) := fun h => by have := a2.2 h.1; cases this
  clear a2;go_wp2_with fail
  go_ret;exact aA5.no HF.out a0
 have HT : Hid (aG5 fs) := a2.1 rfl;clear a2;by_cases h120 : (b.size : Int) ≤ 120
 ·have HY : Hid (dK0 fs b) := ⟨HT.out, by omega⟩;go_wp2_with fail
  go_ret;exact aA5.yes HY.out a0
 have HF : Hid (¬ dK0 fs b) := fun h => by have := h.2; omega
 have hd : decide ((b.size : Int) ≤ 120) = false := by simpa using h120
 go_wp2_with fail
 go_ret;exact aA5.no HF.out a0
theorem bJ3 (st : Int) (v : Value) (b : Tx) (n base : Nat) (fs : Fs) (w : World) (hv : aB4 w base v n fs) (hn : n ≤ 1073741824) (hsz : aR0 n fs) (hb : b.size ≤ maxLen) :
  Calls prog 253 #[.agg #[v, .string b, .int .i64 st]] w fun e w' => aA5 (aN1 st fs b) w e w' := by
 obtain ⟨oa, a2, rfl, _⟩ := hv.slice;obtain ⟨r, hr⟩ := exq (w.heap.size)
 have HR : Hid (∀ W, Below (w.alloc (.cells #[.slice oa n a2, .string b, .int .i64 st] 227)).heap.size (w.alloc (.cells #[.slice oa n a2, .string b, .int .i64 st] 227)) W → (W.cell? ⟨r, 0, none⟩ = some (.slice oa n a2) ∧ W.cell? ⟨r, 1, none⟩ = some (.string b) ∧ W.cell? ⟨r, 2, none⟩ = some (.int .i64 st)) ∧ aB4 W base (.slice oa n a2) n fs ∧ Bw w W) := fun W h => by
  have hh := aW8 h
  rw [← hr] at hh
  exact ⟨⟨by simp [World.cell?, hh], by simp [World.cell?, hh], by simp [World.cell?, hh]⟩, hv.below (aI4 h), aI4 h⟩
 obtain ⟨_, a4, a0⟩ := HR.out _ (Below.refl _ _);have a6 := hid a4;have a7 := hid hsz;have a8 := hid hb;clear hv a4 hsz hb;by_cases h1 : 100 ≤ st
 rotate_left
 ·have HF : Hid (¬ aN1 st fs b) := fun h => h1 h.1.1
  have hd : decide (100 ≤ st) = false := by simpa using h1
  go_enter func253, ntmps253;go_wp2_with fail
  go_ret;exact aA5.no HF.out a0
 by_cases h2 : st ≤ 599
 rotate_left
 ·have HF : Hid (¬ aN1 st fs b) := fun h => h2 h.1.2
  have hd : decide (st ≤ 599) = false := by simpa using h2
  go_enter func253, ntmps253;go_wp2_with fail
  go_ret;exact aA5.no HF.out a0
 go_enter func253, ntmps253;go_wp2_with fail
 refine (cX1 _ b n base fs _ a6.out hn a7.out a8.out).mono ?_;rintro e w3 ⟨b2, rfl, a3, a5⟩;obtain ⟨_, _, a1⟩ := HR.out w3 a5;clear a5 a0;cases b2
 ·have HF : Hid (¬ aN1 st fs b) := fun h => by have := a3.2 h.2; cases this
  clear a3;go_wp2_with fail
  go_ret;exact aA5.no HF.out a1
 have HY : Hid (aN1 st fs b) := ⟨⟨h1, h2⟩, a3.1 rfl⟩;clear a3;go_wp2_with fail
 go_ret;exact aA5.yes HY.out a1
theorem bK8 (m : Int) (oa : Oa) (n cap : Nat) (b : Tx) (w : World) :
  Calls prog 189 #[.agg #[.int .i64 m, .slice oa n cap, .string b]] w fun e w' => e = .returned (.agg #[.slice oa n cap, .string b, .int .i64 m]) ∧ Below w.heap.size w w' := by
 go_enter func189, ntmps189;go_wp2
 exact bodyPost_ret (v := .agg #[.slice oa n cap, .string b, .int .i64 m]) (by simp [results, results189, go_sem]) rfl ⟨rfl, ((Below.refl _ _).alloc (Nat.le_refl _) _).alloc (by simp) _⟩
theorem dE4 (m : Int) (oa : Oa) (n cap : Nat) (b : Tx) (w : World) :
  Calls prog 338 #[.agg #[.slice oa n cap, .string b, .int .i64 m]] w fun e w' => e = .returned (.agg #[.int .i64 m, .slice oa n cap, .string b]) ∧ Below w.heap.size w w' := by
 go_enter func338, ntmps338;go_wp2
 exact bodyPost_ret (v := .agg #[.int .i64 m, .slice oa n cap, .string b]) (by simp [results, results338, go_sem]) rfl ⟨rfl, ((Below.refl _ _).alloc (Nat.le_refl _) _).alloc (by simp) _⟩
theorem bV3 (m : Int) (v : Value) (b : Tx) (n base : Nat) (fs : Fs) (w : World) (hv : aB4 w base v n fs) (hn : n ≤ 1073741824) (hsz : aR0 n fs) (hb : b.size ≤ maxLen) :
  Calls prog 181 #[.agg #[.int .i64 m, v, .string b]] w fun e w' => aA5 (aN1 m fs b) w e w' := by
 obtain ⟨oa, a2, rfl, _⟩ := hv.slice;have a1 : Bw w (w.alloc (.cells #[.int .i64 m, .slice oa n a2, .string b] 34)) := (Below.refl _ _).alloc (Nat.le_refl _) _;go_enter func181, ntmps181;go_wp2_with fail
 refine (bK8 m oa n a2 b _).mono ?_;rintro e w1 ⟨rfl, a3⟩;have a0 : Bw w w1 := a1.trans (a3.mono a1.size);have a4 := hv.below a0;clear a3 a1 hv;go_wp2_with fail
 refine (bJ3 m _ b n base fs _ a4 hn hsz hb).mono ?_;rintro e w2 ⟨b1, rfl, kb, a5⟩;have a6 : Bw w w2 := a0.trans (a5.mono a0.size);have HK : Hid (b1 = true ↔ aN1 m fs b) := kb;clear a4 hsz hb a5 a0 kb;go_wp2_with fail
 go_ret;exact ⟨b1, rfl, HK.out, a6⟩
end Go.Proofs.YtiobfnpmidjijaaGreatDoor
namespace Go.Proofs
open Go.Shelf
def Tryz.lays166_ren : Go.Shelf.Ren := ⟨fun | 166 => 87 | 240 => 187 | 276 => 261 | n => n, fun | 0 => 0 | 3 => 3 | 4 => 4 | 5 => 5 | 9 => 9 | 20 => 20 | 37 => 22 | 70 => 134 | 72 => 136 | 75 => 138 | 80 => 108 | 164 => 297 | n => n, fun | n => n⟩
theorem Tryz.lays166 : Go.Proofs.Lays.n166 prog Tryz.lays166_ren := {
  mixed := by kernel_rfl
  f166 := func87.trans (congrArg some (by kernel_rfl))
  f240 := func187.trans (congrArg some (by kernel_rfl))
  f276 := func261.trans (congrArg some (by kernel_rfl))
  t0 := underlying0
  a0 := isAgg0
  z0 := sizeOf0
  v0 := zeroValue0
  t3 := underlying3
  a3 := isAgg3
  z3 := sizeOf3
  v3 := zeroValue3
  t4 := underlying4
  a4 := isAgg4
  z4 := sizeOf4
  v4 := zeroValue4
  t9 := underlying9
  a9 := isAgg9
  z9 := sizeOf9
  v9 := zeroValue9
  t20 := underlying20
  a20 := isAgg20
  z20 := sizeOf20
  v20 := zeroValue20
  t37 := underlying22
  a37 := isAgg22
  z37 := sizeOf22
  v37 := zeroValue22
  t70 := underlying134
  a70 := isAgg134
  z70 := sizeOf134
  v70 := zeroValue134
  t72 := underlying136
  a72 := isAgg136
  z72 := sizeOf136
  v72 := zeroValue136
  t75 := underlying138
  a75 := isAgg138
  z75 := sizeOf138
  v75 := zeroValue138
  t164 := underlying297
  a164 := isAgg297
  z164 := sizeOf297
  v164 := zeroValue297 }
theorem Tryz.Builder_Extra_166 : Builder.Extra prog Tryz.lays166_ren := {
  sizeBuilder := by kernel_rfl
  liesBuilder := by kernel_rfl
  t5 := underlying5
  a5 := isAgg5
  z5 := sizeOf5
  v5 := zeroValue5
  infoByte := by kernel_rfl
  cellsByte := by kernel_rfl
  sizeByte := by kernel_rfl
  neB5 := by decide }
open Go.RowKit in
theorem Tryz.Builder_WriteString (B b : Nat) (bs : List Value) (s : ByteArray) (w : World) (h : Lib.IsBuilder 136 5 B b bs w) (hlen : bs.length + s.size ≤ 140737488355328) (hBw : B ≤ w.heap.size) :
    Calls prog 87 #[.pointer (some ⟨b, 0, none⟩), .string s] w fun e w' => e = .returned (.tuple #[.int .i64 s.size, .nilIface]) ∧ (Lib.BuilderAt 136 5 B b (.pointer (some ⟨b, 0, none⟩)) (bs ++ Lib.strCells s) w' ∧ Below B w w') := Any.Builder_WriteString Tryz.lays166 Tryz.Builder_Extra_166 B b bs s w h hlen hBw
end Go.Proofs
namespace Go.Proofs.YtiobfnpmidjijaaGreatDoor
open Go.Proofs.Tryz
open Go.RowKit
open Go.Lib hiding intOf
theorem bS0 (a b : ByteArray) : strCells (a ++ b) = strCells a ++ strCells b := by simp [strCells]
def aH9 (B : Nat) (t : ByteArray) (w : World) : Prop := IsBuilder 136 5 B B (strCells t) w
theorem aT7 (B : Nat) (t s : ByteArray) (w : World) (h : aH9 B t w) (hlen : t.size + s.size ≤ 140737488355328) (hBw : B ≤ w.heap.size) :
    Calls prog 87 #[.pointer (some ⟨B, 0, none⟩), .string s] w fun e w' => e = .returned (.tuple #[.int .i64 s.size, .nilIface]) ∧ aH9 B (t ++ s) w' ∧ Below B w w' := by
  refine (Tryz.Builder_WriteString B B _ s w h (by rw [strCells_length]; exact hlen) hBw).mono ?_
  rintro e w' ⟨rfl, h1, h2⟩
  exact ⟨rfl, .inr (by rw [bS0]; exact h1), h2⟩
theorem cT2 (B : Nat) (t : ByteArray) (w : World) (h : aH9 B t w) (hBw : B ≤ w.heap.size) :
    Calls prog 90 #[.pointer (some ⟨B, 0, none⟩)] w fun e w' => e = .returned (.string t) ∧ Below B w w' :=
  Tryz.Builder_String_any B B t.data.toList w h hBw
theorem cT3 (v : Value) (n base : Nat) (fs : List (ByteArray × ByteArray)) (w : World) (hv : aB4 w base v n fs) (hn : n ≤ 1073741824) (hsz : (aC7 fs).size ≤ 1099511627776) :
    Calls prog 303 #[v] w fun e w' => aD5 (aC7 fs) w e w' := by
  have hl := hv.len
  obtain ⟨oa, cap, rfl, hrow⟩ := hv.slice
  have HROW : Hid (∀ k, k < n → ∃ g, oa = some ⟨g, 0, none⟩ ∧ aF6 base w g n cap fs) := hrow
  have HZ : Hid (∀ k, k < n → (ftTo fs (k + 1)).size ≤ 1099511627776) := fun k hk => by
    have := cG4 fs (k + 1) (fs.length - (k + 1))
    rw [show k + 1 + (fs.length - (k + 1)) = fs.length by omega] at this
    exact Nat.le_trans this hsz
  have HF : Hid (aC7 fs = ftTo fs n) := by show _ = _; unfold aC7; rw [hl]
  have H0 : Hid (aH9 w.heap.size ⟨#[]⟩ (w.alloc (.cells #[.pointer none, .slice none 0 0] 136))) := fresh_isBuilder 136 5 w
  clear hsz hv hrow
  go_enter func303, ntmps303
  go_wp2
  go_loopw [7] (fun i wr => ∃ k : Nat, k ≤ n ∧ i = .int .i64 (k : Int) ∧ Hid (aH9 w.heap.size (ftTo fs k) wr) ∧ Below w.heap.size w wr) (fun i _ => n - (intOf i).toNat)
  case atStart => exact ⟨0, Nat.zero_le _, rfl, H0, (Below.refl _ _).alloc (Nat.le_refl _) _⟩
  case round =>
    obtain ⟨k, hk, rfl, hI, hbw⟩ := hrel
    by_cases hlt : k < n
    · have hlt2 : (k : Int) < (n : Int) := by omega
      obtain ⟨g, rfl, row⟩ := HROW.out k hlt
      obtain ⟨nm, hnm⟩ : ∃ x, x = aD0 fs k := ⟨_, rfl⟩
      obtain ⟨vl, hvl⟩ : ∃ x, x = aH7 fs k := ⟨_, rfl⟩
      obtain ⟨out, hout⟩ : ∃ x, x = ftTo fs k := ⟨_, rfl⟩
      have HR : Hid (∀ W, Below w.heap.size w W → W.cell? ⟨g, k * 2, none⟩ = some (.string nm) ∧ W.cell? ⟨g, k * 2 + 1, none⟩ = some (.string vl)) := fun W h => by
        rw [hnm, hvl]; exact ⟨(row.below h row.lt).name k hlt, (row.below h row.lt).val k hlt⟩
      have hz := HZ.out k hlt
      rw [bE4] at hz
      have HN : Hid (out ++ nm ++ ⟨#[58, 32]⟩ ++ vl ++ ⟨#[13, 10]⟩ = ftTo fs (k + 1)) := by
        show _ = _
        rw [ftTo, ← hout, hnm, hvl]
      rw [← hout, ← hnm, ← hvl] at hz
      rw [← hout] at hI
      have e1 : (⟨#[58, 32]⟩ : ByteArray).size = 2 := rfl
      have e2 : (⟨#[13, 10]⟩ : ByteArray).size = 2 := rfl
      have q1 : out.size + nm.size ≤ 140737488355328 := by omega
      have q2 : (out ++ nm).size + (⟨#[58, 32]⟩ : ByteArray).size ≤ 140737488355328 := by rw [ByteArray.size_append]; omega
      have q3 : (out ++ nm ++ ⟨#[58, 32]⟩).size + vl.size ≤ 140737488355328 := by rw [ByteArray.size_append, ByteArray.size_append]; omega
      have q4 : (out ++ nm ++ ⟨#[58, 32]⟩ ++ vl).size + (⟨#[13, 10]⟩ : ByteArray).size ≤ 140737488355328 := by rw [ByteArray.size_append, ByteArray.size_append, ByteArray.size_append]; omega
      obtain ⟨c1, c2⟩ := HR.out wr hbw
      clear hnm hvl hout hz row
      go_wp2_with fail
      refine (aT7 w.heap.size out nm _ hI.out q1 hbw.size).mono ?_
      rintro e w1 ⟨rfl, hI1, hb1⟩
      have hbw1 := hbw.trans hb1
      have HI1 : Hid (aH9 w.heap.size (out ++ nm) w1) := hI1
      obtain ⟨c1a, c2a⟩ := HR.out w1 hbw1
      clear c1 c2 hb1 hI1 hI hbw
      go_wp2_with fail
      refine (aT7 w.heap.size (out ++ nm) ⟨#[58, 32]⟩ _ HI1.out q2 hbw1.size).mono ?_
      rintro e w2 ⟨rfl, hI2, hb2⟩
      have hbw2 := hbw1.trans hb2
      have HI2 : Hid (aH9 w.heap.size (out ++ nm ++ ⟨#[58, 32]⟩) w2) := hI2
      obtain ⟨c1b, c2b⟩ := HR.out w2 hbw2
      clear c1a c2a hb2 hI2 HI1 hbw1
      go_wp2_with fail
      refine (aT7 w.heap.size (out ++ nm ++ ⟨#[58, 32]⟩) vl _ HI2.out q3 hbw2.size).mono ?_
      rintro e w3 ⟨rfl, hI3, hb3⟩
      have hbw3 := hbw2.trans hb3
      have HI3 : Hid (aH9 w.heap.size (out ++ nm ++ ⟨#[58, 32]⟩ ++ vl) w3) := hI3
      clear c1b c2b hb3 hI3 HI2 hbw2
      go_wp2_with fail
      refine (aT7 w.heap.size (out ++ nm ++ ⟨#[58, 32]⟩ ++ vl) ⟨#[13, 10]⟩ _ HI3.out q4 hbw3.size).mono ?_
      rintro e w4 ⟨rfl, hI4, hb4⟩
      have hbw4 := hbw3.trans hb4
      rw [HN.out] at hI4
      have HI4 : Hid (aH9 w.heap.size (ftTo fs (k + 1)) w4) := hI4
      clear hb4 hI4 HI3 hbw3
      go_wp2
      go_roundw
      case rel => exact ⟨k + 1, by omega, by go_num, HI4, hbw4⟩
      case measure => simp [intOf]; omega
    · obtain rfl : k = n := by omega
      go_wp2_with fail
      refine (cT2 w.heap.size _ _ hI.out hbw.size).mono ?_
      rintro e w1 ⟨rfl, hb1⟩
      have hbw1 := hbw.trans hb1
      clear hb1 hbw hI
      go_wp2
      go_ret
      exact aD5.of HF.out.symm hbw1
def bS1 (tell : Bool) (fs : Fs) (b : Tx) : ByteArray :=
 (if tell = true then aC7 fs ++ (⟨#[]⟩ ++ clen ++ ⟨#[58, 32]⟩ ++ aB7 b.size ++ ⟨#[13, 10]⟩) else aC7 fs) ++ ⟨#[13, 10]⟩ ++ b
theorem bZ5 (a b : Tx) : aC7 [(a, b)] = ⟨#[]⟩ ++ a ++ ⟨#[58, 32]⟩ ++ b ++ ⟨#[13, 10]⟩ := rfl
theorem dO5 {w W : World} {base : Nat} {a b : ByteArray} (h : W.heap[w.heap.size]? = some (.cells #[.string a, .string b] 232)) (hb : base ≤ w.heap.size) (hl : w.heap.size < W.heap.size) : aB4 W base (.slice (some ⟨w.heap.size, 0, none⟩) 1 1) 1 [(a, b)] := by
 refine .inr ⟨w.heap.size, 1, rfl, by omega, ⟨rfl, hb, hl, Nat.le_refl _, by unfold maxLen; omega, _, h, rfl, ?_⟩⟩;intro i hi;obtain rfl : i = 0 := by omega
 exact ⟨rfl, rfl⟩
theorem dE5 (st : Int) (fs : Fs) (b : Tx) : ⟨#[72, 84, 84, 80, 47, 49, 46, 49, 32]⟩ ++ aB7 st.toNat ++ ⟨#[32]⟩ ++ ⟨#[46]⟩ ++ ⟨#[13, 10]⟩ ++ bS1 true fs b = aL7 st fs b := by
 apply aE3
 unfold aL7 bS1;simp [bs, aJ6, cR2, lnE2, dH5, clen]
theorem cX2 (tell : Bool) {fs : Fs} (hf : aG5 fs) {b : ByteArray} (hb : b.size ≤ 120) : (bS1 tell fs b).size ≤ 1000 := by
 have h1 := bM6 hf;have h2 := aD8 b.size;have e1 : (⟨#[]⟩ : Tx).size = 0 := rfl;have e2 : clen.size = 14 := rfl;have e3 : (⟨#[58, 32]⟩ : Tx).size = 2 := rfl;have e4 : (⟨#[13, 10]⟩ : Tx).size = 2 := rfl;unfold bS1;cases tell
 ·rw [if_neg (by decide)]; simp only [ByteArray.size_append]; omega
 rw [if_pos rfl]; simp only [ByteArray.size_append]; omega
theorem cJ6 (v : Value) (b : Tx) (tell : Bool) (n base : Nat) (fs : Fs) (w : World) (hv : aB4 w base v n fs) (hn : n ≤ 1073741824) (hf : aG5 fs) (hb : b.size ≤ 120) (htab : aG9 w) :
  Calls prog 263 #[.agg #[v, .string b], .bool tell] w fun e w' => aD5 (bS1 tell fs b) w e w' := by
 obtain ⟨oa, a0, rfl, _⟩ := hv.slice;obtain ⟨r, hr⟩ := exq (w.heap.size)
 have HR : Hid (∀ W, Below (w.alloc (.cells #[.slice oa n a0, .string b] 225)).heap.size (w.alloc (.cells #[.slice oa n a0, .string b] 225)) W → (W.cell? ⟨r, 0, none⟩ = some (.slice oa n a0) ∧ W.cell? ⟨r, 1, none⟩ = some (.string b)) ∧ aB4 W base (.slice oa n a0) n fs ∧ Bw w W) := fun W h => by
  have hh := aW8 h
  rw [← hr] at hh
  exact ⟨⟨by simp [World.cell?, hh], by simp [World.cell?, hh]⟩, hv.below (aI4 h), aI4 h⟩
 obtain ⟨_, a8, _⟩ := HR.out _ (Below.refl _ _);have b7 := bM6 hf;have HT : Hid ((aC7 fs).size ≤ 1099511627776) := by show _ ≤ _; omega
 have a4 := hid htab;go_enter func263, ntmps263;go_wp2_with fail
 refine (cT3 _ n base fs _ a8 hn HT.out).mono ?_;rintro e w1 ⟨rfl, a5⟩;rw [← hr];obtain ⟨⟨c0, c1⟩, _, a1⟩ := HR.out w1 a5;have a9 : Hid (Below (w.alloc (.cells #[.slice oa n a0, .string b] 225)).heap.size (w.alloc (.cells #[.slice oa n a0, .string b] 225)) w1) := a5;obtain ⟨ft, a6⟩ := exq (aC7 fs);rw [← a6] at b7 ⊢;have b0 := hid a6.symm;clear hv a8 a5 hr hf htab a6 HT;have e2 : (⟨#[13, 10]⟩ : Tx).size = 2 := rfl;cases tell
 ·have HE : Hid (ft ++ ⟨#[13, 10]⟩ ++ b = bS1 false fs b) := by
   show _ = _
   unfold bS1
   rw [if_neg (by decide), b0.out]
  have q1 : ¬ 9223372036854775807 < ft.size + 2 := by omega
  have q2 : ¬ 9223372036854775807 < ft.size + 2 + b.size := by omega
  go_wp2_with fail
  go_ret;exact aD5.of HE.out a1
 have b1 : aG9 w1 := a4.out.below a1;have b8 := aD8 b.size;obtain ⟨nt, a3⟩ := exq (aB7 b.size)
 have b9 : Hid (aD1 (b.size : Int) = nt) := by
  show _ = _
  unfold aD1
  rw [if_neg (by omega), a3]
  rfl
 rw [← a3] at b8;obtain ⟨lt, a2⟩ : ∃ x, x = aC7 [((⟨#[99, 111, 110, 116, 101, 110, 116, 45, 108, 101, 110, 103, 116, 104]⟩ : Tx), nt)] := ⟨_, rfl⟩
 have c5 : lt.size ≤ 40 := by
  rw [a2, bZ5]
  have k1 : (⟨#[]⟩ : Tx).size = 0 := rfl
  have k2 : (⟨#[99, 111, 110, 116, 101, 110, 116, 45, 108, 101, 110, 103, 116, 104]⟩ : Tx).size = 14 := rfl
  have k3 : (⟨#[58, 32]⟩ : Tx).size = 2 := rfl
  simp only [ByteArray.size_append]
  omega
 have c2 := hid a2.symm;have c3 : Hid ((aC7 [((⟨#[99, 111, 110, 116, 101, 110, 116, 45, 108, 101, 110, 103, 116, 104]⟩ : Tx), nt)]).size ≤ 1099511627776) := by show _ ≤ _; rw [← a2]; omega
 have HE : Hid (ft ++ lt ++ ⟨#[13, 10]⟩ ++ b = bS1 true fs b) := by
  show _ = _
  unfold bS1
  rw [if_pos rfl, b0.out, ← a3, a2, bZ5]
  rfl
 clear a3 a2;go_wp2_with fail
 refine (aF8 (b.size : Int) _ (by omega) (by omega) b1).mono ?_;rintro e w2 ⟨rfl, b2⟩;rw [b9.out];clear c0 c1 b1;have b3 : Hid (Below (w.alloc (.cells #[.slice oa n a0, .string b] 225)).heap.size (w.alloc (.cells #[.slice oa n a0, .string b] 225)) w2) := a9.out.trans (b2.mono a9.out.size);clear b2 a1;obtain ⟨h3, c4⟩ := exq (w2.heap.size);have b4 : aB4 (w2.alloc (.cells #[.string ⟨#[99, 111, 110, 116, 101, 110, 116, 45, 108, 101, 110, 103, 116, 104]⟩, .string nt] 232)) w2.heap.size (.slice (some ⟨w2.heap.size, 0, none⟩) 1 1) 1 [(⟨#[99, 111, 110, 116, 101, 110, 116, 45, 108, 101, 110, 103, 116, 104]⟩, nt)] := dO5 (heap_alloc_new w2 _) (Nat.le_refl _) (by simp);have b5 : Hid (Below (w.alloc (.cells #[.slice oa n a0, .string b] 225)).heap.size (w.alloc (.cells #[.slice oa n a0, .string b] 225)) (w2.alloc (.cells #[.string ⟨#[99, 111, 110, 116, 101, 110, 116, 45, 108, 101, 110, 103, 116, 104]⟩, .string nt] 232))) := b3.out.alloc b3.out.size _;go_wp2_with fail
 refine (cT3 _ 1 w2.heap.size [(⟨#[99, 111, 110, 116, 101, 110, 116, 45, 108, 101, 110, 103, 116, 104]⟩, nt)] _ b4 (by omega) c3.out).mono ?_;rintro e w4 ⟨rfl, b6⟩;rw [c2.out];obtain ⟨⟨d0, d1⟩, _, a7⟩ := HR.out w4 (b5.out.trans (b6.mono b5.out.size));clear b4 b6 c4;have q1 : ¬ 9223372036854775807 < ft.size + lt.size := by omega
 have q2 : ¬ 9223372036854775807 < ft.size + lt.size + 2 := by omega
 have q3 : ¬ 9223372036854775807 < ft.size + lt.size + 2 + b.size := by omega
 go_wp2_with fail
 go_ret;exact aD5.of HE.out a7
theorem bK9 (st : Int) (v : Value) (b : Tx) (n base : Nat) (fs : Fs) (w : World) (hv : aB4 w base v n fs) (hn : n ≤ 1073741824) (hsz : aR0 n fs) (hb : b.size ≤ maxLen) (htab : aG9 w) :
  Calls prog 190 #[.agg #[v, .string b, .int .i64 st]] w fun e w' => bO7 (aN1 st fs b) (aL7 st fs b) w e w' := by
 obtain ⟨oa, a0, rfl, _⟩ := hv.slice;obtain ⟨r, hr⟩ := exq (w.heap.size)
 have HR : Hid (∀ W, Below (w.alloc (.cells #[.slice oa n a0, .string b, .int .i64 st] 227)).heap.size (w.alloc (.cells #[.slice oa n a0, .string b, .int .i64 st] 227)) W → (W.cell? ⟨r, 0, none⟩ = some (.slice oa n a0) ∧ W.cell? ⟨r, 1, none⟩ = some (.string b) ∧ W.cell? ⟨r, 2, none⟩ = some (.int .i64 st)) ∧ aB4 W base (.slice oa n a0) n fs ∧ Bw w W) := fun W h => by
  have hh := aW8 h
  rw [← hr] at hh
  exact ⟨⟨by simp [World.cell?, hh], by simp [World.cell?, hh], by simp [World.cell?, hh]⟩, hv.below (aI4 h), aI4 h⟩
 obtain ⟨_, b2, _⟩ := HR.out _ (Below.refl _ _);have a2 := hid htab;go_enter func190, ntmps190;go_wp2_with fail
 refine (bJ3 st _ b n base fs _ b2 hn hsz hb).mono ?_;rintro e w1 ⟨b1, rfl, a4, a5⟩;rw [← hr];obtain ⟨⟨c0, c1, c2⟩, _, a1⟩ := HR.out w1 a5;clear hv b2 hsz hb htab hr;cases b1
 ·have HF : Hid (¬ aN1 st fs b) := fun h => by have := a4.2 h; cases this
  clear a4 a5;go_wp2_with fail
  go_ret;exact ⟨_, rfl, fun h => absurd h HF.out, fun _ => rfl, a1⟩
 have HY : Hid (aN1 st fs b) := a4.1 rfl;have c6 := HY.out.1;have b3 : b.size ≤ 120 := HY.out.2.2;have c3 := aD8 st.toNat;obtain ⟨nk, a6⟩ := exq (aB7 st.toNat);rw [← a6] at c3
 have c4 : Hid (aD1 st = nk) := by
  show _ = _
  unfold aD1
  rw [if_neg (by omega), a6]
 have c5 := cX2 true HY.out.2.1 b3;obtain ⟨rt, a7⟩ := exq (bS1 true fs b);rw [← a7] at c5;have b4 := hid a7.symm
 have HE : Hid (⟨#[72, 84, 84, 80, 47, 49, 46, 49, 32]⟩ ++ nk ++ ⟨#[32]⟩ ++ ⟨#[46]⟩ ++ ⟨#[13, 10]⟩ ++ rt = aL7 st fs b) := by
  show _ = _
  rw [a6, ← b4.out]
  exact dE5 st fs b
 have a8 : Hid (Below (w.alloc (.cells #[.slice oa n a0, .string b, .int .i64 st] 227)).heap.size (w.alloc (.cells #[.slice oa n a0, .string b, .int .i64 st] 227)) w1) := a5;have b5 : aG9 w1 := a2.out.below a1;clear a4 a5 a6 a7 a1;have e1 : (⟨#[32]⟩ : Tx).size = 1 := rfl;have e2 : (⟨#[72, 84, 84, 80, 47, 49, 46, 49, 32]⟩ : Tx).size = 9 := rfl;have e3 : (⟨#[13, 10]⟩ : Tx).size = 2 := rfl;have e4 : (⟨#[46]⟩ : Tx).size = 1 := rfl;have q1 : ¬ 9223372036854775807 < 9 + nk.size := by omega
 have q2 : ¬ 9223372036854775807 < 9 + nk.size + 1 := by omega
 have q3 : ¬ 9223372036854775807 < 9 + nk.size + 1 + 1 := by omega
 have q4 : ¬ 9223372036854775807 < 9 + nk.size + 1 + 1 + 2 := by omega
 have q5 : ¬ 9223372036854775807 < 9 + nk.size + 1 + 1 + 2 + rt.size := by omega
 go_wp2_with fail
 refine (aF8 st _ (by omega) (by omega) b5).mono ?_;rintro e w2 ⟨rfl, b6⟩;rw [c4.out];have a9 : Hid (Below (w.alloc (.cells #[.slice oa n a0, .string b, .int .i64 st] 227)).heap.size (w.alloc (.cells #[.slice oa n a0, .string b, .int .i64 st] 227)) w2) := a8.out.trans (b6.mono a8.out.size);obtain ⟨⟨d0, d1, d2⟩, b7, a3⟩ := HR.out w2 a9.out;have b8 : aG9 w2 := a2.out.below a3;have hF := HY.out.2.1;clear c0 c1 c2 a8 b6 b5 a3;go_wp2_with fail
 refine (cJ6 _ _ true n base fs _ b7 hn hF b3 b8).mono ?_;rintro e w3 ⟨rfl, b9⟩;rw [b4.out];obtain ⟨_, _, b0⟩ := HR.out w3 (a9.out.trans (b9.mono a9.out.size));clear b9 b7 b8 d0 d1 d2 hF;go_wp2_with fail
 go_ret;exact ⟨_, rfl, fun _ => HE.out, fun h => absurd HY.out h, b0⟩
theorem bL7 (m : Int) (v : Value) (b : Tx) (n base : Nat) (fs : Fs) (w : World) (hv : aB4 w base v n fs) (hn : n ≤ 1073741824) (hsz : aR0 n fs) (hb : b.size ≤ maxLen) (htab : aG9 w) :
  Calls prog 89 #[.agg #[.int .i64 m, v, .string b]] w fun e w' => bO7 (aN1 m fs b) (aL7 m fs b) w e w' := by
 obtain ⟨oa, a3, rfl, _⟩ := hv.slice;have a1 : Bw w (w.alloc (.cells #[.int .i64 m, .slice oa n a3, .string b] 34)) := (Below.refl _ _).alloc (Nat.le_refl _) _;have a2 := hid htab;clear htab;go_enter func89, ntmps89;go_wp2_with fail
 refine (bK8 m oa n a3 b _).mono ?_;rintro e w1 ⟨rfl, a4⟩;have a0 : Bw w w1 := a1.trans (a4.mono a1.size);have a5 := hv.below a0;clear a4 a1 hv;go_wp2_with fail
 refine (bK9 m _ b n base fs _ a5 hn hsz hb (a2.out.below a0)).mono ?_;rintro e w2 ⟨u, rfl, ku, kn, a6⟩;have a7 : Bw w w2 := a0.trans (a6.mono a0.size);have HK : Hid ((aN1 m fs b) → u = aL7 m fs b) := ku;have HN : Hid (¬ (aN1 m fs b) → u = ⟨#[]⟩) := kn;clear a5 hsz hb a6 a0 ku kn;go_wp2_with fail
 go_ret;exact ⟨u, rfl, HK.out, HN.out, a7⟩
end Go.Proofs.YtiobfnpmidjijaaGreatDoor
