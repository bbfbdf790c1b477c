/- What the proof of FnExactMount leans on: contracts of the program's and the specification's functions, and plain facts (part 8 of 12). -/
import Derived.Test.YtiobfnpmidjijaaGreatDoorFnExactMountG
set_option maxHeartbeats 16000000
set_option maxRecDepth 100000
namespace Go.Proofs.YtiobfnpmidjijaaGreatDoor
open Go.Proofs.Tryz
open Go.RowKit
open Go.Lib hiding intOf
def ObjD (s : Tx) (p : Tx) (xs ys : Ts) (st : Int) (fs : Fs) (b : Tx) (t : Int) (ok : Bool) : Prop := (ok = true ∧ aG2 s p ys st fs b t ∧ xs = aC1 fs) ∨ (ok = false ∧ ∀ p ys st fs b t, ¬ aG2 s p ys st fs b t)
theorem ObjD.yes {s p : ByteArray} {ys : Ts} {st : Int} {fs : Fs} {b : ByteArray} {t : Int} (h : aG2 s p ys st fs b t) : ObjD s p (aC1 fs) ys st fs b t true := Or.inl ⟨rfl, h, rfl⟩
theorem ObjD.none {s p : ByteArray} {xs ys : Ts} {st : Int} {fs : Fs} {b : ByteArray} {t : Int} (h : ∀ p ys st fs b t, ¬ aG2 s p ys st fs b t) : ObjD s p xs ys st fs b t false := Or.inr ⟨rfl, h⟩
theorem cX6.data {s : ByteArray} {w : World} {e : Ending} {w' : World} (h : cX6 s w e w') : ∃ (p : Tx) (xs ys : Ts) (st : Int) (fs : Fs) (b : Tx) (t : Int) (ok : Bool) (v1 v2 v3 : Value), e = .returned (.tuple #[.agg #[.string p, v1, v2, .int .i64 st, v3, .string b, .int .i64 t], .bool ok]) ∧ ObjD s p xs ys st fs b t ok ∧ aB2 w' w.heap.size (kpR ((⟨p, xs, ys, st, fs, b, t, 0, 0⟩ : KpD), v1, v2, v3)) ∧ Below w.heap.size w w' := by
 obtain ⟨hb, ⟨p, ys, st, fs, b, t, v1, v2, v3, rfl, hr, ho⟩ | ⟨rfl, hn⟩⟩ := h
 ·exact ⟨p, aC1 fs, ys, st, fs, b, t, true, v1, v2, v3, rfl, ObjD.yes hr, bR1 (k := (⟨p, aC1 fs, ys, st, fs, b, t, 0, 0⟩ : KpD)) (by dsimp only; exact ho), hb⟩
 exact ⟨_, [], [], 0, [], _, 0, false, _, _, _, rfl, ObjD.none hn, bR1 (k := (⟨⟨#[]⟩, [], [], 0, [], ⟨#[]⟩, 0, 0, 0⟩ : KpD)) ⟨⟨rfl, .inl ⟨rfl, rfl⟩⟩, ⟨rfl, .inl ⟨rfl, rfl⟩⟩, ⟨rfl, .inl ⟨rfl, rfl⟩⟩, fun j hj => by simp [Value.ownBlock] at hj⟩, hb⟩
theorem aO9 {T : TypeId} {kv : Ks} (h1 : T ≠ 9) (h5 : T ≠ 232) : ∀ r ∈ kv.flatMap kpR, T ≠ r.T := by
 intro r hr;obtain ⟨x, _, hx⟩ := List.mem_flatMap.1 hr;simp only [kpR, List.mem_cons, List.not_mem_nil, or_false] at hx
 rcases hx with rfl | rfl | rfl
 ·exact h1
 ·exact h1
 exact h5
theorem bS8 (x : KpD × Value × Value × Value) : ∀ l : Ks, (insK x l).Perm (x :: l)
 | [] => List.Perm.refl _
 | y :: l => by
  rw [insK]
  split
  · exact List.Perm.refl _
  · exact ((bS8 x l).cons y).trans (List.Perm.swap x y l)
theorem cK1 {l : List Int} (hl : ∀ q ∈ l, 0 ≤ q) : ∀ m : Int, 0 ≤ m → m ≤ 99999 → 0 ≤ l.foldl bC6 m ∧ l.foldl bC6 m ≤ 99999 := by
 induction l with
 | nil => exact fun m h1 h2 => ⟨h1, h2⟩
 | cons q l ih =>
  intro m h1 h2
  rw [List.foldl_cons]
  have h0 := hl q List.mem_cons_self
  refine ih (fun z hz => hl z (List.mem_cons_of_mem _ hz)) _ ?_ ?_ <;> (unfold bC6; split <;> omega)
theorem aH3.range {cs : Ts} {ws : List (Int × ByteArray)} {l : Bs} {m : Int} (h : aH3 cs ws l m) : 0 ≤ m ∧ m ≤ 99999 := by
 obtain ⟨qs, h1, h2, h3⟩ := h;rw [← h2];refine cK1 (fun q hq => ?_) 0 (by decide) (by decide)
 obtain ⟨i, hi, e⟩ := List.getElem_of_mem hq;obtain ⟨q', b, x, e1, _, e3, _⟩ := h3 i (by omega);rw [List.getElem?_eq_getElem hi, e] at e1;injection e1 with e1
 rw [e1];have := e3.1.1;omega
theorem cK2 {x : KpD × Value × Value × Value} {kv : Ks} {v1 v2 VB : Value} {cs : Ts} {ws : List (Int × ByteArray)} {bl : Bs} (h : x ∈ kv) : List.Sublist (kpR x) (bS7 v1 v2 VB cs ws bl ++ kv.flatMap kpR) := by
 obtain ⟨s, t, rfl⟩ := List.append_of_mem h;rw [List.flatMap_append, List.flatMap_cons];exact ((List.sublist_append_left _ _).trans (List.sublist_append_right _ _)).trans (List.sublist_append_right _ _)
theorem dE8 {w w' : World} {B : Nat} {v1 v2 VB : Value} {cs : Ts} {ws : List (Int × ByteArray)} {bl : Bs} {kv : Ks} (hL : w.ownsRow B 44 4 VB bl.length (aB3 bl)) (hI : aB2 w B (kv.flatMap kpR)) (bw : Below w.heap.size w w') (hd : aJ3 w' w.heap.size v1 cs.length cs v2 ws.length ws) (hB : B ≤ w.heap.size) : aB2 w' B (bS7 v1 v2 VB cs ws bl ++ kv.flatMap kpR) := by
 have h1 : aB2 w B ((⟨44, 4, VB, bl.length, aB3 bl⟩ : Rw) :: kv.flatMap kpR) := ⟨fun r hr => by
   rcases List.mem_cons.1 hr with rfl | hr
   ·exact hL
   ·exact hI.own r hr, List.pairwise_cons.2 ⟨fun r hr g e1 e2 => aW9 hL (hI.own r hr) (aO9 (by decide) (by decide) r hr) e1 e2, hI.apart⟩⟩
 have h2 : aB2 w' w.heap.size [(⟨9, 1, v1, cs.length, cs.map Value.string⟩ : Rw), ⟨128, 2, v2, ws.length, aA4 ws⟩] := ⟨fun r hr => by
   simp only [List.mem_cons, List.not_mem_nil, or_false] at hr
   rcases hr with rfl | rfl
   ·exact hd.cells
   ·exact hd.pend, List.pairwise_cons.2 ⟨fun r hr g e1 e2 => by
   rw [List.mem_singleton.1 hr] at e2
   exact aW9 hd.cells hd.pend (by decide) e1 e2, List.pairwise_singleton _ _⟩⟩
 refine (h1.more bw h2 (Nat.le_refl _) hB).perm ?_;show List.Perm (_ :: (kv.flatMap kpR ++ [_, _])) (_ :: _ :: _ :: kv.flatMap kpR)
 refine (List.perm_append_comm (l₁ := _ :: kv.flatMap kpR)).trans ?_;exact List.Perm.refl _
theorem aH3.small {cs : Ts} {ws : List (Int × ByteArray)} {l : Bs} {m : Int} (h : aH3 cs ws l m) : ∀ x ∈ l, x.2.1.size ≤ 60 ∧ x.2.2.1.size ≤ 60 := fun x hx => by
 obtain ⟨qs, _, _, h3⟩ := h
 obtain ⟨i, hi, e⟩ := List.getElem_of_mem hx
 obtain ⟨q, b, y, _, e2, _, e4⟩ := h3 i hi
 rw [List.getElem?_eq_getElem hi, e] at e2
 injection e2 with e2
 subst e2
 rcases e4.1.2 with ⟨_, h1, h2⟩ | ⟨_, h1, h2⟩
 · exact ⟨h1.2.2.1, by rw [h2]; exact Nat.zero_le _⟩
 · exact ⟨Nat.le_trans h1.2.1 (by decide), h2.2.1⟩
theorem dE9 {fs : Fs} (h : ∀ i, i < fs.length → (aD0 fs i).size ≤ 20 ∧ (aH7 fs i).size ≤ 60) : ∀ k, k ≤ fs.length → szTo fs k ≤ 80 * k
 | 0, _ => Nat.le_refl _
 | k + 1, hk => by
  have h1 := dE9 h k (by omega)
  have h2 := h k (by omega)
  rw [szTo]
  omega
theorem bZ7 {xs : Ts} {n : Nat} (h : ∀ x ∈ xs, x.size ≤ n) : ∀ i, i < xs.length → (aA7 xs i).size ≤ n := fun i hi => h _ (aG7 xs i hi)
theorem ObjP.small {p : ByteArray} {xs ys : Ts} {st : Int} {fs : Fs} {b : ByteArray} {t : Int} (h : ObjP p xs ys st fs b t) (a q : Int) : aH8 ⟨p, xs, ys, st, fs, b, t, a, q⟩ := by
 obtain ⟨⟨_, ⟨h1, h2⟩, h3⟩, h4, _, ⟨h5, h6⟩, _, h7, h8⟩ := h;refine ⟨⟨Nat.le_trans h4.2.2.1 (by decide), Nat.le_trans h3 (by decide)⟩, ⟨Nat.le_trans h6 (by decide), bZ7 (fun x hx => Nat.le_trans (h5 x hx).2.1 (by decide))⟩, ⟨by dsimp only; omega, bZ7 (fun x hx => Nat.le_trans (h8 x hx).2.1 (by decide))⟩, Nat.le_trans h1 (by decide), ?_⟩
 have h9 := dE9 (fs := fs) (fun i hi => ⟨(h2 i hi).1.2.1, (h2 i hi).2.1.2.1⟩) fs.length (Nat.le_refl _)
 dsimp only;omega
theorem aD6.small {cs : Ts} {ws : List (Int × ByteArray)} {bl : Bs} {m0 : Int} : ∀ {n : Nat} {m : Int} {l : List KpD}, aD6 cs ws bl m0 n m l → ∀ k ∈ l, aH8 k
 | 0, _, _, h, k, hk => by rw [h.2] at hk; cases hk
 | n + 1, _, _, h, k, hk => by
  obtain ⟨a, b, h1, h2⟩ := h
  rcases h2 with ⟨z, hz, _, ⟨_, rfl⟩ | ⟨_, rfl⟩⟩ | ⟨_, _, rfl⟩
  · exact aD6.small h1 k hk
  ·rcases bM9 hk with rfl | hk
   ·obtain ⟨d, _, h3, h4, _⟩ := hz
    exact (h4 ▸ h3.1 : ObjP k.p k.xs k.ys k.st k.fs k.b k.t).small k.a k.q
   · exact aD6.small h1 k hk
  · exact aD6.small h1 k hk
theorem bH1 {α β : Type} (f : α → List β) : ∀ {l l' : List α}, List.Sublist l l' → List.Sublist (l.flatMap f) (l'.flatMap f)
 | _, _, .slnil => List.Sublist.refl _
 | _, _, .cons a h => by rw [List.flatMap_cons]; exact (bH1 f h).trans (List.sublist_append_right _ _)
 | _, _, .cons_cons a h => by rw [List.flatMap_cons, List.flatMap_cons]; exact (List.Sublist.refl _).append (bH1 f h)
theorem cX7 {cs : Ts} {ws : List (Int × ByteArray)} {bl : Bs} {m0 : Int} {kvr : Ks} {l0 : List KpD} {f : KpD → Bool} (hf : ∀ k, f k = true ↔ ¬ AnyK bl k) (hl : bl.length ≤ 5) (hg : aH3 cs ws bl m0) (he : aV0 cs ws bl.length) (hr : aN8 cs ws 15 l0) (hk : kvr.map (·.1) = aG3 (fun z : KpD => z.q) l0) : aZ8 cs ws ⟨cs, ws, (aN4 (kvr.filter (fun x => f x.1))).map (·.1), bl, bL6 ((aN4 (kvr.filter (fun x => f x.1))).map (·.1)), (kvr.map (·.1)).foldl (fun m k => max m k.q) m0 + 1⟩ := by
 refine ⟨bl, m0, _, _, hl, hg, he, bJ0 hf hr, ?_⟩
 have e1 : (kvr.filter (fun x => f x.1)).map (·.1) = aG3 (fun z : KpD => z.q) (l0.filter f) := by
  rw [← cE0, ← hk, List.filter_map]
  rfl
 rw [cJ4, e1, hk, dJ7 (aT6 _ l0)]
theorem cX8 {cs : Ts} {ws : List (Int × ByteArray)} {kvr : Ks} {l0 : List KpD} (hr : aN8 cs ws 15 l0) (hk : kvr.map (·.1) = aG3 (fun z : KpD => z.q) l0) : (∀ x ∈ kvr, 5 ≤ x.1.a ∧ x.1.a ≤ 19) ∧ aM3 kvr ∧ kvr.length ≤ 15 ∧ aR4 (fun z : KpD => z.q) (kvr.map (·.1)) ∧ ∀ x ∈ kvr, aH8 x.1 ∧ 0 ≤ x.1.q ∧ x.1.q ≤ 99999 := by
 have hp : (kvr.map (·.1)).Perm l0 := by rw [hk]; exact aT6 _ l0
 have hm : ∀ x ∈ kvr, x.1 ∈ l0 := fun x hx => hp.mem_iff.1 (List.mem_map_of_mem hx)
 have hc := hr.cells;have hn := hr.nums;refine ⟨fun x hx => by have := hc.1 _ (hm x hx); omega, ?_, ?_, by rw [hk]; exact bG5 _ l0, fun x hx => ?_⟩
 ·have h1 := (hp.pairwise_iff (R := fun x y : KpD => x.a ≠ y.a) (fun h => Ne.symm h)).2 hc.2
  show List.Pairwise (fun x y : KpD × Value × Value × Value => x.1.a ≠ y.1.a) kvr
  rw [List.pairwise_map] at h1;exact h1
 ·have h1 := hp.length_eq;rw [List.length_map] at h1;have := hr.len;omega
 obtain ⟨h1, h2, h3⟩ := hn _ (hm x hx);exact ⟨ObjP.small h3 x.1.a x.1.q, h1, by omega⟩
theorem dF0 {l : List KpD} (hl : ∀ k ∈ l, 0 ≤ k.q ∧ k.q ≤ 99999) : ∀ {m : Int}, 0 ≤ m ∧ m ≤ 99999 → 0 ≤ l.foldl (fun m k => max m k.q) m ∧ l.foldl (fun m k => max m k.q) m ≤ 99999 := by
 induction l with
 | nil => exact fun h => h
 | cons x l ih =>
  intro m h
  rw [List.foldl_cons]
  have := hl x List.mem_cons_self
  exact ih (fun k hk => hl k (List.mem_cons_of_mem _ hk)) (by omega)
theorem bS9 {w : World} {B : Nat} {v1 v2 : Value} {n1 n2 : Nat} {cs : Ts} {ws : List (Int × ByteArray)} (h : aJ3 w B v1 n1 cs v2 n2 ws) : cs.length = n1 ∧ ws.length = n2 := by
 have h1 := h.cells.1;have h2 := h.pend.1;have h3 := aO5 ws;rw [List.length_map] at h1;omega
theorem cE8 (a b : Tx) (t : Int) (w : World) :
  Calls prog 86 #[.agg #[.int .i64 1, .string a, .string b, .int .i64 t]] w fun e w' => e = .returned (.iface 218 (.agg #[.string a])) ∧ Below w.heap.size w w' := by
 have K0 := jnil w;go_enter func86, ntmps86;go_upto_region 1 with fail
 obtain ⟨q1, a1⟩ := exq (w.heap.size);obtain ⟨w1, a0⟩ := exq (w.alloc (.cells #[.int .i64 1, .string a, .string b, .int .i64 t] 44));have a2 := a1.symm;rw [← a0]; try rw [← a1];have a3 := hsa a0 a2;have bw := bal a0;have K1 := ja K0 a0 a2;clear bw a0 a2 K0;clear a3 a1;have a4 := c4c (jb K1 0 rfl);go_wp2_with fail
 go_ret;exact ⟨rfl, K1.hb⟩
theorem cE9 (a b : Tx) (t : Int) (w : World) :
  Calls prog 86 #[.agg #[.int .i64 2, .string a, .string b, .int .i64 t]] w fun e w' => e = .returned (.iface 220 (.agg #[.string a])) ∧ Below w.heap.size w w' := by
 have K0 := jnil w;go_enter func86, ntmps86;go_upto_region 1 with fail
 obtain ⟨q1, a1⟩ := exq (w.heap.size);obtain ⟨w1, a0⟩ := exq (w.alloc (.cells #[.int .i64 2, .string a, .string b, .int .i64 t] 44));have a2 := a1.symm;rw [← a0]; try rw [← a1];have a3 := hsa a0 a2;have bw := bal a0;have K1 := ja K0 a0 a2;clear bw a0 a2 K0;clear a3 a1;have a4 := c4c (jb K1 0 rfl);go_wp2_with fail
 go_ret;exact ⟨rfl, K1.hb⟩
theorem cT5 (a b : Tx) (t : Int) (w : World) :
  Calls prog 86 #[.agg #[.int .i64 3, .string a, .string b, .int .i64 t]] w fun e w' => e = .returned (.iface 222 (.agg #[.string a, .string b])) ∧ Below w.heap.size w w' := by
 have K0 := jnil w;go_enter func86, ntmps86;go_upto_region 1 with fail
 obtain ⟨q1, a1⟩ := exq (w.heap.size);obtain ⟨w1, a0⟩ := exq (w.alloc (.cells #[.int .i64 3, .string a, .string b, .int .i64 t] 44));have a2 := a1.symm;rw [← a0]; try rw [← a1];have a3 := hsa a0 a2;have bw := bal a0;have K1 := ja K0 a0 a2;clear bw a0 a2 K0;clear a3 a1;have a4 := c4c (jb K1 0 rfl);go_wp2_with fail
 go_ret;exact ⟨rfl, K1.hb⟩
theorem dF1 (k : Int) (a b : Tx) (t : Int) (w : World) (h1 : ¬ k = 1) (h2 : ¬ k = 2) (h3 : ¬ k = 3) :
  Calls prog 86 #[.agg #[.int .i64 k, .string a, .string b, .int .i64 t]] w fun e w' => e = .returned .nilIface ∧ Below w.heap.size w w' := by
 have a5 : ((k : Int) == (1 : Int)) = false := by simpa using h1
 have a6 : ((k : Int) == (2 : Int)) = false := by simpa using h2
 have a7 : ((k : Int) == (3 : Int)) = false := by simpa using h3
 clear h1 h2 h3;have K0 := jnil w;go_enter func86, ntmps86;go_upto_region 1 with fail
 obtain ⟨q1, a1⟩ := exq (w.heap.size);obtain ⟨w1, a0⟩ := exq (w.alloc (.cells #[.int .i64 k, .string a, .string b, .int .i64 t] 44));have a2 := a1.symm;rw [← a0]; try rw [← a1];have a3 := hsa a0 a2;have bw := bal a0;have K1 := ja K0 a0 a2;clear bw a0 a2 K0;clear a3 a1;have a4 := c4c (jb K1 0 rfl);go_wp2_with fail
 go_ret;exact ⟨rfl, K1.hb⟩
theorem dF2 (a : Tx) (t : Int) (w : World) :
  Calls prog 180 #[.iface 218 (.agg #[.string a]), .int .i64 t] w fun e w' => e = .returned (.agg #[.int .i64 1, .string a, .string ⟨#[]⟩, .int .i64 t]) ∧ Below w.heap.size w w' := by
 have a8 : ∀ W : World, (Instr.typeAssert (.iface 218 (.agg #[.string a])) 132 218 true).run prog W = .ok (.tuple #[.agg #[.string a], .bool true]) W := fun _ => by kernel_rfl
 have a9 : ∀ W : World, (Instr.typeAssert (.iface 218 (.agg #[.string a])) 132 220 true).run prog W = .ok (.tuple #[.agg #[.string ⟨#[]⟩], .bool false]) W := fun _ => by kernel_rfl
 have b0 : ∀ W : World, (Instr.typeAssert (.iface 218 (.agg #[.string a])) 132 222 true).run prog W = .ok (.tuple #[.agg #[.string ⟨#[]⟩, .string ⟨#[]⟩], .bool false]) W := fun _ => by kernel_rfl
 have K0 := jnil w;go_enter func180, ntmps180;go_upto_region 1 with fail
 obtain ⟨q1, a3⟩ := exq (w.heap.size);obtain ⟨w1, a0⟩ := exq (w.alloc (.cells #[.int .i64 0, .string ⟨#[]⟩, .string ⟨#[]⟩, .int .i64 0] 44));have a4 := a3.symm;rw [← a0]; try rw [← a3];have b1 := hsa a0 a4;have bw := bal a0;have K1 := ja K0 a0 a4;clear bw a0 a4 K0;clear b1 a3;go_upto_region 4 with fail
 obtain ⟨q2, a5⟩ := exq (w1.heap.size);obtain ⟨w2, a1⟩ := exq (w1.alloc (.cells #[.string a] 218));have a6 := a5.symm;rw [← a1]; try rw [← a5];have b2 := hsa a1 a6;have bw := bal a1;have K2 := ja K1 a1 a6;clear bw a1 a6 K1;clear b2 a5;have b3 := c4f (jb K2 1 rfl);have b4 := c1c (jb K2 0 rfl);go_wp2_with fail
 obtain ⟨w6, a7⟩ := exq ((((w2.setCell ⟨q1, 0, none⟩ (.int .i64 1)).setCell ⟨q1, 1, none⟩ (.string a)).setCell ⟨q1, 2, none⟩ (.string ⟨#[]⟩)).setCell ⟨q1, 3, none⟩ (.int .i64 t));rw [← a7];have K6 := jss K2 1 [(0, _), (1, _), (2, _), (3, _)] a7;clear a7 K2;have a2 := c4c (jb K6 1 rfl);refine bodyPost_ret (v := .agg #[.int .i64 1, .string a, .string ⟨#[]⟩, .int .i64 t]) (by simp [results, results180, go_sem, a2]) rfl ?_;exact ⟨rfl, K6.hb⟩
theorem dF3 (a : Tx) (t : Int) (w : World) :
  Calls prog 180 #[.iface 220 (.agg #[.string a]), .int .i64 t] w fun e w' => e = .returned (.agg #[.int .i64 2, .string a, .string ⟨#[]⟩, .int .i64 t]) ∧ Below w.heap.size w w' := by
 have a8 : ∀ W : World, (Instr.typeAssert (.iface 220 (.agg #[.string a])) 132 218 true).run prog W = .ok (.tuple #[.agg #[.string ⟨#[]⟩], .bool false]) W := fun _ => by kernel_rfl
 have a9 : ∀ W : World, (Instr.typeAssert (.iface 220 (.agg #[.string a])) 132 220 true).run prog W = .ok (.tuple #[.agg #[.string a], .bool true]) W := fun _ => by kernel_rfl
 have b0 : ∀ W : World, (Instr.typeAssert (.iface 220 (.agg #[.string a])) 132 222 true).run prog W = .ok (.tuple #[.agg #[.string ⟨#[]⟩, .string ⟨#[]⟩], .bool false]) W := fun _ => by kernel_rfl
 have K0 := jnil w;go_enter func180, ntmps180;go_upto_region 1 with fail
 obtain ⟨q1, a3⟩ := exq (w.heap.size);obtain ⟨w1, a0⟩ := exq (w.alloc (.cells #[.int .i64 0, .string ⟨#[]⟩, .string ⟨#[]⟩, .int .i64 0] 44));have a4 := a3.symm;rw [← a0]; try rw [← a3];have b1 := hsa a0 a4;have bw := bal a0;have K1 := ja K0 a0 a4;clear bw a0 a4 K0;clear b1 a3;go_upto_region 7 with fail
 obtain ⟨q2, a5⟩ := exq (w1.heap.size);obtain ⟨w2, a1⟩ := exq (w1.alloc (.cells #[.string a] 220));have a6 := a5.symm;rw [← a1]; try rw [← a5];have b2 := hsa a1 a6;have bw := bal a1;have K2 := ja K1 a1 a6;clear bw a1 a6 K1;clear b2 a5;have b3 := c4f (jb K2 1 rfl);have b4 := c1c (jb K2 0 rfl);go_wp2_with fail
 obtain ⟨w6, a7⟩ := exq ((((w2.setCell ⟨q1, 0, none⟩ (.int .i64 2)).setCell ⟨q1, 1, none⟩ (.string a)).setCell ⟨q1, 2, none⟩ (.string ⟨#[]⟩)).setCell ⟨q1, 3, none⟩ (.int .i64 t));rw [← a7];have K6 := jss K2 1 [(0, _), (1, _), (2, _), (3, _)] a7;clear a7 K2;have a2 := c4c (jb K6 1 rfl);refine bodyPost_ret (v := .agg #[.int .i64 2, .string a, .string ⟨#[]⟩, .int .i64 t]) (by simp [results, results180, go_sem, a2]) rfl ?_;exact ⟨rfl, K6.hb⟩
theorem dO6 (a b : Tx) (t : Int) (w : World) :
  Calls prog 180 #[.iface 222 (.agg #[.string a, .string b]), .int .i64 t] w fun e w' => e = .returned (.agg #[.int .i64 3, .string a, .string b, .int .i64 t]) ∧ Below w.heap.size w w' := by
 have a8 : ∀ W : World, (Instr.typeAssert (.iface 222 (.agg #[.string a, .string b])) 132 218 true).run prog W = .ok (.tuple #[.agg #[.string ⟨#[]⟩], .bool false]) W := fun _ => by kernel_rfl
 have a9 : ∀ W : World, (Instr.typeAssert (.iface 222 (.agg #[.string a, .string b])) 132 220 true).run prog W = .ok (.tuple #[.agg #[.string ⟨#[]⟩], .bool false]) W := fun _ => by kernel_rfl
 have b0 : ∀ W : World, (Instr.typeAssert (.iface 222 (.agg #[.string a, .string b])) 132 222 true).run prog W = .ok (.tuple #[.agg #[.string a, .string b], .bool true]) W := fun _ => by kernel_rfl
 have K0 := jnil w;go_enter func180, ntmps180;go_upto_region 1 with fail
 obtain ⟨q1, a3⟩ := exq (w.heap.size);obtain ⟨w1, a0⟩ := exq (w.alloc (.cells #[.int .i64 0, .string ⟨#[]⟩, .string ⟨#[]⟩, .int .i64 0] 44));have a4 := a3.symm;rw [← a0]; try rw [← a3];have b1 := hsa a0 a4;have bw := bal a0;have K1 := ja K0 a0 a4;clear bw a0 a4 K0;clear b1 a3;go_upto_region 10 with fail
 obtain ⟨q2, a5⟩ := exq (w1.heap.size);obtain ⟨w2, a1⟩ := exq (w1.alloc (.cells #[.string a, .string b] 222));have a6 := a5.symm;rw [← a1]; try rw [← a5];have b2 := hsa a1 a6;have bw := bal a1;have K2 := ja K1 a1 a6;clear bw a1 a6 K1;clear b2 a5;have b3 := c4f (jb K2 1 rfl);have b4 := c2c (jb K2 0 rfl);go_wp2_with fail
 obtain ⟨w6, a7⟩ := exq ((((w2.setCell ⟨q1, 0, none⟩ (.int .i64 3)).setCell ⟨q1, 1, none⟩ (.string a)).setCell ⟨q1, 2, none⟩ (.string b)).setCell ⟨q1, 3, none⟩ (.int .i64 t));rw [← a7];have K6 := jss K2 1 [(0, _), (1, _), (2, _), (3, _)] a7;clear a7 K2;have a2 := c4c (jb K6 1 rfl);refine bodyPost_ret (v := .agg #[.int .i64 3, .string a, .string b, .int .i64 t]) (by simp [results, results180, go_sem, a2]) rfl ?_;exact ⟨rfl, K6.hb⟩
theorem dF4 (a : Tx) (w : World) (ha : a.size ≤ maxLen) :
  Calls prog 393 #[.agg #[.string a]] w fun e w' => aA5 (aI9 a) w e w' := by
 have a4 := hid ha;clear ha;have K0 := jnil w;go_enter func393, ntmps393;go_upto_region 1 with fail
 obtain ⟨q1, a1⟩ := exq (w.heap.size);obtain ⟨w1, a0⟩ := exq (w.alloc (.cells #[.string a] 218));have a2 := a1.symm;rw [← a0]; try rw [← a1];have a5 := hsa a0 a2;have bw := bal a0;have K1 := ja K0 a0 a2;clear bw a0 a2 K0;clear a5 a1;have a3 := c1c (jb K1 0 rfl);go_wp2_with fail
 refine (bJ2 a _ a4.out).mono ?_;rintro e w2 ⟨u, rfl, a6, bw⟩;have K2 := jw K1 bw;clear bw K1;clear a3;go_wp2_with fail
 go_ret;exact ⟨u, rfl, a6, K2.hb⟩
theorem dF5 (a : Tx) (w : World) (ha : a.size ≤ maxLen) :
  Calls prog 395 #[.agg #[.string a]] w fun e w' => aA5 (aI9 a) w e w' := by
 have a4 := hid ha;clear ha;have K0 := jnil w;go_enter func395, ntmps395;go_upto_region 1 with fail
 obtain ⟨q1, a1⟩ := exq (w.heap.size);obtain ⟨w1, a0⟩ := exq (w.alloc (.cells #[.string a] 220));have a2 := a1.symm;rw [← a0]; try rw [← a1];have a5 := hsa a0 a2;have bw := bal a0;have K1 := ja K0 a0 a2;clear bw a0 a2 K0;clear a5 a1;have a3 := c1c (jb K1 0 rfl);go_wp2_with fail
 refine (bJ2 a _ a4.out).mono ?_;rintro e w2 ⟨u, rfl, a6, bw⟩;have K2 := jw K1 bw;clear bw K1;clear a3;go_wp2_with fail
 go_ret;exact ⟨u, rfl, a6, K2.hb⟩
theorem dO7 (a b : Tx) (w : World) (ha : a.size ≤ maxLen) (hb : b.size ≤ maxLen) :
  Calls prog 397 #[.agg #[.string a, .string b]] w fun e w' => aA5 (aK6 a ∧ aK7 b) w e w' := by
 have a7 := hid ha;have a8 := hid hb;clear ha hb;have K0 := jnil w;go_enter func397, ntmps397;go_upto_region 1 with fail
 obtain ⟨q1, a2⟩ := exq (w.heap.size);obtain ⟨w1, a0⟩ := exq (w.alloc (.cells #[.string a, .string b] 222));have a3 := a2.symm;rw [← a0]; try rw [← a2];have a9 := hsa a0 a3;have bw := bal a0;have K1 := ja K0 a0 a3;clear bw a0 a3 K0;clear a9 a2;have a4 := c2c (jb K1 0 rfl);go_wp2_with fail
 refine (aS5 a _ a7.out).mono ?_;rintro e w2 ⟨u, rfl, a1, bw⟩;have K2 := jw K1 bw;clear bw K1;clear a4;cases u
 ·have HU : Hid (¬ aK6 a) := fun h => nomatch a1.2 h
  clear a1;go_wp2_with fail
  go_ret;exact ⟨false, rfl, ⟨fun h => (by cases h), fun h => absurd h.1 HU.out⟩, K2.hb⟩
 have HU : Hid (aK6 a) := a1.1 rfl;clear a1;have a5 := c2c (jb K2 0 rfl);go_wp2_with fail
 refine (aS7 b _ a8.out).mono ?_;rintro e w3 ⟨v, rfl, a6, bw⟩;have K3 := jw K2 bw;clear bw K2;clear a5;go_wp2_with fail
 go_ret;exact ⟨v, rfl, ⟨fun h => ⟨HU.out, a6.1 h⟩, fun h => a6.2 h.2⟩, K3.hb⟩
theorem dS3 (a : Tx) (p : Tx) (v1 v2 : Value) (st : Int) (v3 : Value) (d : Tx) (u : Int) (w : World) :
  Calls prog 392 #[.agg #[.string a], .agg #[.string p, v1, v2, .int .i64 st, v3, .string d, .int .i64 u]] w fun e w' => aA5 (p = a) w e w' := by
 have K0 := jnil w;go_enter func392, ntmps392;go_upto_region 1 with fail
 obtain ⟨q1, a2⟩ := exq (w.heap.size);obtain ⟨w1, a0⟩ := exq (w.alloc (.cells #[.string a] 218));have a3 := a2.symm;rw [← a0]; try rw [← a2];have a7 := hsa a0 a3;have bw := bal a0;have K1 := ja K0 a0 a3;clear bw a0 a3 K0;obtain ⟨q2, a4⟩ := exq (q1 + 1);obtain ⟨w2, a1⟩ := exq (w1.alloc (.cells #[.string p, v1, v2, .int .i64 st, v3, .string d, .int .i64 u] 36));have a5 : w1.heap.size = q2 := by rw [a4]; exact a7
 rw [← a1]; try rw [← a4];have a8 := hsa a1 a5;have bw := bal a1;have K2 := ja K1 a1 a5;clear bw a1 a5 K1;clear a8 a4 a7 a2;have a9 := c1c (jb K2 1 rfl);have b0 := c7c (jb K2 0 rfl);by_cases hc1 : p = a
 rotate_left
 ·have a6 : ((p).toList == (a).toList) = false := aB8 hc1;go_wp2_with fail
  go_ret;exact ⟨false, rfl, by simpa using hc1, K2.hb⟩
 have a6 : ((p).toList == (a).toList) = true := (aD3 _ _).2 hc1;go_wp2_with fail
 go_ret;exact ⟨true, rfl, by simpa using hc1, K2.hb⟩
theorem cF0 (a p : Tx) : (bs a).isPrefixOf (bs p) = true ↔ bY2 a p := by
 rw [List.isPrefixOf_iff_prefix];constructor
 ·rintro ⟨r, h⟩; exact ⟨r, h.symm⟩
 rintro ⟨r, h⟩; exact ⟨r, h.symm⟩
theorem dS4 (a : Tx) (p : Tx) (v1 v2 : Value) (st : Int) (v3 : Value) (d : Tx) (u : Int) (w : World) (hp : p.size ≤ maxLen) :
  Calls prog 394 #[.agg #[.string a], .agg #[.string p, v1, v2, .int .i64 st, v3, .string d, .int .i64 u]] w fun e w' => aA5 (bY2 a p) w e w' := by
 have b3 := hid hp;clear hp;have K0 := jnil w;go_enter func394, ntmps394;go_upto_region 1 with fail
 obtain ⟨q1, a2⟩ := exq (w.heap.size);obtain ⟨w1, a0⟩ := exq (w.alloc (.cells #[.string a] 220));have a3 := a2.symm;rw [← a0]; try rw [← a2];have a9 := hsa a0 a3;have bw := bal a0;have K1 := ja K0 a0 a3;clear bw a0 a3 K0;obtain ⟨q2, a4⟩ := exq (q1 + 1);obtain ⟨w2, a1⟩ := exq (w1.alloc (.cells #[.string p, v1, v2, .int .i64 st, v3, .string d, .int .i64 u] 36));have a5 : w1.heap.size = q2 := by rw [a4]; exact a9
 rw [← a1]; try rw [← a4];have b1 := hsa a1 a5;have bw := bal a1;have K2 := ja K1 a1 a5;clear bw a1 a5 K1;clear b1 a4 a9 a2;have a6 := c1c (jb K2 1 rfl);have a7 := c7c (jb K2 0 rfl);go_wp2_with fail
 refine (Tryz.strings_HasPrefix p a _).mono ?_;rintro e w3 ⟨rfl, b0⟩;have bw : Below w2.heap.size (w2) w3 := by rw [b0]; exact Below.refl _ _
 clear b0;obtain ⟨u9, a8⟩ := exq (Lib.hasPrefix p.data.toList a.data.toList);rw [← a8];have b2 := hid a8;clear a8;have K3 := jw K2 bw;clear bw K2;clear a6 a7;go_wp2_with fail
 go_ret;exact ⟨u9, rfl, by rw [b2.out]; exact cF0 a p, K3.hb⟩
theorem dS5 (a b : Tx) (p : Tx) (v1 v2 : Value) (st : Int) (v3 : Value) (d : Tx) (u : Int) (w : World) (n3 base : Nat) (fs : Fs) (h3 : aB4 w base v3 n3 fs) (hn3 : n3 ≤ 2000000) (hc : aU0 fs) :
    Calls prog 396 #[.agg #[.string a, .string b], .agg #[.string p, v1, v2, .int .i64 st, v3, .string d, .int .i64 u]] w fun e w' => aA5 (getB fs a = true ∧ getV fs a = b) w e w' := by
  have b5 : Hid (∀ W, Bw w W → aB4 W base v3 n3 fs) := fun W h => h3.below h
  have HC : Hid (aU0 fs) := hc;clear h3 hc;have K0 := jnil w;go_enter func396, ntmps396;go_upto_region 1 with fail
  obtain ⟨q1, a5⟩ := exq (w.heap.size);obtain ⟨w1, a0⟩ := exq (w.alloc (.cells #[.string a, .string b] 222));have a6 := a5.symm;rw [← a0]; try rw [← a5];have b4 := hsa a0 a6;have bw := bal a0;have K1 := ja K0 a0 a6;clear bw a0 a6 K0;obtain ⟨q2, a7⟩ := exq (q1 + 1);obtain ⟨w2, a1⟩ := exq (w1.alloc (.cells #[.string p, v1, v2, .int .i64 st, v3, .string d, .int .i64 u] 36));have a8 : w1.heap.size = q2 := by rw [a7]; exact b4
  rw [← a1]; try rw [← a7];have b6 := hsa a1 a8;have bw := bal a1;have K2 := ja K1 a1 a8;clear bw a1 a8 K1;clear b6 a7 b4 a5;have a9 := c2c (jb K2 1 rfl);have b0 := c7c (jb K2 0 rfl);go_wp2_with fail
  refine (bQ4 _ n3 base fs a _ (b5.out _ K2.hb) (by omega) HC.out).mono ?_;rintro e w3 ⟨rfl, bw⟩;obtain ⟨gv, b1⟩ := exq (getV fs a);obtain ⟨ug, a2⟩ := exq (getB fs a);have b2 : Hid (getV fs a = gv) := b1.symm;rw [← b1, ← a2];clear b1;have K3 := jw K2 bw;clear bw K2;clear a9 b0;cases ug
  ·have a3 : Hid (¬ getB fs a = true) := (by show ¬ _; rw [← a2]; decide);clear a2;go_wp2_with fail
   go_ret;refine ⟨false, rfl, ?_, K3.hb⟩;have z1 := a3.out;have z2 := b2.out
   first
     | (have z3 := a4.out
        simp_all; done)
     | (simp_all; done)
  have a3 : Hid (getB fs a = true) := a2.symm;clear a2;have b7 := c2c (jb K3 1 rfl);by_cases hc1 : gv = b
  rotate_left
  ·have b3 : ((gv).toList == (b).toList) = false := aB8 hc1;have a4 := hid hc1;go_wp2_with fail
   go_ret;refine ⟨false, rfl, ?_, K3.hb⟩;have z1 := a3.out;have z2 := b2.out
   first
     | (have z3 := a4.out
        simp_all; done)
     | (simp_all; done)
  have b3 : ((gv).toList == (b).toList) = true := (aD3 _ _).2 hc1;have a4 : Hid (gv = b) := hc1;go_wp2_with fail
  go_ret;refine ⟨true, rfl, ?_, K3.hb⟩;have z1 := a3.out;have z2 := b2.out
  first
    | (have z3 := a4.out
       simp_all; done)
    | (simp_all; done)
theorem bH2 : prog.eqGuardType prog.depth 44 = false := by kernel_rfl
open Classical in
theorem dO8 (k k' : Int) (a a' b b' : Tx) (t t' : Int) (w : World) : (Op.equalIn 10000 44 (.agg #[.int .i64 k, .string a, .string b, .int .i64 t]) (.agg #[.int .i64 k', .string a', .string b', .int .i64 t'])).run prog w = .ok (decide (k = k' ∧ a = a' ∧ b = b' ∧ t = t')) w := by
 have u3 := underlying3;have a3 := isAgg3;have z3 := sizeOf3;have u9 := underlying9;have a9 := isAgg9;have z9 := sizeOf9;have hS : prog.underlying 44 = some (.struct (prog.fieldsOf 44)) := by kernel_rfl
 have hp : prog.stoodInHeld 44 = false := by kernel_rfl
 rw [show (10000 : Nat) = 9999 + 1 from rfl, run_equalIn_agg w 9999 44 _ _ hS hp];simp only [Program.fieldsOf, underlying44]
 have ea : ∀ x y : ByteArray, (x.toList == y.toList) = decide (x = y) := fun x y => by
  by_cases h : x = y
  ·rw [decide_eq_true h]; exact (aD3 _ _).2 h
  ·rw [decide_eq_false h]; exact aB8 h
 go_simp;by_cases h1 : k = k'
 rotate_left
 ·simp [h1]
 by_cases h2 : a = a'
 rotate_left
 ·simp [h1, h2]
 by_cases h3 : b = b'
 rotate_left
 ·simp [h1, h2, h3]
 by_cases h4 : t = t'
 ·simp [h1, h2, h3, h4]
 simp [h1, h2, h3, h4]
open Classical in
theorem cK3 (k k' : Int) (a a' b b' : Tx) (t t' : Int) (w : World) : (binOp .eql 44 (.agg #[.int .i64 k, .string a, .string b, .int .i64 t]) (.agg #[.int .i64 k', .string a', .string b', .int .i64 t'])).run prog w = .ok (.bool (decide (k = k' ∧ a = a' ∧ b = b' ∧ t = t'))) w := by
 rw [run_eql_struct, dO8];rfl
theorem cK4 (a : Tx) (t : Int) (w : World) (ha : a.size ≤ maxLen) :
  Calls prog 84 #[.agg #[.int .i64 1, .string a, .string ⟨#[]⟩, .int .i64 t]] w fun e w' => aA5 (BanP 1 a ⟨#[]⟩ t) w e w' := by
 classical
 have b6 := hid ha;have b8 : ∀ W : World, (binOp .neq 132 (.iface 218 (.agg #[.string a])) .nilIface).run prog W = .ok (.bool true) W := fun _ => by kernel_rfl
 have b9 : ∀ W : World, (nilAhead 157 218 (.agg #[.string a]) "loop.example/g00239/impl.right").run prog W = .ok (some false) W := fun _ => by kernel_rfl
 have c0 : ∀ W : World, (method 157 218 (.agg #[.string a]) "loop.example/g00239/impl.right").run prog W = .ok (393, .agg #[.string a]) W := fun _ => by kernel_rfl
 have c1 := bH2
 have c2 : ∀ W : World, (binOp .eql 44 (.agg #[.int .i64 1, .string a, .string ⟨#[]⟩, .int .i64 t]) (.agg #[.int .i64 1, .string a, .string ⟨#[]⟩, .int .i64 t])).run prog W = .ok (.bool true) W := fun W => by
  rw [cK3]
  first | (simp; done) | (have z := HB0.out; simp; exact fun e => z e.symm)
 clear ha;have K0 := jnil w;go_enter func84, ntmps84;go_upto_region 1 with fail
 obtain ⟨q1, b0⟩ := exq (w.heap.size);obtain ⟨w1, a4⟩ := exq (w.alloc (.cells #[.int .i64 1, .string a, .string ⟨#[]⟩, .int .i64 t] 44));have b1 := b0.symm;rw [← a4]; try rw [← b0];have b7 := hsa a4 b1;have bw := bal a4;have K1 := ja K0 a4 b1;clear bw a4 b1 K0;clear b7 b0;have b2 := c4c (jb K1 0 rfl);go_wp2_with fail
 refine (cE8 a ⟨#[]⟩ t _).mono ?_;rintro e w2 ⟨rfl, bw⟩;have K2 := jw K1 bw;clear bw K1;clear b2;go_upto_region 2 with fail
 refine wp_region_held_drew (S := fun W => W.heap[q1]? = some (.cells #[.int .i64 1, .string a, .string ⟨#[]⟩, .int .i64 t] 44)) (by kernel_rfl) (jb K2 0 rfl) (fun _ => ?_)
 obtain ⟨w3, hX⟩ := exq w2.drew;have bw := bdr hX;rw [← hX];have K3 := jw K2 bw;have a5 := (jb K3 0 rfl);clear bw hX K2;refine tkP 0 (.iface 218 (.agg #[.string a])) 6 rfl rfl a5 (tkP 1 (.bool true) 7 rfl rfl a5 (tkP 2 (.bool true) 8 rfl rfl a5 ?_));go_frame;refine tkP 3 (.iface 218 (.agg #[.string a])) 9 rfl rfl a5 ?_;go_frame;refine rd1 4 rfl (fun K hK => ?_)
 go_simp;refine (dF4 a _ b6.out).mono ?_;rintro e w4 ⟨ur, rfl, a3, bw⟩;have K4 := jw K3 bw;clear bw K3;have a0 := (jb K4 0 rfl);refine hK.out _ _ a0 (fun _ => ?_)
 clear hK K a5;refine tkP 5 (.bool ur) 11 rfl rfl a0 (tkP 6 (.bool ur) 12 rfl rfl a0 ?_);go_frame;cases ur
 ·have a9 : Hid (¬ (aI9 a)) := fun h => nomatch a3.2 h
  clear a3;refine tkN 7 13 rfl rfl a0 (tkN 8 14 rfl rfl a0 (tkN 9 15 rfl rfl a0 ?_));go_frame;refine tkP 10 (.bool false) 16 rfl rfl a0 (tkP 11 (.bool false) 17 rfl rfl a0 (tkN 12 18 rfl rfl a0 ?_));go_frame;refine tkN 13 19 rfl rfl a0 (tkN 14 20 rfl rfl a0 (tkN 15 21 rfl rfl a0 ?_));go_frame;refine tkN 16 22 rfl rfl a0 (tkN 17 23 rfl rfl a0 (tkP 18 (.bool false) 24 rfl rfl a0 ?_));go_frame;refine tkP 19 (.bool false) 2 rfl rfl a0 ?_;go_frame;clear a0;refine wdn ?_;go_wp2_with fail
  go_ret;refine ⟨false, rfl, ?_, K4.hb⟩;have a6 := a9.out;unfold BanP;simp_all
 have a9 : Hid (aI9 a) := a3.1 rfl;clear a3;refine tkP 7 (.pointer (some ⟨q1, 3, none⟩)) 13 rfl rfl a0 ?_;go_frame;refine tkL 8 (.int .i64 t) 14 rfl rfl (Or.inl ⟨by rfl, by intro W hW; have a2 := hW; have y3 := c4c a2; go_simp⟩) a0 ?_;go_frame;refine rd1 9 rfl (fun K hK => ?_)
 go_simp;refine (aS4 t _).mono ?_;rintro e w5 ⟨rfl, b5⟩;have bw : Below w4.heap.size (w4) w5 := by rw [b5]; exact Below.refl _ _
 clear b5;obtain ⟨ut, a7⟩ : ∃ u, u = decide ((0 : Int) ≤ t ∧ t ≤ 1000000) := ⟨_, rfl⟩;rw [← a7];have K5 := jw K4 bw;clear bw K4;have a1 := (jb K5 0 rfl);refine hK.out _ _ a1 (fun _ => ?_)
 clear hK K a0;refine tkP 10 (.bool ut) 16 rfl rfl a1 (tkP 11 (.bool ut) 17 rfl rfl a1 ?_);go_frame;cases ut
 ·have b3 : Hid (¬ (0 ≤ t ∧ t ≤ 1000000)) := (show ¬ (0 ≤ t ∧ t ≤ 1000000) from of_decide_eq_false a7.symm);clear a7;refine tkN 12 18 rfl rfl a1 (tkN 13 19 rfl rfl a1 (tkN 14 20 rfl rfl a1 ?_));go_frame;refine tkN 15 21 rfl rfl a1 (tkN 16 22 rfl rfl a1 (tkN 17 23 rfl rfl a1 ?_));go_frame;refine tkP 18 (.bool false) 24 rfl rfl a1 (tkP 19 (.bool false) 2 rfl rfl a1 ?_);go_frame;clear a1;refine wdn ?_;go_wp2_with fail
  go_ret;refine ⟨false, rfl, ?_, K5.hb⟩;have a6 := a9.out;have b4 := b3.out;unfold BanP;simp_all
 have b3 : Hid (0 ≤ t ∧ t ≤ 1000000) := (show 0 ≤ t ∧ t ≤ 1000000 from of_decide_eq_true a7.symm);clear a7;refine tkP 12 (.iface 218 (.agg #[.string a])) 18 rfl rfl a1 (tkP 13 (.pointer (some ⟨q1, 3, none⟩)) 19 rfl rfl a1 ?_);go_frame;refine tkL 14 (.int .i64 t) 20 rfl rfl (Or.inl ⟨by rfl, by intro W hW; have a2 := hW; have y3 := c4c a2; go_simp⟩) a1 ?_;go_frame;refine tkL 16 (.agg #[.int .i64 1, .string a, .string ⟨#[]⟩, .int .i64 t]) 22 rfl rfl (Or.inl ⟨by rfl, by intro W hW; have a2 := hW; have y0 := c4c a2; go_simp⟩) a1 ?_;go_frame;refine rd1 15 rfl (fun K hK => ?_)
 go_simp;refine (dF2 a t _).mono ?_;rintro e w6 ⟨rfl, bw⟩;have K6 := jw K5 bw;clear bw K5;have a8 := (jb K6 0 rfl);refine hK.out _ _ a8 (fun _ => ?_)
 clear hK K a1;refine tkP 17 (.bool true) 23 rfl rfl a8 (tkP 18 (.bool true) 24 rfl rfl a8 (tkP 19 (.bool true) 2 rfl rfl a8 ?_));go_frame;clear a8;refine wdn ?_;go_wp2_with fail
 go_ret;refine ⟨true, rfl, ?_, K6.hb⟩;have a6 := a9.out;have b4 := b3.out;unfold BanP;simp_all
theorem cK5 (a b : Tx) (t : Int) (w : World) (ha : a.size ≤ maxLen) (hb0 : ¬ b = ⟨#[]⟩) :
  Calls prog 84 #[.agg #[.int .i64 1, .string a, .string b, .int .i64 t]] w fun e w' => aA5 (BanP 1 a b t) w e w' := by
 classical
 have b8 := hid ha;have a9 := hid hb0;have c0 : ∀ W : World, (binOp .neq 132 (.iface 218 (.agg #[.string a])) .nilIface).run prog W = .ok (.bool true) W := fun _ => by kernel_rfl
 have c1 : ∀ W : World, (nilAhead 157 218 (.agg #[.string a]) "loop.example/g00239/impl.right").run prog W = .ok (some false) W := fun _ => by kernel_rfl
 have c2 : ∀ W : World, (method 157 218 (.agg #[.string a]) "loop.example/g00239/impl.right").run prog W = .ok (393, .agg #[.string a]) W := fun _ => by kernel_rfl
 have c3 := bH2
 have c4 : ∀ W : World, (binOp .eql 44 (.agg #[.int .i64 1, .string a, .string ⟨#[]⟩, .int .i64 t]) (.agg #[.int .i64 1, .string a, .string b, .int .i64 t])).run prog W = .ok (.bool false) W := fun W => by
  rw [cK3]
  first | (simp; done) | (have z := a9.out; simp; exact fun e => z e.symm)
 clear ha hb0;have K0 := jnil w;go_enter func84, ntmps84;go_upto_region 1 with fail
 obtain ⟨q1, b1⟩ := exq (w.heap.size);obtain ⟨w1, a4⟩ := exq (w.alloc (.cells #[.int .i64 1, .string a, .string b, .int .i64 t] 44));have b2 := b1.symm;rw [← a4]; try rw [← b1];have b9 := hsa a4 b2;have bw := bal a4;have K1 := ja K0 a4 b2;clear bw a4 b2 K0;clear b9 b1;have b3 := c4c (jb K1 0 rfl);go_wp2_with fail
 refine (cE8 a b t _).mono ?_;rintro e w2 ⟨rfl, bw⟩;have K2 := jw K1 bw;clear bw K1;clear b3;go_upto_region 2 with fail
 refine wp_region_held_drew (S := fun W => W.heap[q1]? = some (.cells #[.int .i64 1, .string a, .string b, .int .i64 t] 44)) (by kernel_rfl) (jb K2 0 rfl) (fun _ => ?_)
 obtain ⟨w3, hX⟩ := exq w2.drew;have bw := bdr hX;rw [← hX];have K3 := jw K2 bw;have a5 := (jb K3 0 rfl);clear bw hX K2;refine tkP 0 (.iface 218 (.agg #[.string a])) 6 rfl rfl a5 (tkP 1 (.bool true) 7 rfl rfl a5 (tkP 2 (.bool true) 8 rfl rfl a5 ?_));go_frame;refine tkP 3 (.iface 218 (.agg #[.string a])) 9 rfl rfl a5 ?_;go_frame;refine rd1 4 rfl (fun K hK => ?_)
 go_simp;refine (dF4 a _ b8.out).mono ?_;rintro e w4 ⟨ur, rfl, a3, bw⟩;have K4 := jw K3 bw;clear bw K3;have a0 := (jb K4 0 rfl);refine hK.out _ _ a0 (fun _ => ?_)
 clear hK K a5;refine tkP 5 (.bool ur) 11 rfl rfl a0 (tkP 6 (.bool ur) 12 rfl rfl a0 ?_);go_frame;cases ur
 ·have b0 : Hid (¬ (aI9 a)) := fun h => nomatch a3.2 h
  clear a3;refine tkN 7 13 rfl rfl a0 (tkN 8 14 rfl rfl a0 (tkN 9 15 rfl rfl a0 ?_));go_frame;refine tkP 10 (.bool false) 16 rfl rfl a0 (tkP 11 (.bool false) 17 rfl rfl a0 (tkN 12 18 rfl rfl a0 ?_));go_frame;refine tkN 13 19 rfl rfl a0 (tkN 14 20 rfl rfl a0 (tkN 15 21 rfl rfl a0 ?_));go_frame;refine tkN 16 22 rfl rfl a0 (tkN 17 23 rfl rfl a0 (tkP 18 (.bool false) 24 rfl rfl a0 ?_));go_frame;refine tkP 19 (.bool false) 2 rfl rfl a0 ?_;go_frame;clear a0;refine wdn ?_;go_wp2_with fail
  go_ret;refine ⟨false, rfl, ?_, K4.hb⟩;have a6 := b0.out;have b6 := a9.out;unfold BanP;simp_all
 have b0 : Hid (aI9 a) := a3.1 rfl;clear a3;refine tkP 7 (.pointer (some ⟨q1, 3, none⟩)) 13 rfl rfl a0 ?_;go_frame;refine tkL 8 (.int .i64 t) 14 rfl rfl (Or.inl ⟨by rfl, by intro W hW; have a2 := hW; have y3 := c4c a2; go_simp⟩) a0 ?_;go_frame;refine rd1 9 rfl (fun K hK => ?_)
 go_simp;refine (aS4 t _).mono ?_;rintro e w5 ⟨rfl, b7⟩;have bw : Below w4.heap.size (w4) w5 := by rw [b7]; exact Below.refl _ _
 clear b7;obtain ⟨ut, a7⟩ : ∃ u, u = decide ((0 : Int) ≤ t ∧ t ≤ 1000000) := ⟨_, rfl⟩;rw [← a7];have K5 := jw K4 bw;clear bw K4;have a1 := (jb K5 0 rfl);refine hK.out _ _ a1 (fun _ => ?_)
 clear hK K a0;refine tkP 10 (.bool ut) 16 rfl rfl a1 (tkP 11 (.bool ut) 17 rfl rfl a1 ?_);go_frame;cases ut
 ·have b4 : Hid (¬ (0 ≤ t ∧ t ≤ 1000000)) := (show ¬ (0 ≤ t ∧ t ≤ 1000000) from of_decide_eq_false a7.symm);clear a7;refine tkN 12 18 rfl rfl a1 (tkN 13 19 rfl rfl a1 (tkN 14 20 rfl rfl a1 ?_));go_frame;refine tkN 15 21 rfl rfl a1 (tkN 16 22 rfl rfl a1 (tkN 17 23 rfl rfl a1 ?_));go_frame;refine tkP 18 (.bool false) 24 rfl rfl a1 (tkP 19 (.bool false) 2 rfl rfl a1 ?_);go_frame;clear a1;refine wdn ?_;go_wp2_with fail
  go_ret;refine ⟨false, rfl, ?_, K5.hb⟩;have a6 := b0.out;have b5 := b4.out;have b6 := a9.out;unfold BanP;simp_all
 have b4 : Hid (0 ≤ t ∧ t ≤ 1000000) := (show 0 ≤ t ∧ t ≤ 1000000 from of_decide_eq_true a7.symm);clear a7;refine tkP 12 (.iface 218 (.agg #[.string a])) 18 rfl rfl a1 (tkP 13 (.pointer (some ⟨q1, 3, none⟩)) 19 rfl rfl a1 ?_);go_frame;refine tkL 14 (.int .i64 t) 20 rfl rfl (Or.inl ⟨by rfl, by intro W hW; have a2 := hW; have y3 := c4c a2; go_simp⟩) a1 ?_;go_frame;refine tkL 16 (.agg #[.int .i64 1, .string a, .string b, .int .i64 t]) 22 rfl rfl (Or.inl ⟨by rfl, by intro W hW; have a2 := hW; have y0 := c4c a2; go_simp⟩) a1 ?_;go_frame;refine rd1 15 rfl (fun K hK => ?_)
 go_simp;refine (dF2 a t _).mono ?_;rintro e w6 ⟨rfl, bw⟩;have K6 := jw K5 bw;clear bw K5;have a8 := (jb K6 0 rfl);refine hK.out _ _ a8 (fun _ => ?_)
 clear hK K a1;refine tkP 17 (.bool false) 23 rfl rfl a8 (tkP 18 (.bool false) 24 rfl rfl a8 (tkP 19 (.bool false) 2 rfl rfl a8 ?_));go_frame;clear a8;refine wdn ?_;go_wp2_with fail
 go_ret;refine ⟨false, rfl, ?_, K6.hb⟩;have a6 := b0.out;have b5 := b4.out;have b6 := a9.out;unfold BanP;simp_all
theorem cK6 (a : Tx) (t : Int) (w : World) (ha : a.size ≤ maxLen) :
  Calls prog 84 #[.agg #[.int .i64 2, .string a, .string ⟨#[]⟩, .int .i64 t]] w fun e w' => aA5 (BanP 2 a ⟨#[]⟩ t) w e w' := by
 classical
 have b6 := hid ha;have b8 : ∀ W : World, (binOp .neq 132 (.iface 220 (.agg #[.string a])) .nilIface).run prog W = .ok (.bool true) W := fun _ => by kernel_rfl
 have b9 : ∀ W : World, (nilAhead 157 220 (.agg #[.string a]) "loop.example/g00239/impl.right").run prog W = .ok (some false) W := fun _ => by kernel_rfl
 have c0 : ∀ W : World, (method 157 220 (.agg #[.string a]) "loop.example/g00239/impl.right").run prog W = .ok (395, .agg #[.string a]) W := fun _ => by kernel_rfl
 have c1 := bH2
 have c2 : ∀ W : World, (binOp .eql 44 (.agg #[.int .i64 2, .string a, .string ⟨#[]⟩, .int .i64 t]) (.agg #[.int .i64 2, .string a, .string ⟨#[]⟩, .int .i64 t])).run prog W = .ok (.bool true) W := fun W => by
  rw [cK3]
  first | (simp; done) | (have z := HB0.out; simp; exact fun e => z e.symm)
 clear ha;have K0 := jnil w;go_enter func84, ntmps84;go_upto_region 1 with fail
 obtain ⟨q1, b0⟩ := exq (w.heap.size);obtain ⟨w1, a4⟩ := exq (w.alloc (.cells #[.int .i64 2, .string a, .string ⟨#[]⟩, .int .i64 t] 44));have b1 := b0.symm;rw [← a4]; try rw [← b0];have b7 := hsa a4 b1;have bw := bal a4;have K1 := ja K0 a4 b1;clear bw a4 b1 K0;clear b7 b0;have b2 := c4c (jb K1 0 rfl);go_wp2_with fail
 refine (cE9 a ⟨#[]⟩ t _).mono ?_;rintro e w2 ⟨rfl, bw⟩;have K2 := jw K1 bw;clear bw K1;clear b2;go_upto_region 2 with fail
 refine wp_region_held_drew (S := fun W => W.heap[q1]? = some (.cells #[.int .i64 2, .string a, .string ⟨#[]⟩, .int .i64 t] 44)) (by kernel_rfl) (jb K2 0 rfl) (fun _ => ?_)
 obtain ⟨w3, hX⟩ := exq w2.drew;have bw := bdr hX;rw [← hX];have K3 := jw K2 bw;have a5 := (jb K3 0 rfl);clear bw hX K2;refine tkP 0 (.iface 220 (.agg #[.string a])) 6 rfl rfl a5 (tkP 1 (.bool true) 7 rfl rfl a5 (tkP 2 (.bool true) 8 rfl rfl a5 ?_));go_frame;refine tkP 3 (.iface 220 (.agg #[.string a])) 9 rfl rfl a5 ?_;go_frame;refine rd1 4 rfl (fun K hK => ?_)
 go_simp;refine (dF5 a _ b6.out).mono ?_;rintro e w4 ⟨ur, rfl, a3, bw⟩;have K4 := jw K3 bw;clear bw K3;have a0 := (jb K4 0 rfl);refine hK.out _ _ a0 (fun _ => ?_)
 clear hK K a5;refine tkP 5 (.bool ur) 11 rfl rfl a0 (tkP 6 (.bool ur) 12 rfl rfl a0 ?_);go_frame;cases ur
 ·have a9 : Hid (¬ (aI9 a)) := fun h => nomatch a3.2 h
  clear a3;refine tkN 7 13 rfl rfl a0 (tkN 8 14 rfl rfl a0 (tkN 9 15 rfl rfl a0 ?_));go_frame;refine tkP 10 (.bool false) 16 rfl rfl a0 (tkP 11 (.bool false) 17 rfl rfl a0 (tkN 12 18 rfl rfl a0 ?_));go_frame;refine tkN 13 19 rfl rfl a0 (tkN 14 20 rfl rfl a0 (tkN 15 21 rfl rfl a0 ?_));go_frame;refine tkN 16 22 rfl rfl a0 (tkN 17 23 rfl rfl a0 (tkP 18 (.bool false) 24 rfl rfl a0 ?_));go_frame;refine tkP 19 (.bool false) 2 rfl rfl a0 ?_;go_frame;clear a0;refine wdn ?_;go_wp2_with fail
  go_ret;refine ⟨false, rfl, ?_, K4.hb⟩;have a6 := a9.out;unfold BanP;simp_all
 have a9 : Hid (aI9 a) := a3.1 rfl;clear a3;refine tkP 7 (.pointer (some ⟨q1, 3, none⟩)) 13 rfl rfl a0 ?_;go_frame;refine tkL 8 (.int .i64 t) 14 rfl rfl (Or.inl ⟨by rfl, by intro W hW; have a2 := hW; have y3 := c4c a2; go_simp⟩) a0 ?_;go_frame;refine rd1 9 rfl (fun K hK => ?_)
 go_simp;refine (aS4 t _).mono ?_;rintro e w5 ⟨rfl, b5⟩;have bw : Below w4.heap.size (w4) w5 := by rw [b5]; exact Below.refl _ _
 clear b5;obtain ⟨ut, a7⟩ : ∃ u, u = decide ((0 : Int) ≤ t ∧ t ≤ 1000000) := ⟨_, rfl⟩;rw [← a7];have K5 := jw K4 bw;clear bw K4;have a1 := (jb K5 0 rfl);refine hK.out _ _ a1 (fun _ => ?_)
 clear hK K a0;refine tkP 10 (.bool ut) 16 rfl rfl a1 (tkP 11 (.bool ut) 17 rfl rfl a1 ?_);go_frame;cases ut
 ·have b3 : Hid (¬ (0 ≤ t ∧ t ≤ 1000000)) := (show ¬ (0 ≤ t ∧ t ≤ 1000000) from of_decide_eq_false a7.symm);clear a7;refine tkN 12 18 rfl rfl a1 (tkN 13 19 rfl rfl a1 (tkN 14 20 rfl rfl a1 ?_));go_frame;refine tkN 15 21 rfl rfl a1 (tkN 16 22 rfl rfl a1 (tkN 17 23 rfl rfl a1 ?_));go_frame;refine tkP 18 (.bool false) 24 rfl rfl a1 (tkP 19 (.bool false) 2 rfl rfl a1 ?_);go_frame;clear a1;refine wdn ?_;go_wp2_with fail
  go_ret;refine ⟨false, rfl, ?_, K5.hb⟩;have a6 := a9.out;have b4 := b3.out;unfold BanP;simp_all
 have b3 : Hid (0 ≤ t ∧ t ≤ 1000000) := (show 0 ≤ t ∧ t ≤ 1000000 from of_decide_eq_true a7.symm);clear a7;refine tkP 12 (.iface 220 (.agg #[.string a])) 18 rfl rfl a1 (tkP 13 (.pointer (some ⟨q1, 3, none⟩)) 19 rfl rfl a1 ?_);go_frame;refine tkL 14 (.int .i64 t) 20 rfl rfl (Or.inl ⟨by rfl, by intro W hW; have a2 := hW; have y3 := c4c a2; go_simp⟩) a1 ?_;go_frame;refine tkL 16 (.agg #[.int .i64 2, .string a, .string ⟨#[]⟩, .int .i64 t]) 22 rfl rfl (Or.inl ⟨by rfl, by intro W hW; have a2 := hW; have y0 := c4c a2; go_simp⟩) a1 ?_;go_frame;refine rd1 15 rfl (fun K hK => ?_)
 go_simp;refine (dF3 a t _).mono ?_;rintro e w6 ⟨rfl, bw⟩;have K6 := jw K5 bw;clear bw K5;have a8 := (jb K6 0 rfl);refine hK.out _ _ a8 (fun _ => ?_)
 clear hK K a1;refine tkP 17 (.bool true) 23 rfl rfl a8 (tkP 18 (.bool true) 24 rfl rfl a8 (tkP 19 (.bool true) 2 rfl rfl a8 ?_));go_frame;clear a8;refine wdn ?_;go_wp2_with fail
 go_ret;refine ⟨true, rfl, ?_, K6.hb⟩;have a6 := a9.out;have b4 := b3.out;unfold BanP;simp_all
theorem cK7 (a b : Tx) (t : Int) (w : World) (ha : a.size ≤ maxLen) (hb0 : ¬ b = ⟨#[]⟩) :
  Calls prog 84 #[.agg #[.int .i64 2, .string a, .string b, .int .i64 t]] w fun e w' => aA5 (BanP 2 a b t) w e w' := by
 classical
 have b8 := hid ha;have a9 := hid hb0;have c0 : ∀ W : World, (binOp .neq 132 (.iface 220 (.agg #[.string a])) .nilIface).run prog W = .ok (.bool true) W := fun _ => by kernel_rfl
 have c1 : ∀ W : World, (nilAhead 157 220 (.agg #[.string a]) "loop.example/g00239/impl.right").run prog W = .ok (some false) W := fun _ => by kernel_rfl
 have c2 : ∀ W : World, (method 157 220 (.agg #[.string a]) "loop.example/g00239/impl.right").run prog W = .ok (395, .agg #[.string a]) W := fun _ => by kernel_rfl
 have c3 := bH2
 have c4 : ∀ W : World, (binOp .eql 44 (.agg #[.int .i64 2, .string a, .string ⟨#[]⟩, .int .i64 t]) (.agg #[.int .i64 2, .string a, .string b, .int .i64 t])).run prog W = .ok (.bool false) W := fun W => by
  rw [cK3]
  first | (simp; done) | (have z := a9.out; simp; exact fun e => z e.symm)
 clear ha hb0;have K0 := jnil w;go_enter func84, ntmps84;go_upto_region 1 with fail
 obtain ⟨q1, b1⟩ := exq (w.heap.size);obtain ⟨w1, a4⟩ := exq (w.alloc (.cells #[.int .i64 2, .string a, .string b, .int .i64 t] 44));have b2 := b1.symm;rw [← a4]; try rw [← b1];have b9 := hsa a4 b2;have bw := bal a4;have K1 := ja K0 a4 b2;clear bw a4 b2 K0;clear b9 b1;have b3 := c4c (jb K1 0 rfl);go_wp2_with fail
 refine (cE9 a b t _).mono ?_;rintro e w2 ⟨rfl, bw⟩;have K2 := jw K1 bw;clear bw K1;clear b3;go_upto_region 2 with fail
 refine wp_region_held_drew (S := fun W => W.heap[q1]? = some (.cells #[.int .i64 2, .string a, .string b, .int .i64 t] 44)) (by kernel_rfl) (jb K2 0 rfl) (fun _ => ?_)
 obtain ⟨w3, hX⟩ := exq w2.drew;have bw := bdr hX;rw [← hX];have K3 := jw K2 bw;have a5 := (jb K3 0 rfl);clear bw hX K2;refine tkP 0 (.iface 220 (.agg #[.string a])) 6 rfl rfl a5 (tkP 1 (.bool true) 7 rfl rfl a5 (tkP 2 (.bool true) 8 rfl rfl a5 ?_));go_frame;refine tkP 3 (.iface 220 (.agg #[.string a])) 9 rfl rfl a5 ?_;go_frame;refine rd1 4 rfl (fun K hK => ?_)
 go_simp;refine (dF5 a _ b8.out).mono ?_;rintro e w4 ⟨ur, rfl, a3, bw⟩;have K4 := jw K3 bw;clear bw K3;have a0 := (jb K4 0 rfl);refine hK.out _ _ a0 (fun _ => ?_)
 clear hK K a5;refine tkP 5 (.bool ur) 11 rfl rfl a0 (tkP 6 (.bool ur) 12 rfl rfl a0 ?_);go_frame;cases ur
 ·have b0 : Hid (¬ (aI9 a)) := fun h => nomatch a3.2 h
  clear a3;refine tkN 7 13 rfl rfl a0 (tkN 8 14 rfl rfl a0 (tkN 9 15 rfl rfl a0 ?_));go_frame;refine tkP 10 (.bool false) 16 rfl rfl a0 (tkP 11 (.bool false) 17 rfl rfl a0 (tkN 12 18 rfl rfl a0 ?_));go_frame;refine tkN 13 19 rfl rfl a0 (tkN 14 20 rfl rfl a0 (tkN 15 21 rfl rfl a0 ?_));go_frame;refine tkN 16 22 rfl rfl a0 (tkN 17 23 rfl rfl a0 (tkP 18 (.bool false) 24 rfl rfl a0 ?_));go_frame;refine tkP 19 (.bool false) 2 rfl rfl a0 ?_;go_frame;clear a0;refine wdn ?_;go_wp2_with fail
  go_ret;refine ⟨false, rfl, ?_, K4.hb⟩;have a6 := b0.out;have b6 := a9.out;unfold BanP;simp_all
 have b0 : Hid (aI9 a) := a3.1 rfl;clear a3;refine tkP 7 (.pointer (some ⟨q1, 3, none⟩)) 13 rfl rfl a0 ?_;go_frame;refine tkL 8 (.int .i64 t) 14 rfl rfl (Or.inl ⟨by rfl, by intro W hW; have a2 := hW; have y3 := c4c a2; go_simp⟩) a0 ?_;go_frame;refine rd1 9 rfl (fun K hK => ?_)
 go_simp;refine (aS4 t _).mono ?_;rintro e w5 ⟨rfl, b7⟩;have bw : Below w4.heap.size (w4) w5 := by rw [b7]; exact Below.refl _ _
 clear b7;obtain ⟨ut, a7⟩ : ∃ u, u = decide ((0 : Int) ≤ t ∧ t ≤ 1000000) := ⟨_, rfl⟩;rw [← a7];have K5 := jw K4 bw;clear bw K4;have a1 := (jb K5 0 rfl);refine hK.out _ _ a1 (fun _ => ?_)
 clear hK K a0;refine tkP 10 (.bool ut) 16 rfl rfl a1 (tkP 11 (.bool ut) 17 rfl rfl a1 ?_);go_frame;cases ut
 ·have b4 : Hid (¬ (0 ≤ t ∧ t ≤ 1000000)) := (show ¬ (0 ≤ t ∧ t ≤ 1000000) from of_decide_eq_false a7.symm);clear a7;refine tkN 12 18 rfl rfl a1 (tkN 13 19 rfl rfl a1 (tkN 14 20 rfl rfl a1 ?_));go_frame;refine tkN 15 21 rfl rfl a1 (tkN 16 22 rfl rfl a1 (tkN 17 23 rfl rfl a1 ?_));go_frame;refine tkP 18 (.bool false) 24 rfl rfl a1 (tkP 19 (.bool false) 2 rfl rfl a1 ?_);go_frame;clear a1;refine wdn ?_;go_wp2_with fail
  go_ret;refine ⟨false, rfl, ?_, K5.hb⟩;have a6 := b0.out;have b5 := b4.out;have b6 := a9.out;unfold BanP;simp_all
 have b4 : Hid (0 ≤ t ∧ t ≤ 1000000) := (show 0 ≤ t ∧ t ≤ 1000000 from of_decide_eq_true a7.symm);clear a7;refine tkP 12 (.iface 220 (.agg #[.string a])) 18 rfl rfl a1 (tkP 13 (.pointer (some ⟨q1, 3, none⟩)) 19 rfl rfl a1 ?_);go_frame;refine tkL 14 (.int .i64 t) 20 rfl rfl (Or.inl ⟨by rfl, by intro W hW; have a2 := hW; have y3 := c4c a2; go_simp⟩) a1 ?_;go_frame;refine tkL 16 (.agg #[.int .i64 2, .string a, .string b, .int .i64 t]) 22 rfl rfl (Or.inl ⟨by rfl, by intro W hW; have a2 := hW; have y0 := c4c a2; go_simp⟩) a1 ?_;go_frame;refine rd1 15 rfl (fun K hK => ?_)
 go_simp;refine (dF3 a t _).mono ?_;rintro e w6 ⟨rfl, bw⟩;have K6 := jw K5 bw;clear bw K5;have a8 := (jb K6 0 rfl);refine hK.out _ _ a8 (fun _ => ?_)
 clear hK K a1;refine tkP 17 (.bool false) 23 rfl rfl a8 (tkP 18 (.bool false) 24 rfl rfl a8 (tkP 19 (.bool false) 2 rfl rfl a8 ?_));go_frame;clear a8;refine wdn ?_;go_wp2_with fail
 go_ret;refine ⟨false, rfl, ?_, K6.hb⟩;have a6 := b0.out;have b5 := b4.out;have b6 := a9.out;unfold BanP;simp_all
theorem cP0 (a b : Tx) (t : Int) (w : World) (ha : a.size ≤ maxLen) (hb : b.size ≤ maxLen) :
  Calls prog 84 #[.agg #[.int .i64 3, .string a, .string b, .int .i64 t]] w fun e w' => aA5 (BanP 3 a b t) w e w' := by
 classical
 have b6 := hid ha;have b7 := hid hb;have b9 : ∀ W : World, (binOp .neq 132 (.iface 222 (.agg #[.string a, .string b])) .nilIface).run prog W = .ok (.bool true) W := fun _ => by kernel_rfl
 have c0 : ∀ W : World, (nilAhead 157 222 (.agg #[.string a, .string b]) "loop.example/g00239/impl.right").run prog W = .ok (some false) W := fun _ => by kernel_rfl
 have c1 : ∀ W : World, (method 157 222 (.agg #[.string a, .string b]) "loop.example/g00239/impl.right").run prog W = .ok (397, .agg #[.string a, .string b]) W := fun _ => by kernel_rfl
 have c2 := bH2
 have c3 : ∀ W : World, (binOp .eql 44 (.agg #[.int .i64 3, .string a, .string b, .int .i64 t]) (.agg #[.int .i64 3, .string a, .string b, .int .i64 t])).run prog W = .ok (.bool true) W := fun W => by
  rw [cK3]
  first | (simp; done) | (have z := HB0.out; simp; exact fun e => z e.symm)
 clear ha hb;have K0 := jnil w;go_enter func84, ntmps84;go_upto_region 1 with fail
 obtain ⟨q1, b0⟩ := exq (w.heap.size);obtain ⟨w1, a4⟩ := exq (w.alloc (.cells #[.int .i64 3, .string a, .string b, .int .i64 t] 44));have b1 := b0.symm;rw [← a4]; try rw [← b0];have b8 := hsa a4 b1;have bw := bal a4;have K1 := ja K0 a4 b1;clear bw a4 b1 K0;clear b8 b0;have b2 := c4c (jb K1 0 rfl);go_wp2_with fail
 refine (cT5 a b t _).mono ?_;rintro e w2 ⟨rfl, bw⟩;have K2 := jw K1 bw;clear bw K1;clear b2;go_upto_region 2 with fail
 refine wp_region_held_drew (S := fun W => W.heap[q1]? = some (.cells #[.int .i64 3, .string a, .string b, .int .i64 t] 44)) (by kernel_rfl) (jb K2 0 rfl) (fun _ => ?_)
 obtain ⟨w3, hX⟩ := exq w2.drew;have bw := bdr hX;rw [← hX];have K3 := jw K2 bw;have a5 := (jb K3 0 rfl);clear bw hX K2;refine tkP 0 (.iface 222 (.agg #[.string a, .string b])) 6 rfl rfl a5 (tkP 1 (.bool true) 7 rfl rfl a5 (tkP 2 (.bool true) 8 rfl rfl a5 ?_));go_frame;refine tkP 3 (.iface 222 (.agg #[.string a, .string b])) 9 rfl rfl a5 ?_;go_frame;refine rd1 4 rfl (fun K hK => ?_)
 go_simp;refine (dO7 a b _ b6.out b7.out).mono ?_;rintro e w4 ⟨ur, rfl, a3, bw⟩;have K4 := jw K3 bw;clear bw K3;have a0 := (jb K4 0 rfl);refine hK.out _ _ a0 (fun _ => ?_)
 clear hK K a5;refine tkP 5 (.bool ur) 11 rfl rfl a0 (tkP 6 (.bool ur) 12 rfl rfl a0 ?_);go_frame;cases ur
 ·have a9 : Hid (¬ (aK6 a ∧ aK7 b)) := fun h => nomatch a3.2 h
  clear a3;refine tkN 7 13 rfl rfl a0 (tkN 8 14 rfl rfl a0 (tkN 9 15 rfl rfl a0 ?_));go_frame;refine tkP 10 (.bool false) 16 rfl rfl a0 (tkP 11 (.bool false) 17 rfl rfl a0 (tkN 12 18 rfl rfl a0 ?_));go_frame;refine tkN 13 19 rfl rfl a0 (tkN 14 20 rfl rfl a0 (tkN 15 21 rfl rfl a0 ?_));go_frame;refine tkN 16 22 rfl rfl a0 (tkN 17 23 rfl rfl a0 (tkP 18 (.bool false) 24 rfl rfl a0 ?_));go_frame;refine tkP 19 (.bool false) 2 rfl rfl a0 ?_;go_frame;clear a0;refine wdn ?_;go_wp2_with fail
  go_ret;refine ⟨false, rfl, ?_, K4.hb⟩;have a6 := a9.out;unfold BanP;simp_all
 have a9 : Hid (aK6 a ∧ aK7 b) := a3.1 rfl;clear a3;refine tkP 7 (.pointer (some ⟨q1, 3, none⟩)) 13 rfl rfl a0 ?_;go_frame;refine tkL 8 (.int .i64 t) 14 rfl rfl (Or.inl ⟨by rfl, by intro W hW; have a2 := hW; have y3 := c4c a2; go_simp⟩) a0 ?_;go_frame;refine rd1 9 rfl (fun K hK => ?_)
 go_simp;refine (aS4 t _).mono ?_;rintro e w5 ⟨rfl, b5⟩;have bw : Below w4.heap.size (w4) w5 := by rw [b5]; exact Below.refl _ _
 clear b5;obtain ⟨ut, a7⟩ : ∃ u, u = decide ((0 : Int) ≤ t ∧ t ≤ 1000000) := ⟨_, rfl⟩;rw [← a7];have K5 := jw K4 bw;clear bw K4;have a1 := (jb K5 0 rfl);refine hK.out _ _ a1 (fun _ => ?_)
 clear hK K a0;refine tkP 10 (.bool ut) 16 rfl rfl a1 (tkP 11 (.bool ut) 17 rfl rfl a1 ?_);go_frame;cases ut
 ·have b3 : Hid (¬ (0 ≤ t ∧ t ≤ 1000000)) := (show ¬ (0 ≤ t ∧ t ≤ 1000000) from of_decide_eq_false a7.symm);clear a7;refine tkN 12 18 rfl rfl a1 (tkN 13 19 rfl rfl a1 (tkN 14 20 rfl rfl a1 ?_));go_frame;refine tkN 15 21 rfl rfl a1 (tkN 16 22 rfl rfl a1 (tkN 17 23 rfl rfl a1 ?_));go_frame;refine tkP 18 (.bool false) 24 rfl rfl a1 (tkP 19 (.bool false) 2 rfl rfl a1 ?_);go_frame;clear a1;refine wdn ?_;go_wp2_with fail
  go_ret;refine ⟨false, rfl, ?_, K5.hb⟩;have a6 := a9.out;have b4 := b3.out;unfold BanP;simp_all
 have b3 : Hid (0 ≤ t ∧ t ≤ 1000000) := (show 0 ≤ t ∧ t ≤ 1000000 from of_decide_eq_true a7.symm);clear a7;refine tkP 12 (.iface 222 (.agg #[.string a, .string b])) 18 rfl rfl a1 (tkP 13 (.pointer (some ⟨q1, 3, none⟩)) 19 rfl rfl a1 ?_);go_frame;refine tkL 14 (.int .i64 t) 20 rfl rfl (Or.inl ⟨by rfl, by intro W hW; have a2 := hW; have y3 := c4c a2; go_simp⟩) a1 ?_;go_frame;refine tkL 16 (.agg #[.int .i64 3, .string a, .string b, .int .i64 t]) 22 rfl rfl (Or.inl ⟨by rfl, by intro W hW; have a2 := hW; have y0 := c4c a2; go_simp⟩) a1 ?_;go_frame;refine rd1 15 rfl (fun K hK => ?_)
 go_simp;refine (dO6 a b t _).mono ?_;rintro e w6 ⟨rfl, bw⟩;have K6 := jw K5 bw;clear bw K5;have a8 := (jb K6 0 rfl);refine hK.out _ _ a8 (fun _ => ?_)
 clear hK K a1;refine tkP 17 (.bool true) 23 rfl rfl a8 (tkP 18 (.bool true) 24 rfl rfl a8 (tkP 19 (.bool true) 2 rfl rfl a8 ?_));go_frame;clear a8;refine wdn ?_;go_wp2_with fail
 go_ret;refine ⟨true, rfl, ?_, K6.hb⟩;have a6 := a9.out;have b4 := b3.out;unfold BanP;simp_all
theorem cK8 (k : Int) (a b : Tx) (t : Int) (w : World) (h1 : ¬ k = 1) (h2 : ¬ k = 2) (h3 : ¬ k = 3) :
  Calls prog 84 #[.agg #[.int .i64 k, .string a, .string b, .int .i64 t]] w fun e w' => aA5 (BanP k a b t) w e w' := by
 have a5 : Hid (¬ k = 1) := h1;have a6 : Hid (¬ k = 2) := h2;have a7 : Hid (¬ k = 3) := h3;have a9 : ∀ W : World, (binOp .neq 132 .nilIface .nilIface).run prog W = .ok (.bool false) W := fun _ => by kernel_rfl
 clear h1 h2 h3;have K0 := jnil w;go_enter func84, ntmps84;go_upto_region 1 with fail
 obtain ⟨q1, a2⟩ := exq (w.heap.size);obtain ⟨w1, a1⟩ := exq (w.alloc (.cells #[.int .i64 k, .string a, .string b, .int .i64 t] 44));have a3 := a2.symm;rw [← a1]; try rw [← a2];have a8 := hsa a1 a3;have bw := bal a1;have K1 := ja K0 a1 a3;clear bw a1 a3 K0;clear a8 a2;have a4 := c4c (jb K1 0 rfl);go_wp2_with fail
 refine (dF1 k a b t _ a5.out a6.out a7.out).mono ?_;rintro e w2 ⟨rfl, bw⟩;have K2 := jw K1 bw;clear bw K1;clear a4;go_upto_region 2 with fail
 refine wp_region_held_drew (S := fun W => W.heap[q1]? = some (.cells #[.int .i64 k, .string a, .string b, .int .i64 t] 44)) (by kernel_rfl) (jb K2 0 rfl) (fun _ => ?_)
 obtain ⟨w3, hX⟩ := exq w2.drew;have bw := bdr hX;rw [← hX];have K3 := jw K2 bw;have a0 := (jb K3 0 rfl);clear bw hX K2;refine tkP 0 (.nilIface) 6 rfl rfl a0 (tkP 1 (.bool false) 7 rfl rfl a0 (tkP 2 (.bool false) 8 rfl rfl a0 ?_));go_frame;refine tkN 3 9 rfl rfl a0 (tkN 4 10 rfl rfl a0 (tkP 5 (.bool false) 11 rfl rfl a0 ?_));go_frame;refine tkP 6 (.bool false) 12 rfl rfl a0 (tkN 7 13 rfl rfl a0 (tkN 8 14 rfl rfl a0 ?_));go_frame;refine tkN 9 15 rfl rfl a0 (tkP 10 (.bool false) 16 rfl rfl a0 (tkP 11 (.bool false) 17 rfl rfl a0 ?_));go_frame;refine tkN 12 18 rfl rfl a0 (tkN 13 19 rfl rfl a0 (tkN 14 20 rfl rfl a0 ?_));go_frame;refine tkN 15 21 rfl rfl a0 (tkN 16 22 rfl rfl a0 (tkN 17 23 rfl rfl a0 ?_));go_frame;refine tkP 18 (.bool false) 24 rfl rfl a0 (tkP 19 (.bool false) 2 rfl rfl a0 ?_);go_frame;clear a0;refine wdn ?_;go_wp2_with fail
 go_ret;refine aA5.no ?_ K3.hb;intro h;rcases h.kinds with h | h | h
 ·exact a5.out h
 ·exact a6.out h
 exact a7.out h
theorem aP0 (k : Int) (a b : Tx) (t : Int) (w : World) (ha : a.size ≤ maxLen) (hb : b.size ≤ maxLen) :
  Calls prog 84 #[.agg #[.int .i64 k, .string a, .string b, .int .i64 t]] w fun e w' => aA5 (BanP k a b t) w e w' := by
 classical
 by_cases h1 : k = 1
 ·subst h1;by_cases h : b = ⟨#[]⟩
  rotate_left
  ·exact cK5 a b t w ha h
  subst h; exact cK4 a t w ha
 by_cases h2 : k = 2
 rotate_left
 ·by_cases h3 : k = 3
  rotate_left
  ·exact cK8 k a b t w h1 h2 h3
  subst h3; exact cP0 a b t w ha hb
 subst h2;by_cases h : b = ⟨#[]⟩
 rotate_left
 ·exact cK7 a b t w ha h
 subst h; exact cK6 a t w ha
theorem bZ8 (w : World) :
  Calls prog 245 #[.int .i64 1] w fun e w' => e = .returned (.string ⟨#[112, 97, 116, 104]⟩) ∧ Below w.heap.size w w' := by
 have a0 : Bw w w := Below.refl _ _;go_enter func245, ntmps245;go_wp2_with fail
 go_ret;exact ⟨rfl, a0⟩
theorem bZ9 (w : World) :
  Calls prog 245 #[.int .i64 2] w fun e w' => e = .returned (.string ⟨#[98, 101, 108, 111, 119]⟩) ∧ Below w.heap.size w w' := by
 have a0 : Bw w w := Below.refl _ _;go_enter func245, ntmps245;go_wp2_with fail
 go_ret;exact ⟨rfl, a0⟩
theorem cA0 (w : World) :
  Calls prog 245 #[.int .i64 3] w fun e w' => e = .returned (.string ⟨#[102, 105, 101, 108, 100]⟩) ∧ Below w.heap.size w w' := by
 have a0 : Bw w w := Below.refl _ _;go_enter func245, ntmps245;go_wp2_with fail
 go_ret;exact ⟨rfl, a0⟩
theorem bT0 (k : Int) (a b : Tx) (t : Int) (w : World) (ha : a.size ≤ maxLen) (hb : b.size ≤ maxLen) (hT : aG9 w) :
  Calls prog 164 #[.agg #[.int .i64 k, .string a, .string b, .int .i64 t]] w fun e w' => bO7 (BanP k a b t) (banT k a b t) w e w' := by
 have b3 := hid ha;have b4 := hid hb;have a9 : Hid (∀ W, Bw w W → aG9 W) := fun W h => hT.below h
 obtain ⟨tt, b2⟩ := exq (aD1 t);have a6 : Hid (aD1 t = tt) := b2.symm;clear ha hb b2 hT;have K0 := jnil w;go_enter func164, ntmps164;go_upto_region 1 with fail
 obtain ⟨q1, b0⟩ := exq (w.heap.size);obtain ⟨w1, a8⟩ := exq (w.alloc (.cells #[.int .i64 k, .string a, .string b, .int .i64 t] 44));have b1 := b0.symm;rw [← a8]; try rw [← b0];have b5 := hsa a8 b1;have bw := bal a8;have K1 := ja K0 a8 b1;clear bw a8 b1 K0;clear b5 b0;have a4 := c4c (jb K1 0 rfl);go_wp2_with fail
 refine (aP0 k a b t _ b3.out b4.out).mono ?_;rintro e w2 ⟨ub, rfl, a5, bw⟩;have K2 := jw K1 bw;clear bw K1;clear a4;cases ub
 ·have HF : Hid (¬ BanP k a b t) := fun h => nomatch a5.2 h
  clear a5;go_wp2_with fail
  go_ret;exact ⟨⟨#[]⟩, rfl, fun h => absurd h HF.out, fun _ => rfl, K2.hb⟩
 have a7 : Hid (BanP k a b t) := a5.1 rfl;clear a5;have HT : Hid (0 ≤ t ∧ t ≤ 1000000) := a7.out.1;have za : a.size ≤ 60 := a7.out.a_size.1;have zb : b.size ≤ 60 := a7.out.a_size.2;have b6 : tt.size ≤ 8 := by rw [← a6.out, aC9 HT.out.1]; exact aD8 _
 rcases a7.out.kinds with rfl | rfl | rfl
 ·go_upto_region 3 with fail
  refine wp_region_held_drew (S := fun W => W.heap[q1]? = some (.cells #[.int .i64 1, .string a, .string b, .int .i64 t] 44)) (by kernel_rfl) (jb K2 0 rfl) (fun _ => ?_)
  obtain ⟨w3, hX⟩ := exq w2.drew;have bw := bdr hX;rw [← hX];have K3 := jw K2 bw;have a1 := (jb K3 0 rfl);clear bw hX K2;refine tkP 0 (.pointer (some ⟨q1, 0, none⟩)) 7 rfl rfl a1 ?_;go_frame;refine tkL 1 (.int .i64 1) 8 rfl rfl (Or.inl ⟨by rfl, by intro W hW; have a0 := hW; have y0 := c4c a0; go_simp⟩) a1 ?_;go_frame;refine tkP 5 (.pointer (some ⟨q1, 3, none⟩)) 12 rfl rfl a1 ?_;go_frame;refine tkL 6 (.int .i64 t) 13 rfl rfl (Or.inl ⟨by rfl, by intro W hW; have a0 := hW; have y3 := c4c a0; go_simp⟩) a1 ?_;go_frame;refine tkP 10 (.pointer (some ⟨q1, 1, none⟩)) 17 rfl rfl a1 ?_;go_frame;refine tkL 11 (.string a) 18 rfl rfl (Or.inl ⟨by rfl, by intro W hW; have a0 := hW; have y1 := c4c a0; go_simp⟩) a1 ?_;go_frame;refine rd1 2 rfl (fun K hK => ?_)
  go_simp;refine (bZ8 _).mono ?_;rintro e w4 ⟨rfl, bw⟩;have K4 := jw K3 bw;clear bw K3;have a3 := (jb K4 0 rfl);refine hK.out _ _ a3 (fun _ => ?_)
  clear hK K a1;refine tkL 3 (.string (⟨#[98, 97, 110, 32]⟩ ++ ⟨#[112, 97, 116, 104]⟩)) 10 rfl rfl (Or.inl ⟨by rfl, by intro W _; go_simp <;> omega⟩) a3 ?_;go_frame;refine tkL 4 (.string ((⟨#[98, 97, 110, 32]⟩ ++ ⟨#[112, 97, 116, 104]⟩) ++ ⟨#[32]⟩)) 11 rfl rfl (Or.inl ⟨by rfl, by intro W _; go_simp <;> omega⟩) a3 ?_;go_frame;refine rd1 7 rfl (fun K hK => ?_)
  go_simp;refine (aF8 t _ (by have := HT.out; omega) (by have := HT.out; omega) (a9.out _ K4.hb)).mono ?_;rintro e w5 ⟨rfl, bw⟩;rw [a6.out];have K5 := jw K4 bw;clear bw K4;have a2 := (jb K5 0 rfl);refine hK.out _ _ a2 (fun _ => ?_)
  clear hK K a3;refine tkL 8 (.string (((⟨#[98, 97, 110, 32]⟩ ++ ⟨#[112, 97, 116, 104]⟩) ++ ⟨#[32]⟩) ++ tt)) 15 rfl rfl (Or.inl ⟨by rfl, by intro W _; go_simp <;> omega⟩) a2 ?_;go_frame;refine tkL 9 (.string ((((⟨#[98, 97, 110, 32]⟩ ++ ⟨#[112, 97, 116, 104]⟩) ++ ⟨#[32]⟩) ++ tt) ++ ⟨#[32]⟩)) 16 rfl rfl (Or.inl ⟨by rfl, by intro W _; go_simp <;> omega⟩) a2 ?_;go_frame;refine tkL 12 (.string (((((⟨#[98, 97, 110, 32]⟩ ++ ⟨#[112, 97, 116, 104]⟩) ++ ⟨#[32]⟩) ++ tt) ++ ⟨#[32]⟩) ++ a)) 19 rfl rfl (Or.inl ⟨by rfl, by intro W _; go_simp <;> omega⟩) a2 ?_;go_frame;refine tkP 13 (.string (((((⟨#[98, 97, 110, 32]⟩ ++ ⟨#[112, 97, 116, 104]⟩) ++ ⟨#[32]⟩) ++ tt) ++ ⟨#[32]⟩) ++ a)) 3 rfl rfl a2 ?_;go_frame;clear a2;refine wdn ?_;have a4 := c4c (jb K5 0 rfl);go_wp2_with fail
  go_ret;exact ⟨_, rfl, fun _ => by rw [← a6.out, aC9 HT.out.1]; first | rfl | (unfold banT banH; simp [bkW, banW, ByteArray.append_assoc]; done), fun h => absurd a7.out h, K5.hb⟩
 ·go_upto_region 3 with fail
  refine wp_region_held_drew (S := fun W => W.heap[q1]? = some (.cells #[.int .i64 2, .string a, .string b, .int .i64 t] 44)) (by kernel_rfl) (jb K2 0 rfl) (fun _ => ?_)
  obtain ⟨w3, hX⟩ := exq w2.drew;have bw := bdr hX;rw [← hX];have K3 := jw K2 bw;have a1 := (jb K3 0 rfl);clear bw hX K2;refine tkP 0 (.pointer (some ⟨q1, 0, none⟩)) 7 rfl rfl a1 ?_;go_frame;refine tkL 1 (.int .i64 2) 8 rfl rfl (Or.inl ⟨by rfl, by intro W hW; have a0 := hW; have y0 := c4c a0; go_simp⟩) a1 ?_;go_frame;refine tkP 5 (.pointer (some ⟨q1, 3, none⟩)) 12 rfl rfl a1 ?_;go_frame;refine tkL 6 (.int .i64 t) 13 rfl rfl (Or.inl ⟨by rfl, by intro W hW; have a0 := hW; have y3 := c4c a0; go_simp⟩) a1 ?_;go_frame;refine tkP 10 (.pointer (some ⟨q1, 1, none⟩)) 17 rfl rfl a1 ?_;go_frame;refine tkL 11 (.string a) 18 rfl rfl (Or.inl ⟨by rfl, by intro W hW; have a0 := hW; have y1 := c4c a0; go_simp⟩) a1 ?_;go_frame;refine rd1 2 rfl (fun K hK => ?_)
  go_simp;refine (bZ9 _).mono ?_;rintro e w4 ⟨rfl, bw⟩;have K4 := jw K3 bw;clear bw K3;have a3 := (jb K4 0 rfl);refine hK.out _ _ a3 (fun _ => ?_)
  clear hK K a1;refine tkL 3 (.string (⟨#[98, 97, 110, 32]⟩ ++ ⟨#[98, 101, 108, 111, 119]⟩)) 10 rfl rfl (Or.inl ⟨by rfl, by intro W _; go_simp <;> omega⟩) a3 ?_;go_frame;refine tkL 4 (.string ((⟨#[98, 97, 110, 32]⟩ ++ ⟨#[98, 101, 108, 111, 119]⟩) ++ ⟨#[32]⟩)) 11 rfl rfl (Or.inl ⟨by rfl, by intro W _; go_simp <;> omega⟩) a3 ?_;go_frame;refine rd1 7 rfl (fun K hK => ?_)
  go_simp;refine (aF8 t _ (by have := HT.out; omega) (by have := HT.out; omega) (a9.out _ K4.hb)).mono ?_;rintro e w5 ⟨rfl, bw⟩;rw [a6.out];have K5 := jw K4 bw;clear bw K4;have a2 := (jb K5 0 rfl);refine hK.out _ _ a2 (fun _ => ?_)
  clear hK K a3;refine tkL 8 (.string (((⟨#[98, 97, 110, 32]⟩ ++ ⟨#[98, 101, 108, 111, 119]⟩) ++ ⟨#[32]⟩) ++ tt)) 15 rfl rfl (Or.inl ⟨by rfl, by intro W _; go_simp <;> omega⟩) a2 ?_;go_frame;refine tkL 9 (.string ((((⟨#[98, 97, 110, 32]⟩ ++ ⟨#[98, 101, 108, 111, 119]⟩) ++ ⟨#[32]⟩) ++ tt) ++ ⟨#[32]⟩)) 16 rfl rfl (Or.inl ⟨by rfl, by intro W _; go_simp <;> omega⟩) a2 ?_;go_frame;refine tkL 12 (.string (((((⟨#[98, 97, 110, 32]⟩ ++ ⟨#[98, 101, 108, 111, 119]⟩) ++ ⟨#[32]⟩) ++ tt) ++ ⟨#[32]⟩) ++ a)) 19 rfl rfl (Or.inl ⟨by rfl, by intro W _; go_simp <;> omega⟩) a2 ?_;go_frame;refine tkP 13 (.string (((((⟨#[98, 97, 110, 32]⟩ ++ ⟨#[98, 101, 108, 111, 119]⟩) ++ ⟨#[32]⟩) ++ tt) ++ ⟨#[32]⟩) ++ a)) 3 rfl rfl a2 ?_;go_frame;clear a2;refine wdn ?_;have a4 := c4c (jb K5 0 rfl);go_wp2_with fail
  go_ret;exact ⟨_, rfl, fun _ => by rw [← a6.out, aC9 HT.out.1]; first | rfl | (unfold banT banH; simp [bkW, banW, ByteArray.append_assoc]; done), fun h => absurd a7.out h, K5.hb⟩
 go_upto_region 3 with fail
 refine wp_region_held_drew (S := fun W => W.heap[q1]? = some (.cells #[.int .i64 3, .string a, .string b, .int .i64 t] 44)) (by kernel_rfl) (jb K2 0 rfl) (fun _ => ?_)
 obtain ⟨w3, hX⟩ := exq w2.drew;have bw := bdr hX;rw [← hX];have K3 := jw K2 bw;have a1 := (jb K3 0 rfl);clear bw hX K2;refine tkP 0 (.pointer (some ⟨q1, 0, none⟩)) 7 rfl rfl a1 ?_;go_frame;refine tkL 1 (.int .i64 3) 8 rfl rfl (Or.inl ⟨by rfl, by intro W hW; have a0 := hW; have y0 := c4c a0; go_simp⟩) a1 ?_;go_frame;refine tkP 5 (.pointer (some ⟨q1, 3, none⟩)) 12 rfl rfl a1 ?_;go_frame;refine tkL 6 (.int .i64 t) 13 rfl rfl (Or.inl ⟨by rfl, by intro W hW; have a0 := hW; have y3 := c4c a0; go_simp⟩) a1 ?_;go_frame;refine tkP 10 (.pointer (some ⟨q1, 1, none⟩)) 17 rfl rfl a1 ?_;go_frame;refine tkL 11 (.string a) 18 rfl rfl (Or.inl ⟨by rfl, by intro W hW; have a0 := hW; have y1 := c4c a0; go_simp⟩) a1 ?_;go_frame;refine rd1 2 rfl (fun K hK => ?_)
 go_simp;refine (cA0 _).mono ?_;rintro e w4 ⟨rfl, bw⟩;have K4 := jw K3 bw;clear bw K3;have a3 := (jb K4 0 rfl);refine hK.out _ _ a3 (fun _ => ?_)
 clear hK K a1;refine tkL 3 (.string (⟨#[98, 97, 110, 32]⟩ ++ ⟨#[102, 105, 101, 108, 100]⟩)) 10 rfl rfl (Or.inl ⟨by rfl, by intro W _; go_simp <;> omega⟩) a3 ?_;go_frame;refine tkL 4 (.string ((⟨#[98, 97, 110, 32]⟩ ++ ⟨#[102, 105, 101, 108, 100]⟩) ++ ⟨#[32]⟩)) 11 rfl rfl (Or.inl ⟨by rfl, by intro W _; go_simp <;> omega⟩) a3 ?_;go_frame;refine rd1 7 rfl (fun K hK => ?_)
 go_simp;refine (aF8 t _ (by have := HT.out; omega) (by have := HT.out; omega) (a9.out _ K4.hb)).mono ?_;rintro e w5 ⟨rfl, bw⟩;rw [a6.out];have K5 := jw K4 bw;clear bw K4;have a2 := (jb K5 0 rfl);refine hK.out _ _ a2 (fun _ => ?_)
 clear hK K a3;refine tkL 8 (.string (((⟨#[98, 97, 110, 32]⟩ ++ ⟨#[102, 105, 101, 108, 100]⟩) ++ ⟨#[32]⟩) ++ tt)) 15 rfl rfl (Or.inl ⟨by rfl, by intro W _; go_simp <;> omega⟩) a2 ?_;go_frame;refine tkL 9 (.string ((((⟨#[98, 97, 110, 32]⟩ ++ ⟨#[102, 105, 101, 108, 100]⟩) ++ ⟨#[32]⟩) ++ tt) ++ ⟨#[32]⟩)) 16 rfl rfl (Or.inl ⟨by rfl, by intro W _; go_simp <;> omega⟩) a2 ?_;go_frame;refine tkL 12 (.string (((((⟨#[98, 97, 110, 32]⟩ ++ ⟨#[102, 105, 101, 108, 100]⟩) ++ ⟨#[32]⟩) ++ tt) ++ ⟨#[32]⟩) ++ a)) 19 rfl rfl (Or.inl ⟨by rfl, by intro W _; go_simp <;> omega⟩) a2 ?_;go_frame;refine tkP 13 (.string (((((⟨#[98, 97, 110, 32]⟩ ++ ⟨#[102, 105, 101, 108, 100]⟩) ++ ⟨#[32]⟩) ++ tt) ++ ⟨#[32]⟩) ++ a)) 3 rfl rfl a2 ?_;go_frame;clear a2;refine wdn ?_;have a4 := c4c (jb K5 0 rfl);go_wp2_with fail
 go_ret;exact ⟨_, rfl, fun _ => by rw [← a6.out, aC9 HT.out.1]; first | rfl | (unfold banT banH; simp [bkW, banW, ByteArray.append_assoc]; done), fun h => absurd a7.out h, K5.hb⟩
theorem aT8 {w W : World} {q : Nat} {row : Option Nat} (h : w.grownBy W row) (hq : w.heap.size ≤ q) (o : Nat) (v : Value) : w.grownBy (W.setCell ⟨q, o, none⟩ v) row :=
 ⟨h.os, h.tape, h.output, by rw [World.size_setCell]; exact h.size, fun i hi hne => by rw [heap_setCell_other _ _ i _ (fun e => by have e2 : i = q := e; omega)]; exact h.block i hi hne⟩
def bkF (x : Tx) : Int := if bkW 1 = x then 1 else if bkW 2 = x then 2 else if bkW 3 = x then 3 else 0
theorem dS6 {k : Int} (h : k = 1 ∨ k = 2 ∨ k = 3) : bkF (bkW k) = k := by
 rcases h with rfl | rfl | rfl <;> decide
theorem bkL1 : (bkW 1).toList = [112, 97, 116, 104] := by rw [ByteArray.toList_eq]; rfl
theorem bkL2 : (bkW 2).toList = [98, 101, 108, 111, 119] := by rw [ByteArray.toList_eq]; rfl
theorem bkL3 : (bkW 3).toList = [102, 105, 101, 108, 100] := by rw [ByteArray.toList_eq]; rfl
theorem dF6 {w : World} {b : Nat} {left : ByteArray} (h : aK4 w b left) (hm : aH5 w) : 1 ≠ b := fun e => by
 obtain ⟨m, hm⟩ := hm
 have hc := h.cell
 rw [← e, hm] at hc
 cases hc
theorem dK4 {w w' : World} {b : Nat} (h : aH5 w) (hg : w.grownBy w' (some b)) (hb : 1 ≠ b) : aH5 w' := by
 have a0 := h.lt;obtain ⟨m, hm⟩ := h;refine ⟨m, ?_⟩;rw [← hm];unfold World.cell?;rw [hg.block _ a0 (fun e => hb (Option.some.inj e))]
theorem dF7 (c : UInt8) (t : List UInt8) : ∀ (pre : List UInt8), (∀ b ∈ pre, b ≠ c) → Lib.index pre (c :: t) = -1 := by
 intro pre;induction pre with
 | nil => intro _; simp [Lib.index]
 | cons b r ih =>
  intro h
  have hb : b ≠ c := h b (by simp)
  rw [Lib.index, if_neg (by simp [List.isPrefixOf]; intro e; exact absurd e.symm hb), ih (fun x hx => h x (by simp [hx]))]
  simp
theorem dK5 {s sep : ByteArray} {c : UInt8} {t pre : List UInt8} (hs : bs s = pre) (hp : bs sep = c :: t) (h : ∀ b ∈ pre, b ≠ c) : bs (cutA s sep) = pre ∧ bs (cutB s sep) = [] := by
 rw [cM9, cN0, hs, hp];unfold Lib.cut;rw [dF7 c t pre h, if_neg (by omega)];exact ⟨rfl, rfl⟩
theorem dF8 {s : ByteArray} {k : Int} {a b : ByteArray} {t : Int} (h : aI8 s k a b t) {l1 x1 l2 x2 l3 x3 l4 : ByteArray} (h1 : l1 = aK5 s ⟨#[98, 97, 110, 32]⟩) (h2 : x1 = cutA l1 ⟨#[32]⟩) (h3 : l2 = cutB l1 ⟨#[32]⟩) (h4 : x2 = cutA l2 ⟨#[32]⟩) (h5 : l3 = cutB l2 ⟨#[32]⟩) (h6 : x3 = cutA l3 ⟨#[10]⟩) (h7 : l4 = cutB l3 ⟨#[10]⟩) :
  bkF x1 = k ∧ aO1 x2 ∧ (valL x2.data.toList : Int) = t ∧ x3 = a ∧ l4 = b := by
 have ht := h.1.1;have n1 := bX7 t.toNat (by omega);have n2 := dR5 h.1.kinds;have na := h.1.a_no
 have a1 : ∃ r, bs s = bs (⟨#[98, 97, 110, 32]⟩ : Tx) ++ (bs (bkW k) ++ ((32 :: []) ++ (numL t.toNat ++ ((32 :: []) ++ (bs a ++ r))))) ∧ ((k = 3 ∧ r = (10 :: []) ++ bs b) ∨ (r = [] ∧ b = ⟨#[]⟩)) := by
  rcases bQ2 h with ⟨e, e1⟩ | ⟨e, e1, e2⟩
  ·refine ⟨(10 :: []) ++ bs b, ?_, .inl ⟨e, rfl⟩⟩
   rw [e1]; unfold aJ5 banL; simp [bs]
  ·refine ⟨[], ?_, .inr ⟨rfl, e2⟩⟩
   rw [e1]; unfold aJ5 banL; simp [bs]
 obtain ⟨r, e0, hr⟩ := a1;have e1 := bP9 e0;rw [← h1] at e1;obtain ⟨e2, e3⟩ := aT1 (sep := ⟨#[32]⟩) e1 rfl (fun x hx => (n2 x hx).1)
 rw [← h2] at e2;rw [← h3] at e3;obtain ⟨e4, e5⟩ := aT1 (sep := ⟨#[32]⟩) e3 rfl (fun x hx => (n1 x hx).1)
 rw [← h4] at e4;rw [← h5] at e5;have a2 : x1 = bkW k := aE3 e2;have a0 : aO1 x2 ∧ valL x2.data.toList = t.toNat := ⟨by rw [show x2 = aB7 t.toNat from aE3 (e4.trans (aY2 _).symm)]; exact bQ1 _ (by omega), by show valL (bs x2) = _; rw [e4]; exact aK3 _ (by omega)⟩;refine ⟨by rw [a2]; exact dS6 h.1.kinds, a0.1, by rw [a0.2]; omega, ?_⟩;rcases hr with ⟨_, rfl⟩ | ⟨rfl, rfl⟩
 ·obtain ⟨e6, e7⟩ := aT1 (sep := ⟨#[10]⟩) e5 rfl (fun x hx => (na x hx).2)
  rw [← h6] at e6;rw [← h7] at e7;exact ⟨aE3 e6, aE3 e7⟩
 rw [List.append_nil] at e5;obtain ⟨e6, e7⟩ := dK5 (sep := ⟨#[10]⟩) e5 rfl (fun x hx => (na x hx).2)
 rw [← h6] at e6;rw [← h7] at e7;exact ⟨aE3 e6, aE3 e7⟩
theorem cX9 (x : Tx) (w : World) :
  Calls prog 285 #[.string x] w fun e w' => e = .returned (.int .i64 (bkF x)) ∧ Below w.heap.size w w' := by
 obtain ⟨B, hB⟩ := exq (bkF x);rw [← hB];have HB := hid hB;clear hB;go_enter func285, ntmps285;go_wp2_with fail
 refine wp_loop_rounds 4 ?_;rw [rounds_succ];go_wp2_with fail
 refine (bZ8 _).mono ?_;rintro e w1 ⟨rfl, bw⟩;have a0 : Hid (Bw w w1) := bw;clear bw;by_cases h1 : bkW 1 = x
 ·have hq : (([112, 97, 116, 104] : List UInt8) == x.toList) = true := by rw [show ([112, 97, 116, 104] : List UInt8) = x.toList from bkL1.symm.trans (congrArg ByteArray.toList h1)]; simp
  have a5 := hid h1;clear h1;go_wp2_with fail
  go_ret;exact ⟨by rw [HB.out]; unfold bkF; rw [if_pos a5.out]; rfl, a0.out⟩
 have a3 := hid h1;have hq : (([112, 97, 116, 104] : List UInt8) == x.toList) = false := by have h := aB8 h1; rwa [bkL1] at h
 clear h1;go_wp2_with fail
 clear hq;rw [rounds_succ];go_wp2_with fail
 refine (bZ9 _).mono ?_;rintro e w2 ⟨rfl, bw⟩;have a1 : Hid (Bw w w2) := a0.out.trans (bw.mono a0.out.size);clear bw;by_cases h2 : bkW 2 = x
 ·have hq : (([98, 101, 108, 111, 119] : List UInt8) == x.toList) = true := by rw [show ([98, 101, 108, 111, 119] : List UInt8) = x.toList from bkL2.symm.trans (congrArg ByteArray.toList h2)]; simp
  have a6 := hid h2;clear h2;go_wp2_with fail
  go_ret;exact ⟨by rw [HB.out]; unfold bkF; rw [if_neg a3.out, if_pos a6.out]; rfl, a1.out⟩
 have a4 := hid h2;have hq : (([98, 101, 108, 111, 119] : List UInt8) == x.toList) = false := by have h := aB8 h2; rwa [bkL2] at h
 clear h2;go_wp2_with fail
 clear hq;rw [rounds_succ];go_wp2_with fail
 refine (cA0 _).mono ?_;rintro e w3 ⟨rfl, bw⟩;have a2 : Hid (Bw w w3) := a1.out.trans (bw.mono a1.out.size);clear bw;by_cases h3 : bkW 3 = x
 rotate_left
 ·have a7 := hid h3;have hq : (([102, 105, 101, 108, 100] : List UInt8) == x.toList) = false := by have h := aB8 h3; rwa [bkL3] at h
  clear h3;go_wp2_with fail
  clear hq;rw [rounds_succ];go_wp2_with fail
  go_ret;exact ⟨by rw [HB.out]; unfold bkF; rw [if_neg a3.out, if_neg a4.out, if_neg a7.out]; rfl, a2.out⟩
 have hq : (([102, 105, 101, 108, 100] : List UInt8) == x.toList) = true := by rw [show ([102, 105, 101, 108, 100] : List UInt8) = x.toList from bkL3.symm.trans (congrArg ByteArray.toList h3)]; simp
 have a8 := hid h3;clear h3;go_wp2_with fail
 go_ret;exact ⟨by rw [HB.out]; unfold bkF; rw [if_neg a3.out, if_neg a4.out, if_pos a8.out]; rfl, a2.out⟩
def dS7 (s : Tx) (c : Nat) (w : World) (e : Ending) (w' : World) : Prop :=
 ∃ (k' : Int) (a' b' : Tx) (t' : Int), e = .returned (.agg #[.int .i64 k', .string a', .string b', .int .i64 t']) ∧ (a'.size ≤ 3000000 ∧ b'.size ≤ 3000000) ∧ (∀ k a b t, aI8 s k a b t → k' = k ∧ a' = a ∧ b' = b ∧ t' = t) ∧ w.grownBy w' (some c)
theorem cP1 (c : Nat) (s : Tx) (w : World) (h : aK4 w c s) (hs : s.size ≤ 3000000) (hLN : aH5 w) :
  Calls prog 248 #[.pointer (some ⟨c, 0, none⟩)] w fun e w' => dS7 s c w e w' := by
 have b4 := hid h;have m5 := hid hs;have i6 : Hid (∀ W, w.grownBy W (some c) → aH5 W) := fun W hg => dK4 hLN hg (dF6 h hLN)
 clear h hs hLN;have i7 : w.grownBy w (some c) := World.grownBy.refl _ _;go_enter func248, ntmps248;go_upto_region 1 with fail
 obtain ⟨b5, b8⟩ := exq (w.heap.size);obtain ⟨w1, d2⟩ := exq (w.alloc (.cells #[.int .i64 0, .string ⟨#[]⟩, .string ⟨#[]⟩, .int .i64 0] 44));have d3 := b8.symm;rw [← d2]; try rw [← b8];have m6 := hsa d2 d3;have bw := bal d2;have k7 : w.grownBy w1 (some c) := aB6 i7 (aE6 bw _);have d4 := hblk b4 bw;have a0 := hnq b4 d3;have d5 := hnew d2 d3;have h8 := hgg d3 i7.size;clear i7 bw d2 d3;clear m6 b8;go_wp2_with fail
 refine (bG9 c s ⟨#[98, 97, 110, 32]⟩ _ d4.out).mono ?_;rintro e w2 ⟨rfl, a4, hg⟩;obtain ⟨l1, h9⟩ := exq (aK5 s ⟨#[98, 97, 110, 32]⟩);rw [← h9] at a4;have m7 := hid h9;have b9 : Hid (l1.size ≤ 3000000) := by show _ ≤ _; rw [h9]; exact Nat.le_trans (aI6 _ _) m5.out
 clear h9;have i8 : w.grownBy w2 (some c) := aB6 k7 hg;have p0 := hid hg.size;have d6 : Hid (w2.heap[b5]? = some (.cells #[.int .i64 0, .string ⟨#[]⟩, .string ⟨#[]⟩, .int .i64 0] 44)) := (hg.block _ (blt d5.out) (fun e => a0.out.symm (Option.some.inj e))).trans d5.out
 have d7 := hid a4;clear k7 hg a4;go_wp2_with fail
 refine (aR8 c l1 ⟨#[32]⟩ _ d7.out (by have := b9.out; omega) (i6.out _ i8)).mono ?_;rintro e w3 ⟨rfl, a4, hg⟩;obtain ⟨l2, i0⟩ := exq (cutB l1 ⟨#[32]⟩);obtain ⟨x1, i1⟩ := exq (cutA l1 ⟨#[32]⟩);rw [← i0] at a4;rw [← i1];have m8 := hid i0;have m9 := hid i1;have c0 : Hid (l2.size ≤ 3000000) := by show _ ≤ _; rw [i0]; exact Nat.le_trans (aH1 _ _) b9.out
 have n0 : Hid (x1.size ≤ 3000000) := by show _ ≤ _; rw [i1]; exact Nat.le_trans (aF9 _ _) b9.out
 clear i0 i1;have k8 : w.grownBy w3 (some c) := aB6 i8 hg;have p1 := hid hg.size;have i9 : Hid (w3.heap[b5]? = some (.cells #[.int .i64 0, .string ⟨#[]⟩, .string ⟨#[]⟩, .int .i64 0] 44)) := (hg.block _ (blt d6.out) (fun e => a0.out.symm (Option.some.inj e))).trans d6.out
 have d8 := hid a4;clear i8 hg a4;go_wp2_with fail
 refine (cX9 x1 _).mono ?_;rintro e w4 ⟨rfl, bw⟩;obtain ⟨kk, j0⟩ := exq (bkF x1);rw [← j0];have n1 := hid j0;clear j0;have j1 : w.grownBy w4 (some c) := aB6 k8 (aE6 bw _);have b6 := hblk d8 bw;have d9 := hblk i9 bw;clear k8 bw;go_upto_region 3 with fail
 obtain ⟨e0, c1⟩ := exq (w4.heap.size);obtain ⟨w5, e1⟩ := exq (w4.alloc (.cells #[.int .i64 kk, .string ⟨#[]⟩, .string ⟨#[]⟩, .int .i64 0] 44));have d0 := c1.symm;rw [← e1]; try rw [← c1];have n2 := hsa e1 d0;have bw := bal e1;have j2 : w.grownBy w5 (some c) := aB6 j1 (aE6 bw _);have e2 := hblk b6 bw;have e3 := hblk d9 bw;have a3 := hnq b6 d0;have a1 := hnq d9 d0;have e4 := hnew e1 d0;have j3 := hgg d0 j1.size;clear j1 bw e1 d0;clear n2 c1;go_wp2_with fail
 refine (aR8 c l2 ⟨#[32]⟩ _ e2.out (by have := c0.out; omega) (i6.out _ j2)).mono ?_;rintro e w6 ⟨rfl, a4, hg⟩;obtain ⟨l3, i2⟩ := exq (cutB l2 ⟨#[32]⟩);obtain ⟨x2, i3⟩ := exq (cutA l2 ⟨#[32]⟩);rw [← i2] at a4;rw [← i3];have n3 := hid i2;have n4 := hid i3;have c2 : Hid (l3.size ≤ 3000000) := by show _ ≤ _; rw [i2]; exact Nat.le_trans (aH1 _ _) c0.out
 have j4 : Hid (x2.size ≤ 3000000) := by show _ ≤ _; rw [i3]; exact Nat.le_trans (aF9 _ _) c0.out
 clear i2 i3;have k9 : w.grownBy w6 (some c) := aB6 j2 hg;have p2 := hid hg.size;have j5 : Hid (w6.heap[b5]? = some (.cells #[.int .i64 0, .string ⟨#[]⟩, .string ⟨#[]⟩, .int .i64 0] 44)) := (hg.block _ (blt e3.out) (fun e => a0.out.symm (Option.some.inj e))).trans e3.out
 have j6 : Hid (w6.heap[e0]? = some (.cells #[.int .i64 kk, .string ⟨#[]⟩, .string ⟨#[]⟩, .int .i64 0] 44)) := (hg.block _ (blt e4.out) (fun e => a3.out.symm (Option.some.inj e))).trans e4.out
 have e5 := hid a4;clear j2 hg a4;go_wp2_with fail
 refine (aL0 x2 _ (by have := j4.out; unfold maxLen; omega)).mono ?_;rintro e w7 ⟨bo, tt, rfl, l0, l5, n5, bw⟩;have n6 : Hid (aO1 x2 → tt = valL x2.data.toList) := fun h => l5 (l0.2 h)
 clear l0 l5 n5;have l6 : w.grownBy w7 (some c) := aB6 k9 (aE6 bw _);have e6 := hblk e5 bw;have j7 := hblk j5 bw;have c3 := hblk j6 bw;clear k9 bw;have e7 := (c4c c3.out).2.2.2;have j8 := aA2 c3.out 3;go_upto_region 4 with fail
 obtain ⟨w8, d1⟩ := exq (w7.setCell ⟨e0, 3, none⟩ (.int .i64 tt));rw [← d1];have j9 : w.grownBy w8 (some c) := by rw [d1]; exact (aT8 l6 j3.out 3 _)
 have e8 := hset d1 a3.out e6;have e9 := hset d1 a1.out j7;have f0 := hput d1 c3;clear l6 d1;clear e7 j8;go_wp2_with fail
 refine (aR8 c l3 ⟨#[10]⟩ _ e8.out (by have := c2.out; omega) (i6.out _ j9)).mono ?_;rintro e w9 ⟨rfl, a4, hg⟩;obtain ⟨l4, i4⟩ := exq (cutB l3 ⟨#[10]⟩);obtain ⟨x3, i5⟩ := exq (cutA l3 ⟨#[10]⟩);rw [← i4] at a4;rw [← i5];have n7 := hid i4;have n8 := hid i5;have f1 : Hid (l4.size ≤ 3000000) := by show _ ≤ _; rw [i4]; exact Nat.le_trans (aH1 _ _) c2.out
 have f2 : Hid (x3.size ≤ 3000000) := by show _ ≤ _; rw [i5]; exact Nat.le_trans (aF9 _ _) c2.out
 clear i4 i5;have l7 : w.grownBy w9 (some c) := aB6 j9 hg;have p3 := hid hg.size;have k0 : Hid (w9.heap[b5]? = some (.cells #[.int .i64 0, .string ⟨#[]⟩, .string ⟨#[]⟩, .int .i64 0] 44)) := (hg.block _ (blt e9.out) (fun e => a0.out.symm (Option.some.inj e))).trans e9.out
 have k1 : Hid (w9.heap[e0]? = some (.cells #[.int .i64 kk, .string ⟨#[]⟩, .string ⟨#[]⟩, .int .i64 tt] 44)) := (hg.block _ (blt f0.out) (fun e => a3.out.symm (Option.some.inj e))).trans f0.out
 have f3 := hid a4;clear j9 hg a4;go_wp2_with fail
 refine (aF3 x3 _ (by have := f2.out; omega)).mono ?_;rintro e l8 ⟨rfl, bw⟩;have f4 : w.grownBy l8 (some c) := aB6 l7 (aE6 bw _);have c4 := hblk f3 bw;have f5 := hblk k0 bw;have b1 := hblk k1 bw;clear l7 bw;have f6 := (c4c b1.out).2.1;have k2 := aA2 b1.out 1;go_upto_region 5 with fail
 obtain ⟨n9, a5⟩ := exq (l8.setCell ⟨e0, 1, none⟩ (.string x3));rw [← a5];have f7 : w.grownBy n9 (some c) := by rw [a5]; exact (aT8 f4 j3.out 1 _)
 have b2 := hset a5 a3.out c4;have f8 := hset a5 a1.out f5;have f9 := hput a5 b1;clear f4 a5;clear f6 k2;have k3 := k1c b2;go_wp2_with fail
 refine (aF3 l4 _ (by have := f1.out; omega)).mono ?_;rintro e l9 ⟨rfl, bw⟩;have g0 : w.grownBy l9 (some c) := aB6 f7 (aE6 bw _);have c5 := hblk b2 bw;have g1 := hblk f8 bw;have b3 := hblk f9 bw;clear f7 bw;clear k3;have g2 := (c4c b3.out).2.2.1;have k4 := aA2 b3.out 2;go_upto_region 6 with fail
 obtain ⟨m0, a6⟩ := exq (l9.setCell ⟨e0, 2, none⟩ (.string l4));rw [← a6];have g3 : w.grownBy m0 (some c) := by rw [a6]; exact (aT8 g0 j3.out 2 _)
 have c6 := hset a6 a3.out c5;have a2 := hset a6 a1.out g1;have b7 := hput a6 b3;clear g0 a6;clear g2 k4;obtain ⟨o0, o1, o2, o3⟩ := c4c a2.out;have o4 := aA2 a2.out 0;have o5 := aA2 a2.out 1;have o6 := aA2 a2.out 2;have o7 := aA2 a2.out 3;obtain ⟨o8, f6, g2, e7⟩ := c4c b7.out;go_wp2_with fail
 obtain ⟨m1, a7⟩ := exq (m0.setCell ⟨b5, 0, none⟩ (.int .i64 kk));rw [← a7];have g4 : w.grownBy m1 (some c) := by rw [a7]; exact (aT8 g3 h8.out 0 _)
 have c7 := hset a7 a0.out c6;have g5 := hset a7 a1.out.symm b7;have g6 := hput a7 a2;clear g3 a7;obtain ⟨m2, a8⟩ := exq (m1.setCell ⟨b5, 1, none⟩ (.string x3));rw [← a8];have g7 : w.grownBy m2 (some c) := by rw [a8]; exact (aT8 g4 h8.out 1 _)
 have c8 := hset a8 a0.out c7;have g8 := hset a8 a1.out.symm g5;have g9 := hput a8 g6;clear g4 a8;obtain ⟨m3, a9⟩ := exq (m2.setCell ⟨b5, 2, none⟩ (.string l4));rw [← a9];have h0 : w.grownBy m3 (some c) := by rw [a9]; exact (aT8 g7 h8.out 2 _)
 have c9 := hset a9 a0.out c8;have h1 := hset a9 a1.out.symm g8;have h2 := hput a9 g9;clear g7 a9;obtain ⟨o9, b0⟩ := exq (m3.setCell ⟨b5, 3, none⟩ (.int .i64 tt));rw [← b0];have k5 : w.grownBy o9 (some c) := by rw [b0]; exact (aT8 h0 h8.out 3 _)
 have k6 := hset b0 a0.out c9;have m4 := hset b0 a1.out.symm h1;have h3 := hput b0 h2;clear h0 b0;obtain ⟨h4, h5, h6, h7⟩ := c4c h3.out;refine bodyPost_ret (v := .agg #[.int .i64 kk, .string x3, .string l4, .int .i64 tt]) (by simp [results, results248, go_sem, h4, h5, h6, h7]) rfl ?_;refine ⟨kk, x3, l4, tt, rfl, ⟨f2.out, f1.out⟩, fun k a b t h => ?_, k5⟩
 obtain ⟨q1, q2, q3, q4, q5⟩ := dF8 h m7.out m9.out m8.out n4.out n3.out n8.out n7.out;exact ⟨n1.out.trans q1, q4, q5, (n6.out q2).trans q3⟩
theorem bT1 (s : Tx) (w : World) (hs : s.size ≤ 3000000) (hT : aG9 w) (hLN : aH5 w) :
  Calls prog 169 #[.string s] w fun e w' => cW3 s w e w' := by
 have c7 := hid hs;have c8 : Hid (∀ W, Bw w W → aG9 W) := fun W h => hT.below h
 have c9 : Hid (∀ W, Bw w W → aH5 W) := fun W h => hLN.below h hLN.lt
 clear hs hT hLN;have K0 := jnil w;go_enter func169, ntmps169;go_upto_region 1 with fail
 obtain ⟨a1, a2⟩ := exq (w.heap.size);obtain ⟨w1, a6⟩ := exq (w.alloc (.cells #[.int .i64 0, .string ⟨#[]⟩, .string ⟨#[]⟩, .int .i64 0] 44));have b4 := a2.symm;rw [← a6]; try rw [← a2];have d0 := hsa a6 b4;have bw := bal a6;have K1 := ja K0 a6 b4;clear bw a6 b4 K0;clear d0 a2;go_wp2_with fail
 obtain ⟨c2, a3⟩ := exq (w1.heap.size);obtain ⟨w2, a7⟩ := exq (w1.alloc (.cells #[.string s] 285));have b3 := a3.symm;rw [← a7]; try rw [← a3];have d1 := hsa a7 b3;have bw := bal a7;have K2 := ja K1 a7 b3;have a8 : Hid (a1 ≠ c2) := fun e => by have h1 := (Array.getElem?_eq_some_iff.1 (jb K1 0 rfl)).1; omega
 have d2 : Hid (w.heap.size ≤ c2) := by show _ ≤ _; rw [← b3]; exact K1.hb.size
 clear bw a7 b3 K1;clear d1 a3;refine (cP1 _ s _ (jb K2 0 rfl) c7.out (c9.out _ K2.hb)).mono ?_;rintro e w3 ⟨kk, aa, bb, tt, rfl, b5, a9, hg⟩;have d3 : Hid (aa.size ≤ 3000000) := b5.1;have d4 : Hid (bb.size ≤ 3000000) := b5.2;have b6 := hid a9;clear b5 a9;have c3 : Bw w (w3) := K2.hb.grown hg K2.hb.size (by intro k hk; cases hk; exact d2.out);have d7 := hid hg.size;have b7 : Hid (w3.heap[a1]? = some (.cells #[.int .i64 0, .string ⟨#[]⟩, .string ⟨#[]⟩, .int .i64 0] 44)) := (hg.block _ (Array.getElem?_eq_some_iff.1 (jb K2 1 rfl)).1 (fun e => a8.out (Option.some.inj e))).trans (jb K2 1 rfl)
 have K3 := jz K2 c3 (jzx (jzb b7.out (jzn _)));clear hg K2;go_upto_region 2 with fail
 obtain ⟨d8, a4⟩ := exq (w3.heap.size);obtain ⟨w4, b0⟩ := exq (w3.alloc (.cells #[.int .i64 kk, .string aa, .string bb, .int .i64 tt] 44));have b8 := a4.symm;rw [← b0]; try rw [← a4];have d5 := hsa b0 b8;have bw := bal b0;have K4 := ja K3 b0 b8;clear c3 bw b0 b8 K3;clear d5 a4;by_cases hc1 : s = ⟨#[]⟩
 ·have b9 : (s).toList.isEmpty = true := aK9 (by rw [hc1]; rfl);have HE := hid hc1;have b1 := c4f (jb K4 1 rfl);go_wp2_with fail
  obtain ⟨w8, c0⟩ := exq ((((w4.setCell ⟨a1, 0, none⟩ (.int .i64 0)).setCell ⟨a1, 1, none⟩ (.string ⟨#[]⟩)).setCell ⟨a1, 2, none⟩ (.string ⟨#[]⟩)).setCell ⟨a1, 3, none⟩ (.int .i64 0));rw [← c0];have K8 := jss K4 1 [(0, _), (1, _), (2, _), (3, _)] c0;clear c0 K4;have a0 := c4c (jb K8 1 rfl);refine bodyPost_ret (v := .tuple #[.agg #[.int .i64 0, .string ⟨#[]⟩, .string ⟨#[]⟩, .int .i64 0], .bool false]) (by simp [results, results169, go_sem, a0]) rfl ?_;refine ⟨K8.hb, .inr ⟨rfl, fun k a b t h => ?_⟩⟩
  have q1 := cN4 k a b t;rw [h.2, HE.out] at q1;exact absurd q1 (by decide)
 have b9 : (s).toList.isEmpty = false := aN5 (Nat.pos_of_ne_zero (fun e => hc1 (bA8 e)))
 have HE := hid hc1;have b2 := c4c (jb K4 0 rfl);go_wp2_with fail
 refine (bT0 kk aa bb tt _ (by have := d3.out; unfold maxLen; omega) (by have := d4.out; unfold maxLen; omega) (c8.out _ K4.hb)).mono ?_;rintro e w5 ⟨uu, rfl, c4, c5, bw⟩;have c6 := hid c4;have d6 := hid c5;clear c4 c5;have K5 := jw K4 bw;clear bw K4;clear b2;by_cases hc2 : uu = s
 rotate_left
 ·have c1 : ((uu).toList == (s).toList) = false := aB8 hc2;have HU := hid hc2;have b1 := c4f (jb K5 1 rfl);go_wp2_with fail
  obtain ⟨w9, a5⟩ := exq ((((w5.setCell ⟨a1, 0, none⟩ (.int .i64 0)).setCell ⟨a1, 1, none⟩ (.string ⟨#[]⟩)).setCell ⟨a1, 2, none⟩ (.string ⟨#[]⟩)).setCell ⟨a1, 3, none⟩ (.int .i64 0));rw [← a5];have K9 := jss K5 1 [(0, _), (1, _), (2, _), (3, _)] a5;clear a5 K5;have a0 := c4c (jb K9 1 rfl);refine bodyPost_ret (v := .tuple #[.agg #[.int .i64 0, .string ⟨#[]⟩, .string ⟨#[]⟩, .int .i64 0], .bool false]) (by simp [results, results169, go_sem, a0]) rfl ?_;refine ⟨K9.hb, .inr ⟨rfl, fun k a b t h => ?_⟩⟩
  obtain ⟨rfl, rfl, rfl, rfl⟩ := b6.out k a b t h;exact HU.out ((c6.out h.1).trans h.2)
 have c1 : ((uu).toList == (s).toList) = true := (aD3 _ _).2 hc2;have HU : Hid (uu = s) := hc2;have b1 := c4f (jb K5 1 rfl);have b2 := c4c (jb K5 0 rfl);go_wp2_with fail
 obtain ⟨w9, a5⟩ := exq ((((w5.setCell ⟨a1, 0, none⟩ (.int .i64 kk)).setCell ⟨a1, 1, none⟩ (.string aa)).setCell ⟨a1, 2, none⟩ (.string bb)).setCell ⟨a1, 3, none⟩ (.int .i64 tt));rw [← a5];have K9 := jss K5 1 [(0, _), (1, _), (2, _), (3, _)] a5;clear a5 K5;have a0 := c4c (jb K9 1 rfl);refine bodyPost_ret (v := .tuple #[.agg #[.int .i64 kk, .string aa, .string bb, .int .i64 tt], .bool true]) (by simp [results, results169, go_sem, a0]) rfl ?_;refine ⟨K9.hb, .inl ⟨_, _, _, _, rfl, ?_⟩⟩;classical
 by_cases hP : BanP kk aa bb tt
 ·exact ⟨hP, (c6.out hP).symm.trans HU.out⟩
 exact absurd (HU.out.symm.trans (d6.out hP)) HE.out
def NatB (n : Nat) (w : World) (e : Ending) (w' : World) : Prop := e = .returned (.int .i64 (n : Int)) ∧ Below w.heap.size w w'
theorem cP2 (s : Tx) (w : World) (hs : s.size ≤ maxLen) :
  Calls prog 308 #[.string s] w fun e w' => NatB (sumP s) w e w' := by
 unfold maxLen at hs;go_enter func308, ntmps308;go_wp2
 go_loopw [3, 4, 8] (fun a b i wr => ∃ (k A B : Nat), k ≤ s.size ∧ i = .int .i64 (k : Int) ∧ a = .int .i64 (A : Int) ∧ b = .int .i64 (B : Int) ∧ A < 65521 ∧ B < 65521 ∧ wr = w ∧ Hid ((A, B) = sumL (1, 0) ((bs s).take k))) (fun _ _ i _ => s.size - (intOf i).toNat)
 case atStart => exact ⟨0, 1, 0, Nat.zero_le _, rfl, rfl, rfl, by omega, by omega, rfl, rfl⟩
 case round =>
  obtain ⟨k, A, B, hk, rfl, rfl, rfl, hA, hB, rfl, HS⟩ := hrel;by_cases hlt : (k : Int) < (s.size : Int)
  rotate_left
  ·have HE : Hid ((A, B) = sumL (1, 0) (bs s)) := by
    have h := HS.out
    rw [List.take_of_length_le (by rw [aC4]; omega)] at h
    exact h
   go_wp2
   go_ret;refine ⟨?_, Below.refl _ _⟩;have h := HE.out;unfold sumP;rw [← h];simp
  have a0 : k < s.size := by omega
  have hx : (s[k]'a0).toNat < 256 := (s[k]'a0).toNat_lt
  have a1 : Hid ((bs s).take (k + 1) = (bs s).take k ++ [s[k]'a0]) := by
   rw [Hid, List.take_add_one, bsAt a0]
   rfl
  go_wp2
  go_roundw
  case rel =>
   refine ⟨k + 1, (A + (s[k]'a0).toNat) % 65521, (B + (A + (s[k]'a0).toNat) % 65521) % 65521, by omega, by simp, ?_, ?_, Nat.mod_lt _ (by decide), Nat.mod_lt _ (by decide), trivial, ?_⟩
   ·congr 1
   ·congr 1
   rw [Hid, a1.out, bQ8, ← HS.out]
  case measure => simp [intOf]; omega
theorem cP3 (n : Nat) (w : World) (h : n ≤ 4293001440) (hT : aG9 w) :
  Calls prog 188 #[.int .i64 (n : Int)] w fun e w' => aD5 (decT n) w e w' := by
 refine (Tryz.strconv_Itoa (n : Int) (by omega) (by omega) w hT).mono ?_;rintro e w1 ⟨rfl, k, os, rfl⟩;refine ⟨?_, Lib.below_grow w.heap.size w (Nat.le_refl _) k os⟩;have e : Lib.itoa (n : Int) = Lib.decDigits n := by unfold Lib.itoa; rw [if_neg (by omega)]; simp
 rw [e];rfl
theorem cA1 (n : Nat) (w : World) (h : n ≤ 1000000) (hT : aG9 w) :
  Calls prog 88 #[.int .i64 (n : Int)] w fun e w' => aD5 (decT n) w e w' := by
 have e : aD1 (n : Int) = decT n := by unfold aD1; rw [if_neg (by omega), cO2 n h]; simp
 rw [← e];exact aF8 (n : Int) w (by omega) (by omega) hT
theorem dF9 (q : Int) (b : Tx) (w : World) (h : RecP q b) :
  Calls prog 307 #[.agg #[.int .i64 q, .string b]] w fun e w' => e = .returned (.bool true) ∧ Below w.heap.size w w' := by
 obtain ⟨h1, h2, h3⟩ := h;have h4 : (b.size : Int) ≤ 2000 := by omega
 go_enter func307, ntmps307;go_wp2
 go_ret;exact ⟨rfl, (Below.refl _ _).alloc (Nat.le_refl _) _⟩
theorem dK6 (q : Int) (b : Tx) (w : World) (h : ¬ RecP q b) :
  Calls prog 307 #[.agg #[.int .i64 q, .string b]] w fun e w' => e = .returned (.bool false) ∧ Below w.heap.size w w' := by
 by_cases h1 : 1 ≤ q
 rotate_left
 ·clear h;go_enter func307, ntmps307;go_wp2
  go_ret;exact ⟨rfl, (Below.refl _ _).alloc (Nat.le_refl _) _⟩
 by_cases h2 : q ≤ 100000
 rotate_left
 ·clear h;go_enter func307, ntmps307;go_wp2
  go_ret;exact ⟨rfl, (Below.refl _ _).alloc (Nat.le_refl _) _⟩
 have h4 : ¬ (b.size : Int) ≤ 2000 := fun h3 => h ⟨h1, h2, by omega⟩
 clear h;go_enter func307, ntmps307;go_wp2
 go_ret;exact ⟨rfl, (Below.refl _ _).alloc (Nat.le_refl _) _⟩
theorem cY0 (q : Int) (b : Tx) (w : World) (h : ¬ RecP q b) :
  Calls prog 275 #[.agg #[.int .i64 q, .string b]] w fun e w' => aD5 (recI q b) w e w' := by
 have HP := hid h;clear h;have K0 := jnil w;go_enter func275, ntmps275;go_upto_region 1 with fail
 obtain ⟨q1, a1⟩ := exq (w.heap.size);obtain ⟨w1, a0⟩ := exq (w.alloc (.cells #[.int .i64 q, .string b] 275));have a2 := a1.symm;rw [← a0]; try rw [← a1];have a4 := hsa a0 a2;have bw := bal a0;have K1 := ja K0 a0 a2;clear bw a0 a2 K0;clear a4 a1;have a3 := c2c (jb K1 0 rfl);go_wp2_with fail
 refine (dK6 q b _ HP.out).mono ?_;rintro e w2 ⟨rfl, bw⟩;have K2 := jw K1 bw;clear bw K1;clear a3;go_wp2_with fail
 go_ret;exact aD5.of (bQ9 HP.out).symm K2.hb
theorem cP4 (q : Nat) (b : Tx) (w : World) (h : RecP (q : Int) b) (hT : aG9 w) :
  Calls prog 275 #[.agg #[.int .i64 (q : Int), .string b]] w fun e w' => aD5 (recI (q : Int) b) w e w' := by
 have HP := hid h;have hq : q ≤ 100000 := by have := h.2.1; omega
 have b8 : b.size ≤ 2000 := h.2.2;have a5 : Hid (∀ W, Bw w W → aG9 W) := fun W h => hT.below h
 obtain ⟨d1, a6⟩ := exq (decT q);have b4 : Hid (decT q = d1) := a6.symm;have z1 : d1.size ≤ 10 := by rw [a6]; exact aX7 _ (by omega)
 obtain ⟨d2, a7⟩ := exq (decT b.size);have b5 : Hid (decT b.size = d2) := a7.symm;have z2 : d2.size ≤ 10 := by rw [a7]; exact aX7 _ (by omega)
 clear h hT a6 a7;have K0 := jnil w;go_enter func275, ntmps275;go_upto_region 1 with fail
 obtain ⟨q1, a8⟩ := exq (w.heap.size);obtain ⟨w1, a3⟩ : ∃ W, W = w.alloc (.cells #[.int .i64 (q : Int), .string b] 275) := ⟨_, rfl⟩;have a9 := a8.symm;rw [← a3]; try rw [← a8];have b9 := hsa a3 a9;have bw := bal a3;have K1 := ja K0 a3 a9;clear bw a3 a9 K0;clear b9 a8;have b0 := c2c (jb K1 0 rfl);go_wp2_with fail
 refine (dF9 (q : Int) b _ HP.out).mono ?_;rintro e w2 ⟨rfl, bw⟩;have K2 := jw K1 bw;clear bw K1;clear b0;go_upto_region 3 with fail
 refine wp_region_held_drew (S := fun W => W.heap[q1]? = some (.cells #[.int .i64 (q : Int), .string b] 275)) (by kernel_rfl) (jb K2 0 rfl) (fun _ => ?_)
 obtain ⟨w3, hX⟩ := exq w2.drew;have bw := bdr hX;rw [← hX];have K3 := jw K2 bw;have a1 := (jb K3 0 rfl);clear bw hX K2;refine tkP 0 (.pointer (some ⟨q1, 0, none⟩)) 7 rfl rfl a1 ?_;go_frame;refine tkL 1 (.int .i64 (q : Int)) 8 rfl rfl (Or.inl ⟨by rfl, by intro W hW; have a0 := hW; have y0 := c2c a0; go_simp⟩) a1 ?_;go_frame;refine tkP 4 (.pointer (some ⟨q1, 1, none⟩)) 11 rfl rfl a1 ?_;go_frame;refine tkL 5 (.string b) 12 rfl rfl (Or.inl ⟨by rfl, by intro W hW; have a0 := hW; have y1 := c2c a0; go_simp⟩) a1 ?_;go_frame;refine tkP 6 (.int .i64 (b.size : Int)) 13 rfl rfl a1 (tkP 10 (.pointer (some ⟨q1, 1, none⟩)) 17 rfl rfl a1 ?_);go_frame;refine tkL 11 (.string b) 18 rfl rfl (Or.inl ⟨by rfl, by intro W hW; have a0 := hW; have y1 := c2c a0; go_simp⟩) a1 ?_;go_frame;refine rd1 2 rfl (fun K hK => ?_)
 go_simp;refine (cA1 q _ (by omega) (a5.out _ K3.hb)).mono ?_;rintro e w4 ⟨rfl, bw⟩;rw [b4.out];have K4 := jw K3 bw;clear bw K3;have b1 := (jb K4 0 rfl);refine hK.out _ _ b1 (fun _ => ?_)
 clear hK K a1;refine tkL 3 (.string (d1 ++ ⟨#[32]⟩)) 10 rfl rfl (Or.inl ⟨by rfl, by intro W _; go_simp <;> omega⟩) b1 ?_;go_frame;refine rd1 7 rfl (fun K hK => ?_)
 go_simp;refine (cA1 b.size _ (by omega) (a5.out _ K4.hb)).mono ?_;rintro e w5 ⟨rfl, bw⟩;rw [b5.out];have K5 := jw K4 bw;clear bw K4;have a2 := (jb K5 0 rfl);refine hK.out _ _ a2 (fun _ => ?_)
 clear hK K b1;refine tkL 8 (.string ((d1 ++ ⟨#[32]⟩) ++ d2)) 15 rfl rfl (Or.inl ⟨by rfl, by intro W _; go_simp <;> omega⟩) a2 ?_;go_frame;refine tkL 9 (.string (((d1 ++ ⟨#[32]⟩) ++ d2) ++ ⟨#[10]⟩)) 16 rfl rfl (Or.inl ⟨by rfl, by intro W _; go_simp <;> omega⟩) a2 ?_;go_frame;refine tkL 12 (.string ((((d1 ++ ⟨#[32]⟩) ++ d2) ++ ⟨#[10]⟩) ++ b)) 19 rfl rfl (Or.inl ⟨by rfl, by intro W _; go_simp <;> omega⟩) a2 ?_;go_frame;refine tkP 13 (.string ((((d1 ++ ⟨#[32]⟩) ++ d2) ++ ⟨#[10]⟩) ++ b)) 3 rfl rfl a2 ?_;go_frame;clear a2;refine wdn ?_;go_wp2_with fail
 obtain ⟨R, hR⟩ := exq (((((d1 ++ ⟨#[32]⟩) ++ d2) ++ ⟨#[10]⟩) ++ b));rw [← hR];have HR : Hid (R = recR q b) := by show _ = _; rw [hR]; unfold recR; rw [b4.out, b5.out]
 have c0 : R.size ≤ 3000 := by rw [HR.out]; exact bR3 q b hq b8
 clear hR;obtain ⟨sm, b2⟩ := exq (sumP R);have b6 : Hid (sumP R = sm) := b2.symm;have a4 : sm ≤ 4293001440 := by rw [b2]; exact cD0 _
 clear b2;obtain ⟨d3, b3⟩ := exq (decT sm);have b7 : Hid (decT sm = d3) := b3.symm;have z3 : d3.size ≤ 10 := by rw [b3]; exact aX7 _ a4
 clear b3;refine (cP2 R _ (by unfold maxLen; omega)).mono ?_;rintro e w6 ⟨rfl, bw⟩;rw [b6.out];have K6 := jw K5 bw;clear bw K5;go_wp2_with fail
 refine (cP3 sm _ a4 (a5.out _ K6.hb)).mono ?_;rintro e w7 ⟨rfl, bw⟩;rw [b7.out];have K7 := jw K6 bw;clear bw K6;go_wp2_with fail
 go_ret;refine aD5.of ?_ K7.hb;rw [bF8 HP.out];unfold recT;rw [Int.toNat_natCast, ← HR.out, b6.out, b7.out]
theorem cP5 (q : Int) (b : Tx) (w : World) (hT : aG9 w) :
  Calls prog 275 #[.agg #[.int .i64 q, .string b]] w fun e w' => aD5 (recI q b) w e w' := by
 by_cases h : RecP q b
 rotate_left
 ·exact cY0 q b w h
 obtain ⟨n, rfl⟩ : ∃ n : Nat, q = (n : Int) := ⟨q.toNat, by have := h.1; omega⟩;exact cP4 n b w h hT
def dO9 (w : World) (e : Ending) (w' : World) : Prop := ∃ n : Nat, e = .returned (.int .i64 (n : Int)) ∧ Below w.heap.size w w'
theorem bT2 (a b : Tx) (w : World) (ha : a.size ≤ 4000000) (_hb : b.size ≤ 4000000) :
  Calls prog 311 #[.string a, .string b] w fun e w' => dO9 w e w' := by
 obtain ⟨m, hm⟩ : ∃ m : Nat, m = min a.size b.size := ⟨_, rfl⟩;have a3 : min (a.size : Int) (b.size : Int) = (m : Int) := by omega
 have a4 : m ≤ a.size := by omega
 have a5 : m ≤ b.size := by omega
 clear hm;go_enter func311, ntmps311;go_wp2
 go_loopw [13] (fun i wr => ∃ k : Nat, k ≤ m ∧ i = .int .i64 (k : Int) ∧ Bw w wr) (fun i _ => m - (intOf i).toNat)
 case atStart => exact ⟨0, Nat.zero_le _, rfl, Below.refl _ _⟩
 case round =>
  obtain ⟨k, hk, rfl, HW⟩ := hrel;by_cases hlt : (k : Int) < (m : Int)
  rotate_left
  ·have a6 : k = m := by omega
   go_wp2
   go_ret;exact ⟨m, rfl, HW⟩
  have a0 : k < a.size := by omega
  have a1 : k < b.size := by omega
  have a7 : (k : Int) < (a.size : Int) := by omega
  have a8 : (k : Int) < (b.size : Int) := by omega
  obtain ⟨x, hx⟩ := exq (a[k]'a0);obtain ⟨y, hy⟩ := exq (b[k]'a1);have a9 : a[k] = x := hx.symm;have b0 : b[k] = y := hy.symm;clear hx hy;by_cases hxy : x = y
  ·have a2 : (((x.toNat : Nat) : Int) != ((y.toNat : Nat) : Int)) = false := by rw [hxy]; simp
   clear hxy;go_upto_region 5 with fail
   go_region_held3 (fun _ => True) (trivial) (fail)
   all_goals
    go_wp2
    go_roundw
    ·exact ⟨k + 1, by omega, by simp, HW.drew⟩
    ·simp [intOf]; omega
  have a2 : (((x.toNat : Nat) : Int) != ((y.toNat : Nat) : Int)) = true := by
   rw [bne_iff_ne]
   exact fun e => hxy (UInt8.toNat_inj.1 (by omega))
  clear hxy;go_upto_region 5 with fail
  go_region_held3 (fun _ => True) (trivial) (fail)
  all_goals
   go_wp2
   go_ret
   exact ⟨k, rfl, HW.drew⟩
end Go.Proofs.YtiobfnpmidjijaaGreatDoor
namespace Go.Proofs.YtiobfnpmidjijaaGreatDoor
open Go.Proofs.Tryz
open Go.ChangeShapes Go.WideShapes Go.ChangeAt Go.RowKit
theorem dK7 : (prog.globals[2]?).map (·.type) = some 381 := by kernel_rfl
theorem dP0 : prog.cellsOf 381 = 20 := by kernel_rfl
theorem dP1 : prog.cellsOf 364 = 1 := by kernel_rfl
theorem dV1 {W : World} (h : laidMetH prog Rows.fnExactKeepRow.laid W) : aG9 W := by
 have h1 : laidMet prog Rows.fnExactKeepRow.laid W := h;obtain ⟨ps, hl, _⟩ := h1;obtain ⟨g1, t1, a3, f1, p1, q1, _, _, _, _, a1, _⟩ := hl;obtain ⟨g2, t2, a4, f2, p2, q2, _, _, _, _, a2, _⟩ := a1;obtain ⟨g3, t3, a5, f3, p3, q3, hg, ht, a0, hd, _, _⟩ := a2;obtain rfl := Option.some.inj (gTab.symm.trans hg);obtain rfl := Option.some.inj (dK7.symm.trans ht);unfold aG9 Lib.TabIs;rw [a0, ← Lib.cells_of_tab (zs := Lib.pow10Tab) underlying381 underlying364 dP1 dP0 hd]
def cA2 (w : World) : World :=
 { w with heap := ((w.heap.modify 2 fun
   | .cells _ t frozen => .cells #[.int .u64 1, .int .u64 10, .int .u64 100, .int .u64 1000, .int .u64 10000, .int .u64 100000, .int .u64 1000000, .int .u64 10000000, .int .u64 100000000, .int .u64 1000000000, .int .u64 10000000000, .int .u64 100000000000, .int .u64 1000000000000, .int .u64 10000000000000, .int .u64 100000000000000, .int .u64 1000000000000000, .int .u64 10000000000000000, .int .u64 100000000000000000, .int .u64 1000000000000000000, .int .u64 10000000000000000000] t frozen
   | o => o).modify 3 fun
   | .cells _ t frozen => .cells #[.int .u8 0, .int .u8 1, .int .u8 28, .int .u8 2, .int .u8 29, .int .u8 14, .int .u8 24, .int .u8 3, .int .u8 30, .int .u8 22, .int .u8 20, .int .u8 15, .int .u8 25, .int .u8 17, .int .u8 4, .int .u8 8, .int .u8 31, .int .u8 27, .int .u8 13, .int .u8 23, .int .u8 21, .int .u8 19, .int .u8 16, .int .u8 7, .int .u8 26, .int .u8 12, .int .u8 18, .int .u8 6, .int .u8 11, .int .u8 5, .int .u8 10, .int .u8 9] t frozen
   | o => o).modify 4 fun
   | .cells _ t frozen => .cells #[.int .u8 0, .int .u8 1, .int .u8 56, .int .u8 2, .int .u8 57, .int .u8 49, .int .u8 28, .int .u8 3, .int .u8 61, .int .u8 58, .int .u8 42, .int .u8 50, .int .u8 38, .int .u8 29, .int .u8 17, .int .u8 4, .int .u8 62, .int .u8 47, .int .u8 59, .int .u8 36, .int .u8 45, .int .u8 43, .int .u8 51, .int .u8 22, .int .u8 53, .int .u8 39, .int .u8 33, .int .u8 30, .int .u8 24, .int .u8 18, .int .u8 12, .int .u8 5, .int .u8 63, .int .u8 55, .int .u8 48, .int .u8 27, .int .u8 60, .int .u8 41, .int .u8 37, .int .u8 16, .int .u8 46, .int .u8 35, .int .u8 44, .int .u8 21, .int .u8 52, .int .u8 32, .int .u8 23, .int .u8 11, .int .u8 54, .int .u8 26, .int .u8 40, .int .u8 15, .int .u8 34, .int .u8 20, .int .u8 31, .int .u8 10, .int .u8 25, .int .u8 14, .int .u8 19, .int .u8 9, .int .u8 13, .int .u8 8, .int .u8 7, .int .u8 6] t frozen
   | o => o }
def aN9 (W : World) : Prop := W.cell? ⟨0, 0, none⟩ = some (.iface 341 (.agg #[.pointer (some ⟨5, 138, none⟩)]))
theorem aN9.lt {W : World} (h : aN9 W) : 0 < W.heap.size := by
 rcases Nat.lt_or_ge 0 W.heap.size with h1 | h1
 ·exact h1
 unfold aN9 at h;simp [World.cell?, Array.getElem?_eq_none h1] at h
theorem aN9.below {W W' : World} (h : aN9 W) (hb : Below W.heap.size W W') : aN9 W' := (hb.cell (p := ⟨0, 0, none⟩) h.lt).trans h
theorem dS8 : prog.globalNamed "errors.errorType" = some 0 := by kernel_rfl
theorem dS9 : ((prog.cutTypes.find? (·.1 == "internal/reflectlite.rtype")).map (·.2)) = some 341 := by kernel_rfl
theorem dP2 : ((List.range 421).filter fun t => prog.rowNamed t [101, 114, 114, 111, 114]) = [138] := by kernel_rfl
theorem dP3 : prog.types.size = 421 := by kernel_rfl
theorem dP4 : typeHandle prog 138 = .pointer (some ⟨5, 138, none⟩) := by kernel_rfl
theorem dK8 {W : World} (h : laidMetH prog Rows.fnExactMountRow.laid W) : aG9 W ∧ aN9 W := by
 have h2 : laidMet prog Rows.fnExactKeepRow.laid W ∧ handlesMet prog [("errors.errorType", Rows.laid_errors_errorType)] W := h;refine ⟨dV1 h2.1, ?_⟩;obtain ⟨nm, u, t, e1, e2, e3, e4, e5⟩ := h2.2 _ (List.mem_singleton.2 rfl);obtain rfl : [101, 114, 114, 111, 114] = nm := Option.some.inj e1;obtain rfl := Option.some.inj (dS9.symm.trans e2);have hm : t ∈ (List.range 421).filter fun t => prog.rowNamed t [101, 114, 114, 111, 114] := List.mem_filter.2 ⟨List.mem_range.2 (by rw [← dP3]; exact e3), e4⟩
 rw [dP2] at hm;obtain rfl := List.mem_singleton.1 hm;rw [dP4] at e5;unfold aN9;simpa using World.var?_cell dS8 e5 0
def cF1 (w : World) : World :=
 { cA2 w with heap := (cA2 w).heap.modify 0 fun
   | .cells _ t frozen => .cells #[.iface 341 (.agg #[.pointer (some ⟨5, 138, none⟩)])] t frozen
   | o => o }
end Go.Proofs.YtiobfnpmidjijaaGreatDoor
namespace Go.Proofs.YtiobfnpmidjijaaGreatDoor
open Go.Proofs.Tryz
open Go.RowKit Go.Extern.Stop Go.Stop Go.Extern
theorem dT0 (t : Value) (w : World) :
  Calls prog 247 #[.nilIface, t] w fun e w' => e = .returned (.bool false) ∧ w' = w := by
 go_enter func247, ntmps247;go_wp2
 go_ret;exact ⟨rfl, rfl⟩
theorem Tryz.valueOf281 (t : Addr) (w : World) : (ReflectliteValue.unpack (.iface 281 (.pointer (some t)))).run prog w
  = .ok (.agg #[.pointer (some ⟨5, 281, none⟩), .pointer (some ⟨w.heap.size, 0, none⟩), .int .u64 150]) (w.alloc (.cells #[.pointer (some t)] 281)) := by kernel_rfl
theorem Tryz.type281 (a : Addr) (w : World) : (ReflectliteValue.methodAny (ReflectliteValue.valueError "reflectlite.Value.Type" 0) (fun t _ _ _ => ReflectliteType.toType t) #[.agg #[.pointer (some ⟨5, 281, none⟩), .pointer (some a), .int .u64 150]]).run prog w
  = .ok (.iface 341 (.agg #[.pointer (some ⟨5, 281, none⟩)])) w := by kernel_rfl
theorem Tryz.methodKind (h : Value) (w : World) : (Go.method 521 341 (.agg #[h]) "Kind").run prog w = .ok (388, h) w := by kernel_rfl
theorem Tryz.kind281 (w : World) : ((ReflectliteType.abiMethod fun t => (fun a : Nat => Value.int IntKind.u8 (a : Int)) <$> Rtype.kind t) #[.pointer (some ⟨5, 281, none⟩)]).run prog w = .ok (.int .u8 22) w := by kernel_rfl
theorem Tryz.kind279 (w : World) : ((ReflectliteType.abiMethod fun t => (fun a : Nat => Value.int IntKind.u8 (a : Int)) <$> Rtype.kind t) #[.pointer (some ⟨5, 279, none⟩)]).run prog w = .ok (.int .u8 25) w := by kernel_rfl
theorem rlm (z : Sem Value) (f : TypeId → Addr → Nat → Nat → Sem Value) (v : Value) :
  ReflectliteValue.method z f #[v] = (do match ← ReflectliteValue.parts v with | none => z | some (t, a, fl) => f t a fl (fl % 32)) := rfl
theorem Tryz.parts281 (a : Addr) (w : World) : (ReflectliteValue.parts (.agg #[.pointer (some ⟨5, 281, none⟩), .pointer (some a), .int .u64 150])).run prog w = .ok (some (281, a, 150)) w := by kernel_rfl
theorem Tryz.isNil281 (a p : Addr) (W : World) (ha : W.cell? a = some (.pointer (some p))) :
  (ReflectliteValue.method (ReflectliteValue.valueError "reflectlite.Value.IsNil" 0) ReflectliteValue.isNil #[.agg #[.pointer (some ⟨5, 281, none⟩), .pointer (some a), .int .u64 150]]).run prog W = .ok (.bool false) W := by
 rw [rlm];simp only [Sem.run_bind, Tryz.parts281, Result.andThen]
 simp [ReflectliteValue.isNil, loadVar, isAgg, underlying, underlying281, ha, Result.andThen]
theorem Tryz.methodElem (h : Value) (w : World) : (Go.method 521 341 (.agg #[h]) "Elem").run prog w = .ok (405, .agg #[h]) w := by kernel_rfl
theorem Tryz.methodImplements (h : Value) (w : World) : (Go.method 521 341 (.agg #[h]) "Implements").run prog w = .ok (406, .agg #[h]) w := by kernel_rfl
theorem Tryz.methodAssignableTo (h : Value) (w : World) : (Go.method 521 341 (.agg #[h]) "AssignableTo").run prog w = .ok (403, .agg #[h]) w := by kernel_rfl
theorem Tryz.elem281 (w : World) : (ReflectliteType.method ReflectliteType.elem #[.agg #[.pointer (some ⟨5, 281, none⟩)]]).run prog w = .ok (.iface 341 (.agg #[.pointer (some ⟨5, 279, none⟩)])) w := by kernel_rfl
theorem Tryz.implements279 (w : World) : (ReflectliteType.relation "Implements" ReflectliteType.implements_ #[.agg #[.pointer (some ⟨5, 279, none⟩)], .iface 341 (.agg #[.pointer (some ⟨5, 138, none⟩)])]).run prog w = .ok (.bool true) w := by kernel_rfl
theorem Tryz.typeOf279 (v : Value) (w : World) : (ReflectliteType.typeOf #[.iface 279 v]).run prog w = .ok (.iface 341 (.agg #[.pointer (some ⟨5, 279, none⟩)])) w := by kernel_rfl
theorem Tryz.assignable279 (w : World) : (ReflectliteType.relation "AssignableTo" ReflectliteType.assignableTo #[.agg #[.pointer (some ⟨5, 279, none⟩)], .iface 341 (.agg #[.pointer (some ⟨5, 279, none⟩)])]).run prog w = .ok (.bool true) w := by kernel_rfl
theorem Tryz.valueOf279 (e : Int) (w : World) : (ReflectliteValue.unpack (.iface 279 (.agg #[.int .i64 e]))).run prog w
  = .ok (.agg #[.pointer (some ⟨5, 279, none⟩), .pointer (some ⟨w.heap.size, 0, none⟩), .int .u64 153]) (w.alloc (.cells #[.int .i64 e] 279)) := by kernel_rfl
theorem Tryz.elemOf281 (w : World) : (Rtype.elem? 281).run prog w = .ok (some 279) w := by kernel_rfl
theorem Tryz.mk279 (p : Addr) (w : World) : (ReflectliteValue.mk 279 p ReflectliteValue.flagAddr).run prog w = .ok (.agg #[.pointer (some ⟨5, 279, none⟩), .pointer (some p), .int .u64 409]) w := by kernel_rfl
theorem Tryz.elemV281 (a p : Addr) (W : World) (ha : W.cell? a = some (.pointer (some p))) :
  (ReflectliteValue.method (ReflectliteValue.valueError "reflectlite.Value.Elem" 0) ReflectliteValue.elem #[.agg #[.pointer (some ⟨5, 281, none⟩), .pointer (some a), .int .u64 150]]).run prog W
   = .ok (.agg #[.pointer (some ⟨5, 279, none⟩), .pointer (some p), .int .u64 409]) W := by
 rw [rlm];simp only [Sem.run_bind, Tryz.parts281, Result.andThen]
 simp [ReflectliteValue.elem, loadVar, isAgg, underlying, underlying281, ha, Result.andThen, Tryz.elemOf281, Tryz.mk279]
theorem rls (v x : Value) : ReflectliteValue.set #[v, x] = (do
  let (some (dst, a, fl), some (src, b, _)) := (← ReflectliteValue.parts v, ← ReflectliteValue.parts x)
   | unsupported (.noEntry "extern/(internal/reflectlite.Value).Set.zeroValue")
  if fl / ReflectliteValue.flagAddr % 2 == 0 then unsupported (.noEntry "extern/(internal/reflectlite.Value).Set.unaddressable")
  let val ← loadVar src b
  if ← Rtype.directlyAssignable dst src then storeVar dst a val
  else if ← Rtype.implements dst src then
   if (← Rtype.kind src) == 20 then
    match val with
    | .nilIface => unsupported (.noEntry "extern/reflectlite: a nil value of one interface type handed on as a value of another")
    | _ => storeVar dst a val
   else storeVar dst a (.iface src val)
  else panicString ("reflectlite.Set: value of type " ++ (← Rtype.spelt src) ++ " is not assignable to type " ++ (← Rtype.spelt dst))
  pure (.tuple #[])) := rfl
theorem Tryz.parts279a (a : Addr) (w : World) : (ReflectliteValue.parts (.agg #[.pointer (some ⟨5, 279, none⟩), .pointer (some a), .int .u64 409])).run prog w = .ok (some (279, a, 409)) w := by kernel_rfl
theorem Tryz.parts279 (a : Addr) (w : World) : (ReflectliteValue.parts (.agg #[.pointer (some ⟨5, 279, none⟩), .pointer (some a), .int .u64 153])).run prog w = .ok (some (279, a, 153)) w := by kernel_rfl
theorem Tryz.direct279 (w : World) : (Rtype.directlyAssignable 279 279).run prog w = .ok true w := by kernel_rfl
theorem Tryz.set279 (ta b : Addr) (e : Int) (old : Value) (W : World) (hb : W.cell? b = some (.int .i64 e)) (ht : W.cell? ta = some old) (hf : W.frozen? ta = false) :
  (ReflectliteValue.set #[.agg #[.pointer (some ⟨5, 279, none⟩), .pointer (some ta), .int .u64 409], .agg #[.pointer (some ⟨5, 279, none⟩), .pointer (some b), .int .u64 153]]).run prog W
   = .ok (.tuple #[]) (W.setCell ta (.int .i64 e)) := by
 rw [rls];simp only [Sem.run_bind, Tryz.parts279a, Tryz.parts279, Result.andThen]
 simp [ReflectliteValue.flagAddr, loadVar, isAgg, underlying, underlying279, hb, Result.andThen, Tryz.direct279, storeVar, Value.cells, storeCells, Addr.add, loadCells, loadCellsFrom]
 rw [run_store prog W ta _ _ (by rfl)];simp [ht, hf]
theorem dT1 (e : Int) (t : Addr) (old : Value) (w : World) (hg : w.cell? ⟨0, 0, none⟩ = some (.iface 341 (.agg #[.pointer (some ⟨5, 138, none⟩)]))) (ht0 : w.cell? t = some old) (hf0 : w.frozen? t = false) :
  Calls prog 247 #[.iface 279 (.agg #[.int .i64 e]), .iface 281 (.pointer (some t))] w fun ev w' => ev = .returned (.bool true) ∧ w' = ((((w.alloc (.cells #[.pointer (some t)] 281)).alloc (.cells #[.pointer (some ⟨5, 281, none⟩), .pointer (some ⟨w.heap.size, 0, none⟩), .int .u64 150] 314)).alloc (.cells #[.pointer (some ⟨5, 281, none⟩), .pointer (some ⟨w.heap.size, 0, none⟩), .int .u64 150] 314)).alloc (.cells #[.int .i64 e] 279)).setCell t (.int .i64 e) := by
 have a9 := @run_callFunc_extern prog 280 _ (fun a0 => ReflectliteValue.unpack (a0.getD 0 (.tuple #[]))) func280 (by kernel_rfl) (by kernel_rfl) (by kernel_rfl) (by kernel_rfl)
 have b0 := @run_callFunc_extern prog 281 _ (ReflectliteValue.methodAny (ReflectliteValue.valueError "reflectlite.Value.Type" 0) (fun t _ _ _ => ReflectliteType.toType t)) func281 (by kernel_rfl) (by kernel_rfl) (by kernel_rfl) (by kernel_rfl)
 have b1 := @run_callFunc_extern prog 282 _ (ReflectliteValue.method (ReflectliteValue.valueError "reflectlite.Value.IsNil" 0) ReflectliteValue.isNil) func282 (by kernel_rfl) (by kernel_rfl) (by kernel_rfl) (by kernel_rfl);have a1 := @run_callFunc_extern prog 388 _ (ReflectliteType.abiMethod fun t => do pure (.int .u8 (← Rtype.kind t))) func388 (by kernel_rfl) (by kernel_rfl) (by kernel_rfl) (by kernel_rfl)
 have a2 := @run_callFunc_extern prog 405 _ (ReflectliteType.method ReflectliteType.elem) func405 (by kernel_rfl) (by kernel_rfl) (by kernel_rfl) (by kernel_rfl);have a3 := @run_callFunc_extern prog 406 _ (ReflectliteType.relation "Implements" ReflectliteType.implements_) func406 (by kernel_rfl) (by kernel_rfl) (by kernel_rfl) (by kernel_rfl);have a4 := @run_callFunc_extern prog 312 _ ReflectliteType.typeOf func312 (by kernel_rfl) (by kernel_rfl) (by kernel_rfl) (by kernel_rfl);have a5 := @run_callFunc_extern prog 403 _ (ReflectliteType.relation "AssignableTo" ReflectliteType.assignableTo) func403 (by kernel_rfl) (by kernel_rfl) (by kernel_rfl) (by kernel_rfl);have a6 := @run_callFunc_extern prog 313 _ (ReflectliteValue.method (ReflectliteValue.valueError "reflectlite.Value.Elem" 0) ReflectliteValue.elem) func313 (by kernel_rfl) (by kernel_rfl) (by kernel_rfl) (by kernel_rfl);have a7 := @run_callFunc_extern prog 314 _ ReflectliteValue.set func314 (by kernel_rfl) (by kernel_rfl) (by kernel_rfl) (by kernel_rfl);have tO := Tryz.typeOf279;have mA := Tryz.methodAssignableTo;have b3 := Tryz.assignable279;have b4 := Tryz.valueOf279;have f6 := Tryz.valueOf281;have f7 := Tryz.type281;have mK := Tryz.methodKind;have mE := Tryz.methodElem;have mI := Tryz.methodImplements;have b5 := Tryz.kind281;have b6 := Tryz.kind279;have b7 := Tryz.elem281;have b8 := Tryz.implements279;have n8 := Tryz.isNil281 ⟨w.heap.size, 0, none⟩ t ((w.alloc (.cells #[.pointer (some t)] 281)).alloc (.cells #[.pointer (some ⟨5, 281, none⟩), .pointer (some ⟨w.heap.size, 0, none⟩), .int .u64 150] 314)) (by simp)
 have b2 : 0 < w.heap.size := by
  rcases Nat.lt_or_ge 0 w.heap.size with h | h
  ·exact h
  ·simp [World.cell?, Array.getElem?_eq_none h] at hg
 have b9 : ((w.alloc (.cells #[.pointer (some t)] 281)).alloc (.cells #[.pointer (some ⟨5, 281, none⟩), .pointer (some ⟨w.heap.size, 0, none⟩), .int .u64 150] 314)).cell? ⟨0, 0, none⟩ = some (.iface 341 (.agg #[.pointer (some ⟨5, 138, none⟩)])) := by
  rw [World.cell?_alloc_lt _ _ ⟨0, 0, none⟩ (by first | (simp; done) | (simp; omega)), World.cell?_alloc_lt _ _ ⟨0, 0, none⟩ b2]; exact hg
 have a8 : t.block < w.heap.size := by
  rcases Nat.lt_or_ge t.block w.heap.size with h | h
  ·exact h
  ·simp [World.cell?, Array.getElem?_eq_none h] at ht0
 have el := Tryz.elemV281 ⟨w.heap.size, 0, none⟩ t (((w.alloc (.cells #[.pointer (some t)] 281)).alloc (.cells #[.pointer (some ⟨5, 281, none⟩), .pointer (some ⟨w.heap.size, 0, none⟩), .int .u64 150] 314)).alloc (.cells #[.pointer (some ⟨5, 281, none⟩), .pointer (some ⟨w.heap.size, 0, none⟩), .int .u64 150] 314)) (by rw [World.cell?_alloc_lt _ _ ⟨w.heap.size, 0, none⟩ (by simp; omega)]; simp)
 have st := Tryz.set279 t ⟨w.heap.size + 1 + 1 + 1, 0, none⟩ e old ((((w.alloc (.cells #[.pointer (some t)] 281)).alloc (.cells #[.pointer (some ⟨5, 281, none⟩), .pointer (some ⟨w.heap.size, 0, none⟩), .int .u64 150] 314)).alloc (.cells #[.pointer (some ⟨5, 281, none⟩), .pointer (some ⟨w.heap.size, 0, none⟩), .int .u64 150] 314)).alloc (.cells #[.int .i64 e] 279))
  (by rw [World.cell?_alloc_at _ _ _ _ (by simp)]; rfl)
  (by rw [World.cell?_alloc_lt _ _ t (by simp; omega), World.cell?_alloc_lt _ _ t (by simp; omega), World.cell?_alloc_lt _ _ t (by simp; omega), World.cell?_alloc_lt _ _ t a8]; exact ht0)
  (by rw [World.frozen?_alloc_old _ _ t (by simp; omega), World.frozen?_alloc_old _ _ t (by simp; omega), World.frozen?_alloc_old _ _ t (by simp; omega), World.frozen?_alloc_old _ _ t (Nat.ne_of_lt a8)]; exact hf0)
 go_enter func247, ntmps247;go_wp2
 refine wp_loop_rounds 1 ?_;rw [rounds_succ];go_wp2
 go_ret;exact ⟨rfl, rfl⟩
end Go.Proofs.YtiobfnpmidjijaaGreatDoor
namespace Go.Proofs.YtiobfnpmidjijaaGreatDoor
open Go.Proofs.Tryz
open Go.RowKit
open Go.Lib hiding intOf
theorem dG0 (q : Int) (b : Tx) : (recI q b).size ≤ 3100 := by
 by_cases h : RecP q b
 rotate_left
 ·rw [bQ9 h];exact Nat.zero_le _
 rw [bF8 h];unfold recT;rw [ByteArray.size_append, ByteArray.size_append];have e1 := aX7 _ (cD0 (recR q.toNat b));have e2 := bR3 q.toNat b (by have := h.2.1; omega) h.2.2;have e3 : (⟨#[32]⟩ : Tx).size = 1 := rfl;omega
def dT2 (s : Tx) (q : Int) (b : Tx) (w : World) (e : Ending) (w' : World) : Prop :=
 ∃ ev : Value, e = .returned ev ∧ Below w.heap.size w w' ∧ ((aL9 s q b ∧ ev = .nilIface) ∨ (¬ aL9 s q b ∧ ∃ n : Int, ev = .iface 279 (.agg #[.int .i64 n])))
theorem dK9 (q : Int) (b s : Tx) (w : World) (hs : s.size ≤ 3000000) (hT : aG9 w) :
  Calls prog 279 #[.agg #[.int .i64 q, .string b], .string s] w fun e w' => dT2 s q b w e w' := by
 have a8 := hid hs;have b0 : Hid (∀ W, Bw w W → aG9 W) := fun W h => hT.below h
 obtain ⟨tt, a2⟩ := exq (recI q b);have a1 : Hid (recI q b = tt) := a2.symm;have a9 : Hid (tt.size ≤ 4000000) := by show _ ≤ _; rw [a2]; have := dG0 q b; omega
 clear hs hT a2;have K0 := jnil w;go_enter func279, ntmps279;go_upto_region 1 with fail
 obtain ⟨q1, a3⟩ := exq (w.heap.size);obtain ⟨w1, a0⟩ := exq (w.alloc (.cells #[.int .i64 q, .string b] 275));have a4 := a3.symm;rw [← a0]; try rw [← a3];have b1 := hsa a0 a4;have bw := bal a0;have K1 := ja K0 a0 a4;clear bw a0 a4 K0;clear b1 a3;have a5 := c2c (jb K1 0 rfl);go_wp2_with fail
 refine (cP5 q b _ (b0.out _ K1.hb)).mono ?_;rintro e w2 ⟨rfl, bw⟩;rw [a1.out];have K2 := jw K1 bw;clear bw K1;clear a5;by_cases hc1 : tt = ⟨#[]⟩
 ·have a6 : (tt).toList.isEmpty = true := aK9 (by rw [hc1]; rfl);have HE := hid hc1;clear hc1;go_wp2_with fail
  refine (bT2 tt s _ a9.out (by have := a8.out; omega)).mono ?_;rintro e w3 ⟨pn, rfl, bw⟩;have K3 := jw K2 bw;clear bw K2;go_wp2_with fail
  go_ret;exact ⟨_, rfl, K3.hb, .inr ⟨fun h => (bI8.2 h).1 ((bI8.2 h).2.symm.trans (a1.out.trans HE.out)), _, rfl⟩⟩
 have a6 : (tt).toList.isEmpty = false := aN5 (Nat.pos_of_ne_zero (fun e => hc1 (bA8 e)))
 have HE := hid hc1;clear hc1;by_cases hc2 : tt = s
 ·have a7 : ((tt).toList == (s).toList) = true := (aD3 _ _).2 hc2;have HU : Hid (tt = s) := hc2;clear hc2;go_wp2_with fail
  go_ret;exact ⟨_, rfl, K2.hb, .inl ⟨bI8.1 ⟨fun e => HE.out (HU.out.trans e), a1.out.trans HU.out⟩, rfl⟩⟩
 have a7 : ((tt).toList == (s).toList) = false := aB8 hc2;have HU := hid hc2;clear hc2;go_wp2_with fail
 refine (bT2 tt s _ a9.out (by have := a8.out; omega)).mono ?_;rintro e w3 ⟨pn, rfl, bw⟩;have K3 := jw K2 bw;clear bw K2;go_wp2_with fail
 go_ret;exact ⟨_, rfl, K3.hb, .inr ⟨fun h => HU.out (a1.out.symm.trans (bI8.2 h).2), _, rfl⟩⟩
theorem dG1 {s : ByteArray} {q : Int} {b : ByteArray} (h : aL9 s q b) {l1 x2 l2 l3 : ByteArray} (h1 : l1 = cutB s ⟨#[32]⟩) (h2 : x2 = cutA l1 ⟨#[32]⟩) (h3 : l2 = cutB l1 ⟨#[32]⟩) (h4 : l3 = cutB l2 ⟨#[10]⟩) : x2 = aB7 q.toNat ∧ l3 = b := by
 have hq := h.1.2.1
 have e0 : bs s = Lib.decDigits (sumP (recR q.toNat b)) ++ ((32 :: []) ++ (Lib.decDigits q.toNat ++ ((32 :: []) ++ (Lib.decDigits b.size ++ ((10 :: []) ++ bs b))))) := by
  rw [← h.2, bR0, cD1]
  simp
 obtain ⟨_, e1⟩ := aT1 (sep := ⟨#[32]⟩) e0 rfl (fun x hx => (aT3 _ x hx).1)
 rw [← h1] at e1;obtain ⟨e2, e3⟩ := aT1 (sep := ⟨#[32]⟩) e1 rfl (fun x hx => (aT3 _ x hx).1)
 rw [← h2] at e2;rw [← h3] at e3;obtain ⟨_, e4⟩ := aT1 (sep := ⟨#[10]⟩) e3 rfl (fun x hx => (aT3 _ x hx).2)
 rw [← h4] at e4;exact ⟨by rw [← cO2 _ (by omega)]; exact aE3 (by rw [e2, aZ2]), aE3 e4⟩
def dT3 (s : Tx) (w : World) (e : Ending) (w' : World) : Prop :=
 ∃ (q : Int) (b : Tx) (ev : Value), e = .returned (.tuple #[.agg #[.int .i64 q, .string b], ev]) ∧ b.size ≤ 3000000 ∧ Below w.heap.size w w' ∧ ((aL9 s q b ∧ ev = .nilIface) ∨ ((∀ q' b', ¬ aL9 s q' b') ∧ ∃ n : Int, ev = .iface 279 (.agg #[.int .i64 n])))
theorem bV6 (s : Tx) (w : World) (hs : s.size ≤ 3000000) (hT : aG9 w) (hLN : aH5 w) :
  Calls prog 246 #[.string s] w fun e w' => dT3 s w e w' := by
 have c0 := hid hs;have e7 : Hid (∀ W, Bw w W → aG9 W) := fun W h => hT.below h
 have c9 : Hid (∀ W, Bw w W → aH5 W) := fun W h => hLN.below h hLN.lt
 clear hs hT hLN;have K0 := jnil w;go_enter func246, ntmps246;go_upto_region 1 with fail
 obtain ⟨b3, a4⟩ := exq (w.heap.size);obtain ⟨w1, b4⟩ := exq (w.alloc (.cells #[.int .i64 0, .string ⟨#[]⟩] 275));have d0 := a4.symm;rw [← b4]; try rw [← a4];have e8 := hsa b4 d0;have bw := bal b4;have K1 := ja K0 b4 d0;clear bw b4 d0 K0;clear e8 a4;go_upto_region 2 with fail
 obtain ⟨e0, a5⟩ := exq (w1.heap.size);obtain ⟨w2, b5⟩ := exq (w1.alloc (.cells #[.string s] 285));have c1 := a5.symm;rw [← b5]; try rw [← a5];have e9 := hsa b5 c1;have bw := bal b5;have K2 := ja K1 b5 c1;have a0 : Hid (b3 ≠ e0) := fun e => by have h1 := (Array.getElem?_eq_some_iff.1 (jb K1 0 rfl)).1; omega
 have d1 : Hid (w.heap.size ≤ e0) := by show _ ≤ _; rw [← c1]; exact K1.hb.size
 clear bw b5 c1 K1;clear e9 a5;go_wp2_with fail
 refine (aR8 _ s ⟨#[32]⟩ _ (jb K2 0 rfl) (by have := c0.out; omega) (c9.out _ K2.hb)).mono ?_;rintro e w3 ⟨rfl, a1, hg⟩;obtain ⟨l1, c2⟩ := exq (cutB s ⟨#[32]⟩);obtain ⟨x1, c3⟩ := exq (cutA s ⟨#[32]⟩);rw [← c2] at a1;try rw [← c3]
 have f0 := hid c2;have g6 := hid c3;have a6 : Hid (l1.size ≤ 3000000) := by show _ ≤ _; rw [c2]; exact Nat.le_trans (aH1 _ _) c0.out
 have f1 : Hid (x1.size ≤ 3000000) := by show _ ≤ _; rw [c3]; exact Nat.le_trans (aF9 _ _) c0.out
 clear c2 c3;have b6 : Bw w (w3) := K2.hb.grown hg K2.hb.size (by intro k hk; cases hk; exact d1.out);have g7 := hid hg.size;have a7 : Hid (w3.heap[b3]? = some (.cells #[.int .i64 0, .string ⟨#[]⟩] 275)) := (hg.block _ (Array.getElem?_eq_some_iff.1 (jb K2 1 rfl)).1 (fun e => a0.out (Option.some.inj e))).trans (jb K2 1 rfl)
 have b7 := hid a1;have K3 := jz K2 b6 (jzb b7.out (jzb a7.out (jzn _)));clear hg a1 K2;go_wp2_with fail
 refine (aR8 _ l1 ⟨#[32]⟩ _ b7.out (by have := a6.out; omega) (c9.out _ b6)).mono ?_;rintro e w4 ⟨rfl, a1, hg⟩;obtain ⟨l2, c4⟩ := exq (cutB l1 ⟨#[32]⟩);obtain ⟨x2, c5⟩ := exq (cutA l1 ⟨#[32]⟩);rw [← c4] at a1;try rw [← c5]
 have f2 := hid c4;have f3 := hid c5;have a8 : Hid (l2.size ≤ 3000000) := by show _ ≤ _; rw [c4]; exact Nat.le_trans (aH1 _ _) a6.out
 have d2 : Hid (x2.size ≤ 3000000) := by show _ ≤ _; rw [c5]; exact Nat.le_trans (aF9 _ _) a6.out
 clear c4 c5;have e1 : Bw w (w4) := b6.grown hg b6.size (by intro k hk; cases hk; exact d1.out);have g8 := hid hg.size;have d3 : Hid (w4.heap[b3]? = some (.cells #[.int .i64 0, .string ⟨#[]⟩] 275)) := (hg.block _ (blt a7.out) (fun e => a0.out (Option.some.inj e))).trans a7.out
 have d4 := hid a1;have K4 := jz K3 e1 (jzb d4.out (jzb d3.out (jzn _)));clear b6 hg a1 K3;go_wp2_with fail
 refine (aL0 x2 _ (by have := d2.out; unfold maxLen; omega)).mono ?_;rintro e w5 ⟨bo, tt, rfl, e2, e3, f4, bw⟩;have f5 : Hid (aO1 x2 → tt = valL x2.data.toList) := fun h => e3 (e2.2 h)
 clear e2 e3 f4;have K5 := jw K4 bw;clear e1 bw K4;go_wp2_with fail
 refine (aR8 _ l2 ⟨#[10]⟩ _ (jb K5 0 rfl) (by have := a8.out; omega) (c9.out _ K5.hb)).mono ?_;rintro e w6 ⟨rfl, a1, hg⟩;obtain ⟨l3, c6⟩ := exq (cutB l2 ⟨#[10]⟩);obtain ⟨x3, c7⟩ := exq (cutA l2 ⟨#[10]⟩);rw [← c6] at a1;try rw [← c7]
 have f6 := hid c6;have g9 := hid c7;have d5 : Hid (l3.size ≤ 3000000) := by show _ ≤ _; rw [c6]; exact Nat.le_trans (aH1 _ _) a8.out
 have f7 : Hid (x3.size ≤ 3000000) := by show _ ≤ _; rw [c7]; exact Nat.le_trans (aF9 _ _) a8.out
 clear c6 c7;have e4 : Bw w (w6) := K5.hb.grown hg K5.hb.size (by intro k hk; cases hk; exact d1.out);have h0 := hid hg.size;have d6 : Hid (w6.heap[b3]? = some (.cells #[.int .i64 0, .string ⟨#[]⟩] 275)) := (hg.block _ (Array.getElem?_eq_some_iff.1 (jb K5 1 rfl)).1 (fun e => a0.out (Option.some.inj e))).trans (jb K5 1 rfl)
 have a2 := hid a1;have K6 := jz K5 e4 (jzb a2.out (jzb d6.out (jzn _)));clear hg a1 K5;have d7 := c1c a2.out;have a9 := hca a2 0 rfl;have a3 := hfa a2 0;go_upto_region 6 with fail
 obtain ⟨f8, b0⟩ := exq (w6.heap.size);obtain ⟨w7, b8⟩ := exq (w6.alloc (.cells #[.int .i64 tt, .string l3] 275));have d8 := b0.symm;rw [← b8]; try rw [← b0];have f9 := hsa b8 d8;have bw := bal b8;have K7 := ja K6 b8 d8;clear e4 bw b8 d8 K6;clear f9 b0;clear d7 a9 a3;go_upto_region 6 with fail
 refine wp_region_held_drew (S := fun W => W.heap[f8]? = some (.cells #[.int .i64 tt, .string l3] 275)) (by kernel_rfl) (jb K7 0 rfl) (fun _ => ?_)
 obtain ⟨w8, hX⟩ := exq w7.drew;have bw := bdr hX;rw [← hX];have K8 := jw K7 bw;have c8 := (jb K8 0 rfl);clear bw hX K7;refine tkL 0 (.agg #[.int .i64 tt, .string l3]) 21 rfl rfl (Or.inl ⟨by rfl, by intro W hW; have b1 := hW; have y0 := c2c b1; go_simp⟩) c8 ?_;go_frame;refine tkL 1 (.agg #[.int .i64 tt, .string l3]) 22 rfl rfl (Or.inl ⟨by rfl, by intro W hW; have b1 := hW; have y0 := c2c b1; go_simp⟩) c8 ?_;go_frame;refine tkP 2 (.string s) 23 rfl rfl c8 ?_;go_frame;refine rd1 3 rfl (fun K hK => ?_)
 go_simp;refine (dK9 tt l3 s _ c0.out (e7.out _ K8.hb)).mono ?_;rintro e w9 ⟨ev, rfl, bw, e5⟩;have g0 := hid e5;clear e5;have K9 := jw K8 bw;clear bw K8;have e6 := (jb K9 0 rfl);refine hK.out _ _ e6 (fun _ => ?_)
 clear hK K c8;refine rd1 4 rfl (fun K hK => ?_)
 have g5 := c2f (jb K9 2 rfl);obtain ⟨h3, hY⟩ := exq (((w9.setCell ⟨b3, 0, none⟩ (.int .i64 tt)).setCell ⟨b3, 1, none⟩ (.string l3)));have HY := hsy hY;have d9 := jss K9 2 [(0, _), (1, _)] hY;clear hY K9;go_simp;rw [HY.out];have b2 := (jb d9 0 rfl);refine hK.out _ _ b2 (fun _ => ?_)
 clear hK K HY e6 g5;refine tkP 5 (ev) 3 rfl rfl b2 ?_;go_frame;clear b2;refine wdn ?_;go_wp2_with fail
 have b9 := c2c (jb d9 2 rfl);refine bodyPost_ret (v := .tuple #[.agg #[.int .i64 tt, .string l3], ev]) (by simp [results, results246, go_sem, b9]) rfl ?_;refine ⟨_, _, _, rfl, d5.out, d9.hb, ?_⟩;rcases g0.out with ⟨h1, h2⟩ | ⟨h1, h2⟩
 ·exact .inl ⟨h1, h2⟩
 refine .inr ⟨fun q' b' h => h1 ?_, h2⟩
 obtain ⟨g1, g2⟩ := dG1 h f0.out f3.out f2.out f6.out;have hq := h.1.2.1;have h4 := h.1.1;have g3 := aP7 (by omega) g1 f5.out;have g4 : tt = q' := by omega
 rw [g4, g2];exact h
theorem dG2 (e : Int) (t : Nat) (old : Int) (w : World) (hH : aN9 w) (hb : w.heap[t]? = some (.cells #[.int .i64 old] 279)) :
  Calls prog 247 #[.iface 279 (.agg #[.int .i64 e]), .iface 281 (.pointer (some ⟨t, 0, none⟩))] w fun ev w' => ev = .returned (.bool true) ∧ w'.heap[t]? = some (.cells #[.int .i64 e] 279) ∧ w.grownBy w' (some t) := by
 have a0 : t < w.heap.size := (blt hb);refine (dT1 e ⟨t, 0, none⟩ (.int .i64 old) w hH ((aA1 hb 0).trans rfl) (aA2 hb 0)).mono ?_;rintro ev w' ⟨rfl, rfl⟩;refine ⟨rfl, ?_, ?_⟩
 ·refine (aA3 _ t 0 _ _ _ (.int .i64 e) (aJ8 (aJ8 (aJ8 (aJ8 hb _) _) _) _)).trans ?_;simp
 exact aB6 (aE6 (((((Below.refl _ _).alloc (Nat.le_refl _) _).alloc (by simp) _).alloc (by simp; omega) _).alloc (by simp; omega) _) _) (aD9 _ _ _ _)
theorem bA2 (s : Tx) (w : World) (hs : s.size ≤ 3000000) (hT : aG9 w) (hLN : aH5 w) (hH : aN9 w) :
  Calls prog 167 #[.string s] w fun e w' => cI9 s w e w' := by
 have b8 := hid hs;have b9 : Hid (∀ W, Bw w W → aG9 W) := fun W h => hT.below h
 have c0 : Hid (∀ W, Bw w W → aH5 W) := fun W h => hLN.below h hLN.lt
 have c1 : Hid (∀ W, Bw w W → aN9 W) := fun W h => hH.below h
 clear hs hT hLN hH;have K0 := jnil w;go_enter func167, ntmps167;go_wp2_with fail
 refine (bV6 s _ b8.out (b9.out _ K0.hb) (c0.out _ K0.hb)).mono ?_;rintro e w1 ⟨qq, bb, ev, rfl, b3, bw, b4⟩;have c2 := hid b3;have a7 := hid b4;clear b3 b4;have K1 := jw K0 bw;clear bw K0;go_upto_region 2 with fail
 obtain ⟨q1, a8⟩ := exq (w1.heap.size);obtain ⟨w2, a1⟩ := exq (w1.alloc (.cells #[.int .i64 qq, .string bb] 275));have a9 := a8.symm;rw [← a1]; try rw [← a8];have c3 := hsa a1 a9;have bw := bal a1;have K2 := ja K1 a1 a9;clear bw a1 a9 K1;clear c3 a8;go_upto_region 3 with fail
 obtain ⟨q2, b0⟩ := exq (w2.heap.size);obtain ⟨w3, a2⟩ := exq (w2.alloc (.cells #[.int .i64 0] 279));have a6 := b0.symm;rw [← a2]; try rw [← b0];have c4 := hsa a2 a6;have bw := bal a2;have K3 := ja K2 a2 a6;have a3 : Hid (q1 ≠ q2) := fun e => by have h1 := (Array.getElem?_eq_some_iff.1 (jb K2 0 rfl)).1; omega
 have c5 : Hid (w.heap.size ≤ q2) := by show _ ≤ _; rw [← a6]; exact K2.hb.size
 clear bw a2 a6 K2;clear c4 b0;rcases a7.out with ⟨hK, rfl⟩ | ⟨hK, pn, rfl⟩
 ·have HK := hid hK;clear hK a7;go_wp2_with fail
  refine (dT0 _ _).mono ?_;rintro e w4 ⟨rfl, b5⟩;have bw : Below w3.heap.size (w3) w4 := by rw [b5]; exact Below.refl _ _
  clear b5;have K4 := jw K3 bw;have c6 := hsz bw;clear bw K3;go_upto_region 5 with fail
  refine wp_region_held_drew (S := fun W => W.heap[q1]? = some (.cells #[.int .i64 qq, .string bb] 275)) (by kernel_rfl) (jb K4 1 rfl) (fun _ => ?_)
  obtain ⟨w5, hX⟩ := exq w4.drew;have bw := bdr hX;rw [← hX];have K5 := jw K4 bw;have a4 := (jb K5 1 rfl);clear bw hX K4;refine tkP 0 (.pointer (some ⟨q1, 0, none⟩)) 16 rfl rfl a4 ?_;go_frame;refine tkL 1 (.int .i64 qq) 17 rfl rfl (Or.inl ⟨by rfl, by intro W hW; have a0 := hW; have y0 := c2c a0; go_simp⟩) a4 ?_;go_frame;refine tkP 2 (.pointer (some ⟨q1, 1, none⟩)) 18 rfl rfl a4 ?_;go_frame;refine tkL 3 (.string bb) 19 rfl rfl (Or.inl ⟨by rfl, by intro W hW; have a0 := hW; have y1 := c2c a0; go_simp⟩) a4 ?_;go_frame;refine rd1 4 rfl (fun K hK => ?_)
  go_simp;refine (aF3 bb _ (by have := c2.out; omega)).mono ?_;rintro e w6 ⟨rfl, bw⟩;have K6 := jw K5 bw;clear bw K5;have a5 := (jb K6 1 rfl);refine hK.out _ _ a5 (fun _ => ?_)
  clear hK K a4;refine tkP 5 (.int .i64 qq) 2 rfl rfl a5 (tkP 6 (.string bb) 3 rfl rfl a5 (tkP 7 (.bool true) 4 rfl rfl a5 ?_));go_frame;clear a5;refine wdn ?_;go_wp2_with fail
  refine bodyPost_ret (v := .tuple #[.int .i64 qq, .string bb, .bool true]) (by simp [results, results167, go_sem]) rfl ?_;exact ⟨K6.hb, .inl ⟨_, _, HK.out, rfl⟩⟩
 have HK := hid hK;clear hK a7;go_wp2_with fail
 refine (dG2 pn _ 0 _ (c1.out _ K3.hb) (jb K3 0 rfl)).mono ?_;rintro e w4 ⟨rfl, b6, hg⟩;have b7 : Bw w (w4) := K3.hb.grown hg K3.hb.size (by intro k hk; cases hk; exact c5.out);have c6 := hid hg.size;have b1 : Hid (w4.heap[q1]? = some (.cells #[.int .i64 qq, .string bb] 275)) := (hg.block _ (Array.getElem?_eq_some_iff.1 (jb K3 1 rfl)).1 (fun e => a3.out (Option.some.inj e))).trans (jb K3 1 rfl)
 have b2 := hid b6;have K4 := jz K3 b7 (jzb b2.out (jzb b1.out (jzn _)));clear hg b6 K3;go_wp2_with fail
 refine bodyPost_ret (v := .tuple #[.int .i64 0, .string ⟨#[]⟩, .bool false]) (by simp [results, results167, go_sem]) rfl ?_;exact ⟨b7, .inr ⟨HK.out, rfl⟩⟩
def aE1 (l : Ts) : Array Value := (l.map Value.string).toArray
def aP1 : Ts := List.replicate 20 ⟨#[]⟩
def aP3 (l : Ts) (x : Int) (t : Tx) : Ts := if 0 ≤ x ∧ x < 20 then l.set x.toNat t else l
def dT4 (l : Ts) (w : World) (e : Ending) (w' : World) : Prop := e = .returned (.agg (aE1 l)) ∧ Below w.heap.size w w'
theorem aH4 (l : Ts) : (aE1 l).size = l.length := by simp [aE1]
theorem bH3 (l : Ts) (i : Nat) (h : i < l.length) : (aE1 l)[i]? = some (.string (aA7 l i)) := by
 unfold aE1;rw [List.getElem?_toArray, List.getElem?_map, aU9 l i h];rfl
theorem cY1 (l : Ts) (i : Nat) (t : Tx) : (aE1 l).setIfInBounds i (.string t) = aE1 (l.set i t) := by
 unfold aE1;rw [List.setIfInBounds_toArray, List.map_set]
theorem bA3 : aP1.length = 20 := rfl
theorem bT3 : aE1 aP1 = #[.string ⟨#[]⟩, .string ⟨#[]⟩, .string ⟨#[]⟩, .string ⟨#[]⟩, .string ⟨#[]⟩, .string ⟨#[]⟩, .string ⟨#[]⟩, .string ⟨#[]⟩, .string ⟨#[]⟩, .string ⟨#[]⟩, .string ⟨#[]⟩, .string ⟨#[]⟩, .string ⟨#[]⟩, .string ⟨#[]⟩, .string ⟨#[]⟩, .string ⟨#[]⟩, .string ⟨#[]⟩, .string ⟨#[]⟩, .string ⟨#[]⟩, .string ⟨#[]⟩] := rfl
theorem bT4 (l : Ts) (x : Int) (t : Tx) : (aP3 l x t).length = l.length := by
 unfold aP3;split
 ·exact List.length_set
 rfl
theorem bH4 {l : Ts} (h : l.length = 20) : (prog.info? 125).map (·.size) = some (aE1 l).size := by
 rw [aH4, h];kernel_rfl
theorem aW3 (l : Ts) : (aE1 l).all (·.oneCell') = true := by
 unfold aE1;rw [List.all_toArray, List.all_eq_true];intro v hv;obtain ⟨a, _, rfl⟩ := List.mem_map.1 hv;rfl
theorem below_setRow {B : Nat} {a w : World} (h : Below B a w) (g : Nat) (cs : Array Value) (hg : B ≤ g) : Below B a (w.setRow g cs) :=
 h.trans ⟨rfl, rfl, rfl, by simp, fun k hk => setRow_other w g k cs (by omega)⟩
theorem new1 {w : World} {A B C : Obj} : (((w.alloc A).alloc B).alloc C).heap[w.heap.size]? = some A := aJ8 (aJ8 (heap_alloc_new w A) B) C
theorem new2 {w : World} {A B C : Obj} : (((w.alloc A).alloc B).alloc C).heap[w.heap.size + 1]? = some B := aJ8 (heap_alloc2_new w A B) C
theorem new3 {w : World} {A B C : Obj} : (((w.alloc A).alloc B).alloc C).heap[w.heap.size + 1 + 1]? = some C := by
 have h := heap_alloc_new ((w.alloc A).alloc B) C;have e : ((w.alloc A).alloc B).heap.size = w.heap.size + 1 + 1 := by simp
 rwa [e] at h
theorem dG3 {w : World} {A B C : Obj} : Below w.heap.size w (((w.alloc A).alloc B).alloc C) :=
 (((Below.refl _ _).alloc (Nat.le_refl _) _).alloc (by simp) _).alloc (by simp; omega) _
theorem cF2 (l : Ts) (hl : l.length = 20) (x : Int) (t : Tx) (w : World) :
  Calls prog 82 #[.agg (aE1 l), .agg #[.int .i64 x, .string t]] w fun e w' => dT4 (aP3 l x t) w e w' := by
 have HL := hid hl;have a0 : Hid ((aP3 l x t).length = 20) := (bT4 l x t).trans hl;clear hl;go_enter func82, ntmps82;go_upto_region 1 with fail
 obtain ⟨w3, a1⟩ := exq (((w.alloc (.cells (aE1 l) 125)).alloc (.cells #[.int .i64 x, .string t] 128)).alloc (.cells #[.string ⟨#[]⟩, .string ⟨#[]⟩, .string ⟨#[]⟩, .string ⟨#[]⟩, .string ⟨#[]⟩, .string ⟨#[]⟩, .string ⟨#[]⟩, .string ⟨#[]⟩, .string ⟨#[]⟩, .string ⟨#[]⟩, .string ⟨#[]⟩, .string ⟨#[]⟩, .string ⟨#[]⟩, .string ⟨#[]⟩, .string ⟨#[]⟩, .string ⟨#[]⟩, .string ⟨#[]⟩, .string ⟨#[]⟩, .string ⟨#[]⟩, .string ⟨#[]⟩] 125));rw [← a1];have a3 : Hid (Bw w w3) := by rw [a1]; exact dG3
 have hA : w3.heap[w.heap.size]? = some (.cells (aE1 l) 125) := by rw [a1]; exact new1
 have hB : w3.heap[w.heap.size + 1]? = some (.cells #[.int .i64 x, .string t] 128) := by rw [a1]; exact new2
 have hC : w3.heap[w.heap.size + 1 + 1]? = some (.cells (aE1 aP1) 125) := by rw [a1]; exact new3
 obtain ⟨q, hq⟩ := exq (w.heap.size);have HQ : Hid (w.heap.size ≤ q) := by rw [hq]; exact Nat.le_refl _
 rw [← hq] at hA hB hC;rw [← hq];have HA := hid hA;have HC := hid hC;have c0 := (aA1 hB 0);have c1 := (aA1 hB 1);simp only [List.getElem?_toArray, List.getElem?_cons_zero, List.getElem?_cons_succ] at c0 c1
 clear a1 hA hB hC hq;by_cases h0 : 0 ≤ x
 rotate_left
 ·have HE : Hid (aP3 l x t = l) := by unfold aP3; rw [Hid, if_neg (fun h => h0 h.1)]
  go_upto_region 3 with fail
  clear c0 c1 h0;rw [← HE.out] at HA;go_wp2_with (first | refine wpList_load_row rfl 125 _ rfl q rfl 125 _ (0, 0) _ HA.out underlying125 rfl (bH4 a0.out) ?_ | refine wpList_store_row rfl 125 _ _ rfl (q + 1 + 1) _ rfl rfl 125 _ HC.out (bH4 a0.out) (by rw [aH4, aH4, a0.out, bA3]) (aW3 _) ?_)
  exact bodyPost_ret (v := .agg (aE1 (aP3 l x t))) (results_cell_row results82 _ _ (q + 1 + 1) 125 _ (0, 0) _ rfl (setRow_heap _ _ _ _ _ _ HC.out) underlying125 rfl (bH4 a0.out)) rfl ⟨rfl, below_setRow a3.out _ _ (Nat.le_trans HQ.out (by omega))⟩
 by_cases h1 : x < 20
 rotate_left
 ·have HE : Hid (aP3 l x t = l) := by unfold aP3; rw [Hid, if_neg (fun h => h1 h.2)]
  go_upto_region 3 with fail
  clear c0 c1 h0 h1;rw [← HE.out] at HA;go_wp2_with (first | refine wpList_load_row rfl 125 _ rfl q rfl 125 _ (0, 0) _ HA.out underlying125 rfl (bH4 a0.out) ?_ | refine wpList_store_row rfl 125 _ _ rfl (q + 1 + 1) _ rfl rfl 125 _ HC.out (bH4 a0.out) (by rw [aH4, aH4, a0.out, bA3]) (aW3 _) ?_)
  exact bodyPost_ret (v := .agg (aE1 (aP3 l x t))) (results_cell_row results82 _ _ (q + 1 + 1) 125 _ (0, 0) _ rfl (setRow_heap _ _ _ _ _ _ HC.out) underlying125 rfl (bH4 a0.out)) rfl ⟨rfl, below_setRow a3.out _ _ (Nat.le_trans HQ.out (by omega))⟩
 have HE : Hid (aP3 l x t = l.set x.toNat t) := by unfold aP3; rw [Hid, if_pos ⟨h0, h1⟩]
 have c2 : w3.cell? ⟨q, x.toNat, none⟩ = some (.string (aA7 l x.toNat)) := (aA1 HA.out _).trans (bH3 l _ (by rw [HL.out]; omega));have c3 := aA2 HA.out x.toNat;go_upto_region 3 with fail
 obtain ⟨w4, a2⟩ := exq (w3.setCell ⟨q, x.toNat, none⟩ (.string t));rw [← a2]
 have a5 : Hid (w4.heap[q]? = some (.cells (aE1 (aP3 l x t)) 125)) := by
  rw [Hid, a2, HE.out, ← cY1]
  exact heap_setCell_same w3 q _ _ 125 _ HA.out
 have a4 : Hid (w4.heap[q + 1 + 1]? = some (.cells (aE1 aP1) 125)) := by
  rw [Hid, a2, heap_setCell_other w3 _ _ _ (by simp; omega)]
  exact HC.out
 have a6 : Hid (Bw w w4) := by rw [a2]; exact a3.out.setCell HQ.out _
 clear a2 HA HC a3 c0 c1 c2 c3 h0 h1;go_wp2_with (first | refine wpList_load_row rfl 125 _ rfl q rfl 125 _ (0, 0) _ a5.out underlying125 rfl (bH4 a0.out) ?_ | refine wpList_store_row rfl 125 _ _ rfl (q + 1 + 1) _ rfl rfl 125 _ a4.out (bH4 a0.out) (by rw [aH4, aH4, a0.out, bA3]) (aW3 _) ?_)
 exact bodyPost_ret (v := .agg (aE1 (aP3 l x t))) (results_cell_row results82 _ _ (q + 1 + 1) 125 _ (0, 0) _ rfl (setRow_heap _ _ _ _ _ _ a4.out) underlying125 rfl (bH4 a0.out)) rfl ⟨rfl, below_setRow a6.out _ _ (Nat.le_trans HQ.out (by omega))⟩
theorem cP6 (l : Ts) (hl : l.length = 20) (o : Oa) (n c : Nat) (ws : List (Int × ByteArray)) (w : World) (h : aV6 w o n ws) (hn : n ≤ 2000000) (hok : ∀ x ∈ ws, 0 ≤ x.1 ∧ x.1 ≤ 19) :
  Calls prog 113 #[.agg (aE1 l), .slice o n c] w fun e w' => dT4 (aI5 l ws (fun _ => true) ws.length) w e w' := by
 have HL := hid hl;have HW := hid h;have a8 := hid hok;have a0 : Hid (∀ k, (aI5 l ws (fun _ => true) k).length = 20) := fun k => (aV8 l ws _ k).trans hl
 clear hl h hok;go_enter func113, ntmps113;go_upto_region 1 with fail
 obtain ⟨w2, a1⟩ := exq ((w.alloc (.cells (aE1 l) 125)).alloc (.cells #[.string ⟨#[]⟩, .string ⟨#[]⟩, .string ⟨#[]⟩, .string ⟨#[]⟩, .string ⟨#[]⟩, .string ⟨#[]⟩, .string ⟨#[]⟩, .string ⟨#[]⟩, .string ⟨#[]⟩, .string ⟨#[]⟩, .string ⟨#[]⟩, .string ⟨#[]⟩, .string ⟨#[]⟩, .string ⟨#[]⟩, .string ⟨#[]⟩, .string ⟨#[]⟩, .string ⟨#[]⟩, .string ⟨#[]⟩, .string ⟨#[]⟩, .string ⟨#[]⟩] 125));rw [← a1];have a3 : Bw w w2 := by rw [a1]; exact ((Below.refl _ _).alloc (Nat.le_refl _) _).alloc (by simp) _
 have hA : w2.heap[w.heap.size]? = some (.cells (aE1 l) 125) := by rw [a1]; exact aJ8 (heap_alloc_new _ _) _
 have hC : w2.heap[w.heap.size + 1]? = some (.cells (aE1 aP1) 125) := by rw [a1]; exact heap_alloc2_new _ _ _
 obtain ⟨q, hq⟩ := exq (w.heap.size);have HQ := hid hq.symm;rw [← hq] at hA hC;rw [← hq];have H0 : Hid (Bw w w2 ∧ w2.heap[q]? = some (.cells (aE1 l) 125) ∧ w2.heap[q + 1]? = some (.cells (aE1 aP1) 125)) := ⟨a3, hA, hC⟩;clear a1 a3 hA hC hq;go_wp2_with fail
 go_loopw [9] (fun i wr => ∃ j : Nat, j ≤ n ∧ i = .int .i64 (j : Int) ∧ Hid (Bw w wr ∧ wr.heap[q]? = some (.cells (aE1 (aI5 l ws (fun _ => true) j)) 125) ∧ wr.heap[q + 1]? = some (.cells (aE1 aP1) 125))) (fun i _ => n - (intOf i).toNat)
 case atStart => exact ⟨0, Nat.zero_le _, rfl, H0⟩
 case round =>
  obtain ⟨j, hj, rfl, H1⟩ := hrel;clear H0;by_cases hlt : (j : Int) < (n : Int)
  rotate_left
  ·obtain rfl : j = n := by omega
   have a2 : Hid (ws.length = j) := HW.out.1;go_upto_region 6 with fail
   go_wp2_with (first | refine wpList_load_row rfl 125 _ rfl q rfl 125 _ (0, 0) _ H1.out.2.1 underlying125 rfl (bH4 (a0.out j)) ?_ | refine wpList_store_row rfl 125 _ _ rfl (q + 1) _ rfl rfl 125 _ H1.out.2.2 (bH4 (a0.out j)) (by rw [aH4, aH4, (a0.out j), bA3]) (aW3 _) ?_)
   rw [a2.out];exact bodyPost_ret (v := .agg (aE1 (aI5 l ws (fun _ => true) j))) (results_cell_row results113 _ _ (q + 1) 125 _ (0, 0) _ rfl (setRow_heap _ _ _ _ _ _ H1.out.2.2) underlying125 rfl (bH4 (a0.out j))) rfl ⟨rfl, below_setRow H1.out.1 _ _ (Nat.le_trans (Nat.le_of_eq HQ.out) (by omega))⟩
  have a4 : j < ws.length := by rw [HW.out.1]; omega
  obtain ⟨g, rfl, hg, r0, r1⟩ := (HW.out.below (H1.out.1)).2 j (by omega);obtain ⟨y, hy⟩ := exq (aC6 ws j)
  have a2 : Hid (aI5 l ws (fun _ => true) (j + 1) = aP3 (aI5 l ws (fun _ => true) j) y.1 y.2) := by
   have hm := a8.out _ (aJ1 ws j a4)
   rw [Hid, hy, aP3, if_pos ⟨hm.1, by omega⟩, aI5, if_pos rfl]
  rw [← hy] at r0 r1;obtain ⟨y0, y1⟩ := y;simp only at r0 r1
  clear hy a4;go_upto_region 4 with fail
  go_wp2_with (first | refine wpList_load_row rfl 125 _ rfl q rfl 125 _ (0, 0) _ (aJ8 H1.out.2.1 _) underlying125 rfl (bH4 (a0.out j)) ?_)
  refine (cF2 (aI5 l ws (fun _ => true) j) (a0.out j) y0 y1 _).mono ?_
  rintro e w4 ⟨rfl, bw⟩;have a5 := aA6 (aJ8 H1.out.2.1 _) bw;have a9 : Hid (Bw w w4) := (H1.out.1.alloc H1.out.1.size _).trans (bw.mono (Nat.le_trans H1.out.1.size (by simp)));have b0 : Hid (w4.heap[q + 1]? = some (.cells (aE1 aP1) 125)) := aA6 (aJ8 H1.out.2.2 _) bw;have a6 := hid a5;have a7 : Hid ((aP3 (aI5 l ws (fun _ => true) j) y0 y1).length = 20) := (bT4 _ _ _).trans (a0.out j)
  clear bw a5 H1 r0 r1;go_wp2_with (first | refine wpList_store_row rfl 125 _ _ rfl q _ rfl rfl 125 _ a6.out (bH4 a7.out) (by rw [aH4, aH4, a7.out, (a0.out j)]) (aW3 _) ?_)
  have HE : Hid (Bw w (w4.setRow q (aE1 (aP3 (aI5 l ws (fun _ => true) j) y0 y1))) ∧ (w4.setRow q (aE1 (aP3 (aI5 l ws (fun _ => true) j) y0 y1))).heap[q]? = some (.cells (aE1 (aI5 l ws (fun _ => true) (j + 1))) 125) ∧ (w4.setRow q (aE1 (aP3 (aI5 l ws (fun _ => true) j) y0 y1))).heap[q + 1]? = some (.cells (aE1 aP1) 125)) := by
   refine ⟨below_setRow a9.out _ _ (Nat.le_of_eq HQ.out), ?_, ?_⟩
   ·rw [a2.out]; exact setRow_heap _ _ _ _ _ _ a6.out
   ·rw [setRow_other _ _ _ _ (by omega)]; exact b0.out
  go_roundw
  case rel => exact ⟨j + 1, by omega, by go_num, HE⟩
  case measure => simp [intOf]; omega
end Go.Proofs.YtiobfnpmidjijaaGreatDoor
