/- What the proof of FnExactBanish leans on: contracts of the program's and the specification's functions, and plain facts (part 6 of 11). -/
import Derived.Test.YtejoifianjgefaaGreatDoorFnExactBanishE
set_option maxHeartbeats 16000000
set_option maxRecDepth 100000
namespace Go.Proofs.YtejoifianjgefaaGreatDoor
open Go.Proofs.Tryz
open Go.RowKit
open Go.Lib hiding intOf
theorem bH6 (oa : Oa) (n cap : Nat) (l : Bs) (p : Tx) (o1 : Oa) (n1 c1 : Nat) (xs : Ts) (o2 : Oa) (n2 c2 : Nat) (ys : Ts) (st : Int) (v3 : Value) (n3 base : Nat) (fs : Fs) (d : Tx) (u : Int) (w : World) (hl : BanA w oa n l) (hn : n ≤ 2000000) (hlz : ∀ x ∈ l, x.2.1.size ≤ maxLen ∧ x.2.2.1.size ≤ maxLen) (h1 : aC4 w o1 n1 xs) (h2 : aC4 w o2 n2 ys) (h3 : aB3 w base v3 n3 fs) (hn1 : n1 ≤ 2000000) (hn2 : n2 ≤ 2000000) (hn3 : n3 ≤ 2000000) (hs1 : ∀ i, i < n1 → (aA8 xs i).size ≤ maxLen) (hs2 : ∀ i, i < n2 → (aA8 ys i).size ≤ maxLen) (hs3 : aP6 n3 fs) (hc : aT2 fs) (hp : p.size ≤ maxLen) (hx : d.size ≤ maxLen) (hg : (getV fs aF0).size ≤ 1048576) :
  Calls prog 79 #[.slice oa n cap, .agg #[.string p, .slice o1 n1 c1, .slice o2 n2 c2, .int .i64 st, v3, .string d, .int .i64 u]] w fun e w' => aA4 (AnyP l p xs ys st fs d u) w e w' := by
 obtain ⟨o3, c3, rfl, _⟩ := h3.slice;have HL : Hid (∀ W, Bw w W → BanA W oa n l) := fun W h => hl.below h
 have c7 : Hid (l.length = n) := hl.1
 have HC : Hid (∀ (k : Int) (a b : Tx) (t : Int) (W : World), Bw w W → a.size ≤ maxLen → b.size ≤ maxLen → Calls prog 144 #[.agg #[.int .i64 k, .string a, .string b, .int .i64 t], .agg #[.string p, .slice o1 n1 c1, .slice o2 n2 c2, .int .i64 st, .slice o3 n3 c3, .string d, .int .i64 u]] W fun e w' => aA4 (HitP k a b t p xs ys st fs d u) W e w') := fun k a b t W h ha hb =>
  bU2 k a b t p o1 n1 c1 xs o2 n2 c2 ys st _ n3 base fs d u W ha hb (h1.below h) (h2.below h) (h3.below h) hn1 hn2 hn3 hs1 hs2 hs3 hc hp hx hg
 have c8 := hid hlz;clear hl hlz h1 h2 h3 hs1 hs2 hs3 hc hp hx hg;have K0 := jnil w;go_enter func79, ntmps79;go_upto_region 1 with fail
 obtain ⟨q1, a7⟩ := exq (w.heap.size);obtain ⟨w1, a3⟩ := exq (w.alloc (.cells #[.string p, .slice o1 n1 c1, .slice o2 n2 c2, .int .i64 st, .slice o3 n3 c3, .string d, .int .i64 u] 51));have a8 := a7.symm;rw [← a3]; try rw [← a7];have hs1 := hsa a3 a8;have bw := bal a3;have K1 := ja K0 a3 a8;clear bw a3 a8 K0;clear hs1 a7;go_wp2_with fail
 go_loopw [9] (fun i wr => ∃ j : Nat, j ≤ n ∧ i = .int .i64 (j : Int) ∧ Hid (Bw w wr ∧ wr.heap[q1]? = some (.cells #[.string p, .slice o1 n1 c1, .slice o2 n2 c2, .int .i64 st, .slice o3 n3 c3, .string d, .int .i64 u] 51)) ∧ Hid (∀ x ∈ l.take j, ¬ HitP x.1 x.2.1 x.2.2.1 x.2.2.2 p xs ys st fs d u)) (fun i _ => n - (intOf i).toNat)
 case atStart => exact ⟨0, Nat.zero_le _, rfl, ⟨K1.hb, (jb K1 0 rfl)⟩, fun x hx => by simp at hx⟩
 case round =>
  obtain ⟨j, hj, rfl, HW, HN⟩ := hrel;by_cases hlt : (j : Int) < (n : Int)
  rotate_left
  ·have a4 := HW.out.1;have a5 := hid HW.out.2;clear HW
   have HA : Hid (¬ AnyP l p xs ys st fs d u) := by
    rintro ⟨x, hx, h⟩
    have h2 := HN.out
    rw [List.take_of_length_le (by rw [c7.out]; omega)] at h2
    exact h2 x hx h
   clear HN;go_wp2_with fail
   go_ret;exact aA4.no HA.out a4
  have a4 := HW.out.1;have a5 := hid HW.out.2;clear HW;have a9 : j < l.length := by rw [c7.out]; omega
  obtain ⟨g, c9, d0, r0, r1, r2, r3⟩ := (HL.out wr a4).2 j (by omega);subst c9;obtain ⟨y, hy⟩ := exq (aF4 l j);rw [← hy] at r0 r1 r2 r3;have HM : Hid (y ∈ l) := by show _ ∈ _; rw [hy]; exact aR3 l j a9
  have d1 : Hid (l.take (j + 1) = l.take j ++ [y]) := by show _ = _; rw [hy]; exact aR4 l j a9
  have HZ : Hid (y.2.1.size ≤ maxLen ∧ y.2.2.1.size ≤ maxLen) := c8.out y HM.out;clear hy a9 d0;obtain ⟨y0, y1, y2, y3⟩ := y;go_upto_region 4 with fail
  obtain ⟨q2, b0⟩ := exq (wr.heap.size);obtain ⟨w3, a6⟩ := exq (wr.alloc (.cells #[.int .i64 y0, .string y1, .string y2, .int .i64 y3] 62));have b1 := b0.symm;rw [← a6]; try rw [← b0];have hs3 := hsa a6 b1;have bw := bal a6;have b2 := hbt a4 bw;have a0 := hblk a5 bw;have a1 := hnew a6 b1;clear a4 bw a6 b1;clear hs3 b0;clear r0 r1 r2 r3;have b3 := (k7c a0).1;have b4 := (k7c a0).2.1;have b5 := (k7c a0).2.2.1;have b6 := (k7c a0).2.2.2.1;have b7 := (k7c a0).2.2.2.2.1;have b8 := (k7c a0).2.2.2.2.2.1;have b9 := (k7c a0).2.2.2.2.2.2;have c0 := (k4c a1).1;have c4 := (k4c a1).2.1;have c5 := (k4c a1).2.2.1;have c6 := (k4c a1).2.2.2;have K3 := jz K1 b2 (jzb a0.out (jzn _));go_wp2_with fail
  refine (HC.out y0 y1 y2 y3 _ b2 HZ.out.1 HZ.out.2).mono ?_;rintro e w4 ⟨uh, rfl, a2, bw⟩;have K4 := jw K3 bw;clear b2 bw K3;clear b3 b4 b5 b6 b7 b8 b9 c0 c4 c5 c6;cases uh
  rotate_left
  ·have HA : Hid (AnyP l p xs ys st fs d u) := ⟨_, HM.out, a2.1 rfl⟩;clear a2 HN;go_wp2_with fail
   go_ret;exact ⟨true, rfl, ⟨fun _ => HA.out, fun _ => rfl⟩, K4.hb⟩
  have d2 : Hid (∀ x ∈ l.take (j + 1), ¬ HitP x.1 x.2.1 x.2.2.1 x.2.2.2 p xs ys st fs d u) := by
   intro x hx
   rw [d1.out] at hx
   rcases List.mem_append.1 hx with hx | hx
   ·exact HN.out x hx
   ·rw [List.mem_singleton.1 hx]; exact fun h => nomatch a2.2 h
  clear a2 HN;go_wp2_with fail
  go_roundw
  case rel => exact ⟨j + 1, by omega, by go_num, ⟨K4.hb, (jb K4 0 rfl)⟩, d2⟩
  case measure => simp [intOf]; omega
theorem bY6 (k : KpD) (v1 v2 v3 : Value) (w : World) (h : aR7 w k v1 v2 v3) (hs : aF9 k) :
  Calls prog 107 #[.agg #[.string k.p, v1, v2, .int .i64 k.st, v3, .string k.b, .int .i64 k.t]] w fun e w' => aA4 (ObjK k) w e w' := by
 obtain ⟨B, h⟩ := h;have ho : ObjO w B v1 k.xs.length k.xs v2 k.ys.length k.ys v3 k.fs.length k.fs := aH3 h;obtain ⟨o1, c1, rfl⟩ := aA0 ho.names;obtain ⟨o2, c2, rfl⟩ := aA0 ho.vals;exact aN6 k.p o1 _ c1 k.xs o2 _ c2 k.ys k.st v3 _ B k.fs k.b k.t w (aF1 ho.names) (aF1 ho.vals) (aB3.of_owns ho.flds) (by have := hs.2.1.1; omega) (by have := hs.2.2.1.1; omega) (by have := hs.2.2.2.1; omega) (aJ4 hs.2.1.2) (aJ4 hs.2.2.1.2) (aW4 hs) (bB2 hs) (by have := hs.1.1; unfold maxLen; omega) (by have := hs.1.2; unfold maxLen; omega) (aZ1 hs _)
theorem bP4 (oa : Oa) (n cap : Nat) (l : Bs) (k : KpD) (v1 v2 v3 : Value) (w : World) (hl : BanA w oa n l) (hn : n ≤ 2000000) (hlz : ∀ x ∈ l, x.2.1.size ≤ maxLen ∧ x.2.2.1.size ≤ maxLen) (h : aR7 w k v1 v2 v3) (hs : aF9 k) :
  Calls prog 79 #[.slice oa n cap, .agg #[.string k.p, v1, v2, .int .i64 k.st, v3, .string k.b, .int .i64 k.t]] w fun e w' => aA4 (AnyK l k) w e w' := by
 obtain ⟨B, h⟩ := h;have ho : ObjO w B v1 k.xs.length k.xs v2 k.ys.length k.ys v3 k.fs.length k.fs := aH3 h;obtain ⟨o1, c1, rfl⟩ := aA0 ho.names;obtain ⟨o2, c2, rfl⟩ := aA0 ho.vals;exact bH6 oa n cap l k.p o1 _ c1 k.xs o2 _ c2 k.ys k.st v3 _ B k.fs k.b k.t w hl hn hlz (aF1 ho.names) (aF1 ho.vals) (aB3.of_owns ho.flds) (by have := hs.2.1.1; omega) (by have := hs.2.2.1.1; omega) (by have := hs.2.2.2.1; omega) (aJ4 hs.2.1.2) (aJ4 hs.2.2.1.2) (aW4 hs) (bB2 hs) (by have := hs.1.1; unfold maxLen; omega) (by have := hs.1.2; unfold maxLen; omega) (aZ1 hs _)
def Src (w : World) (size : Nat) (v : Value) (m : Nat) (news : List Value) : Prop :=
 news.length = m * size ∧ (∀ u ∈ news, u.oneCell' = true) ∧ ((v = .slice none 0 0 ∧ m = 0) ∨ ∃ ad c, v = .slice (some ad) m c ∧ ∀ j u, news[j]? = some u → w.cell? (ad.add j) = some u)
theorem Src.of_owns {w : World} {base : Nat} {t : TypeId} {size n : Nat} {v : Value} {xs : List Value} (h : w.ownsRow base t size v n xs) (h1 : ∀ u ∈ xs, u.oneCell' = true) : Src w size v n xs := by
 obtain ⟨hl, hv⟩ := h;refine ⟨hl, h1, ?_⟩;rcases hv with ⟨rfl, h0⟩ | ⟨g, a0, a2, rfl, hb, hg, hn, hm, a3, a1⟩
 ·exact .inl ⟨rfl, h0⟩
 refine .inr ⟨⟨g, 0, none⟩, a0, rfl, fun j u hj => ?_⟩
 have e : (⟨g, 0, none⟩ : Addr).add j = ⟨g, j, none⟩ := by unfold Addr.add; split <;> simp_all
 rw [e, ← a1, List.getElem?_take] at *;split at hj
 ·simpa [World.cell?, hg] using hj
 cases hj
theorem Src.texts {w : World} {base : Nat} {t : TypeId} {n : Nat} {v : Value} {xs : Ts} (h : w.ownsRow base t 1 v n (xs.map Value.string)) : Src w 1 v n (xs.map Value.string) :=
 Src.of_owns h (fun u hu => by obtain ⟨x, _, rfl⟩ := List.mem_map.1 hu; rfl)
theorem bK2 {P : Program} {w : World} (t ty : TypeId) (base : Nat) (e : TypeId) (i : TypeInfo) (z : Value) (size bytes : Nat) (ht : P.underlying t = some (.slice e)) (hi : P.info? e = some i) (hz : i.zero = some z)
  (hsize : i.size = size) (hby : i.bytes = bytes) (hzs : z.cells.size = size) (hsz : 0 < size)
  (v : Value) (n : Nat) (xs : List Value) (hown : w.ownsRow base e size v n xs) (x : Value) (m : Nat) (news : List Value) (hsrc : Src w size x m news)
  (h63 : n + m ≤ maxLen) (hbytes : (n + m) * bytes ≤ 140737488355328) (hbase : base ≤ w.heap.size) :
  ∃ v' w', (Builtin.append_ #[t, t] ty #[v, x]).run P w = .ok v' w' ∧ w'.ownsRow base e size v' (n + m) (xs ++ news) ∧ w.grownBy w' v.ownBlock := by
 obtain ⟨hl, h1, ⟨rfl, rfl⟩ | ⟨ad, c, rfl, a0⟩⟩ := hsrc
 ·have hn : news = [] := List.length_eq_zero_iff.1 (by omega);subst hn;exact ⟨v, w, run_append_owned_none (P := P) (w := w) base t ty e i size ht hi v n xs hown, by simpa using hown, World.grownBy.refl _ _⟩
 obtain ⟨v', w', hr, h2, h3, _, _⟩ := run_append_own_at (P := P) w base t ty e i z size bytes ht hi hz hsize hby hzs hsz v n xs hown ad m c news hl a0 h1 h63 hbytes hbase;exact ⟨v', w', hr, h2, h3⟩
theorem aZ4 {P : Program} {w : World} {o : Oper} {a : Act} {K : Act → World → Prop} {Q : Exit → Act → World → Prop} (s x : Operand) (t : TypeId)
  (ho : o.op = .call { callee := .builtin .append, args := #[s, x], argTypes := #[t, t] })
  (base : Nat) (e : TypeId) (i : TypeInfo) (z : Value) (size bytes : Nat) (ht : P.underlying t = some (.slice e)) (hi : P.info? e = some i) (hz : i.zero = some z)
  (hsize : i.size = size) (hby : i.bytes = bytes) (hzs : z.cells.size = size) (hsz : 0 < size)
  (v : Value) (n : Nat) (xs : List Value) (hs : a.eval s = v) (hown : w.ownsRow base e size v n xs) (y : Value) (m : Nat) (news : List Value) (hx : a.eval x = y) (hsrc : Src w size y m news)
  (h63 : n + m ≤ maxLen) (hbytes : (n + m) * bytes ≤ 140737488355328) (hbase : base ≤ w.heap.size)
  (h : ∀ v' w', w'.ownsRow base e size v' (n + m) (xs ++ news) → w.grownBy w' v.ownBlock → K (a.put o.dst v') w') : Oper.wp P o a w K Q := by
 obtain ⟨v', w', hr, h2, h3⟩ := bK2 (P := P) (w := w) t o.type base e i z size bytes ht hi hz hsize hby hzs hsz v n xs hown y m news hsrc h63 hbytes hbase;unfold Oper.wp execOp;simp only [ho, resolve, invoke, builtin, Sem.run_bind, Sem.run_pure, Result.andThen_ok, List.map_toArray, List.map_cons, List.map_nil, hs, hx, hr]
 exact h v' w' h2 h3
theorem aL7 {P : Program} {w : World} {ops : Array Oper} {rest : List Oper} {o : Oper} {a : Act} {Q : Exit → Act → World → Prop} (hgd : o.guard = none) (s x : Operand) (t : TypeId)
  (ho : o.op = .call { callee := .builtin .append, args := #[s, x], argTypes := #[t, t] })
  (base : Nat) (e : TypeId) (i : TypeInfo) (z : Value) (size bytes : Nat) (ht : P.underlying t = some (.slice e)) (hi : P.info? e = some i) (hz : i.zero = some z)
  (hsize : i.size = size) (hby : i.bytes = bytes) (hzs : z.cells.size = size) (hsz : 0 < size)
  (v : Value) (n : Nat) (xs : List Value) (hs : a.eval s = v) (hown : w.ownsRow base e size v n xs) (y : Value) (m : Nat) (news : List Value) (hx : a.eval x = y) (hsrc : Src w size y m news)
  (h63 : n + m ≤ maxLen) (hbytes : (n + m) * bytes ≤ 140737488355328) (hbase : base ≤ w.heap.size)
  (h : ∀ v' w', w'.ownsRow base e size v' (n + m) (xs ++ news) → w.grownBy w' v.ownBlock → wpList P ops Q rest (a.put o.dst v') w') : wpList P ops Q (o :: rest) a w :=
 wpList_plain hgd fun _ hK => aZ4 s x t ho base e i z size bytes ht hi hz hsize hby hzs hsz v n xs hs hown y m news hx hsrc h63 hbytes hbase fun v' w' h2 h3 => hK _ _ (h v' w' h2 h3)
theorem aC3 {P : Program} {w : World} {ops : Array Oper} {o : Oper} {a : Act} {K : Act → World → Prop} {Q : Exit → Act → World → Prop} {E : Prop} (hgd : o.guard = none) (s x : Operand) (t : TypeId)
  (ho : o.op = .call { callee := .builtin .append, args := #[s, x], argTypes := #[t, t] })
  (base : Nat) (e : TypeId) (i : TypeInfo) (z : Value) (size bytes : Nat) (ht : P.underlying t = some (.slice e)) (hi : P.info? e = some i) (hz : i.zero = some z)
  (hsize : i.size = size) (hby : i.bytes = bytes) (hzs : z.cells.size = size) (hsz : 0 < size)
  (v : Value) (n : Nat) (xs : List Value) (hs : a.eval s = v) (hown : w.ownsRow base e size v n xs) (y : Value) (m : Nat) (news : List Value) (hx : a.eval x = y) (hsrc : Src w size y m news)
  (h63 : n + m ≤ maxLen) (hbytes : (n + m) * bytes ≤ 140737488355328) (hbase : base ≤ w.heap.size)
  (h : ∀ v' w', w'.ownsRow base e size v' (n + m) (xs ++ news) → w.grownBy w' v.ownBlock → K (a.put o.dst v') w') :
  if Region.wanted o (yielded ops a.tmps) = true then Oper.wp P o a w K Q else E := by
 have hw : Region.wanted o (yielded ops a.tmps) = true := by simp [Region.wanted, hgd]
 rw [if_pos hw];exact aZ4 s x t ho base e i z size bytes ht hi hz hsize hby hzs hsz v n xs hs hown y m news hx hsrc h63 hbytes hbase h
theorem bK3 (o1 : Oa) (n1 c1 : Nat) (v2 : Value) (n2 : Nat) (ws : List (Int × ByteArray)) (B : Nat) (w : World) (h : w.ownsRow B 155 2 v2 n2 (aA1 ws)) (hn2 : n2 ≤ 2000000) :
  Calls prog 65 #[.agg #[.slice o1 n1 c1, v2]] w fun e w' => aA4 (bX0 n1 ws) w e w' := by
 obtain ⟨oPx, pPx, rfl⟩ := aA0 h;have a2 := hid h;have b1 : Hid (ws.length = n2) := aM5 h;clear h;have K0 := jnil w;go_enter func65, ntmps65;go_upto_region 1 with fail
 obtain ⟨q1, b2⟩ := exq (w.heap.size);obtain ⟨w1, a6⟩ := exq (w.alloc (.cells #[.slice o1 n1 c1, .slice oPx n2 pPx] 39));have b3 := b2.symm;rw [← a6]; try rw [← b2];have c3 := hsa a6 b3;have bw := bal a6;have K1 := ja K0 a6 b3;have a3 := hown a2 bw;clear bw a6 b3 K0;clear c3 b2;go_wp2_with fail
 go_loopw [3] (fun i wr => ∃ j : Nat, j ≤ n2 ∧ i = .int .i64 (j : Int) ∧ Hid (Bw w (wr) ∧ wr.heap[q1]? = some (.cells #[.slice o1 n1 c1, .slice oPx n2 pPx] 39) ∧ wr.ownsRow B 155 2 (.slice oPx n2 pPx) n2 (aA1 ws)) ∧ Hid (∀ x ∈ ws.take j, 0 ≤ x.1 ∧ x.1 ≤ 19)) (fun i _ => n2 - (intOf i).toNat)
 case atStart => exact ⟨0, Nat.zero_le _, rfl, ⟨K1.hb, (jb K1 0 rfl), a3.out⟩, fun x hx => by simp at hx⟩
 case round =>
  obtain ⟨j, hj, rfl, HW, HN⟩ := hrel;by_cases hlt : (j : Int) < (n2 : Int)
  rotate_left
  ·have a5 := HW.out.1;have a1 := hid HW.out.2.1;have a0 : Hid (wr.ownsRow B 155 2 (.slice oPx n2 pPx) n2 (aA1 ws)) := HW.out.2.2;clear HW;have c4 : Hid (∀ x ∈ ws, 0 ≤ x.1 ∧ x.1 ≤ 19) := fun x hx => HN.out x (by rw [List.take_of_length_le (by rw [b1.out]; omega)]; exact hx)
   clear HN;have a7 := c2c a1.out;by_cases hc1 : (n1 : Int) = 20
   rotate_left
   ·have b4 : ((n1 : Int) == (20 : Int)) = false := by simpa using hc1
    have b5 : ((n1 : Int) != (20 : Int)) = true := by simpa using hc1
    have HE : Hid (¬ n1 = 20) := (by have := hc1; show ¬ _; omega);have b6 := hid hc1;clear hc1;have b7 := c2c a1.out;go_wp2_with fail
    go_ret;exact aA4.no (fun h => HE.out h.1) a5
   have b4 : ((n1 : Int) == (20 : Int)) = true := by simpa using hc1
   have b5 : ((n1 : Int) != (20 : Int)) = false := by simpa using hc1
   have HE : Hid (n1 = 20) := (by have := hc1; show _ = _; omega);have b6 := hid hc1;clear hc1;have b7 := c2c a1.out;by_cases hc2 : (n2 : Int) ≤ 16
   rotate_left
   ·have b8 : Hid (¬ n2 ≤ 16) := (by have := hc2; show ¬ _; omega);go_wp2_with fail
    go_ret;exact aA4.no (fun h => b8.out (by have := h.2.1; rw [b1.out] at this; exact this)) a5
   have b8 : Hid (n2 ≤ 16) := (by have := hc2; show _ ≤ _; omega);go_wp2_with fail
   go_ret;exact ⟨true, rfl, ⟨fun _ => ⟨HE.out, by rw [b1.out]; exact b8.out, c4.out⟩, fun _ => rfl⟩, a5⟩
  have a5 := HW.out.1;have a1 := hid HW.out.2.1;have a0 : Hid (wr.ownsRow B 155 2 (.slice oPx n2 pPx) n2 (aA1 ws)) := HW.out.2.2;clear HW;have b9 : j < ws.length := by rw [b1.out]; omega
  obtain ⟨g, rfl⟩ := aJ0 a0.out (by omega);obtain ⟨y, hy⟩ := exq (aC2 ws j);have HM : Hid (y ∈ ws) := by show _ ∈ _; rw [hy]; exact aI0 ws j b9
  have c5 : Hid (ws.take (j + 1) = ws.take j ++ [y]) := by show _ = _; rw [hy]; exact aP9 ws j b9
  have c6 : Hid (aC2 ws j = y) := hy.symm;clear hy b9;obtain ⟨y0, y1⟩ := y
  have a8 : Hid (∀ W : World, (W).ownsRow B 155 2 (.slice (some ⟨g, 0, none⟩) n2 pPx) n2 (aA1 ws) → (W.cell? ⟨g, j * 2, none⟩ = some (.int .i64 y0) ∧ W.cell? ⟨g, j * 2 + 1, none⟩ = some (.string y1))) := fun W h => by
   obtain ⟨g', hg, _, r0, r1⟩ := (aG0 h).2 j (by omega)
   cases hg
   rw [c6.out] at r0 r1
   exact ⟨r0, r1⟩
  obtain ⟨r0, r1⟩ := a8.out _ a0.out;have a7 := c2c a1.out;go_wp2_with fail
  refine (aH6 y0 0 19 _).mono ?_;rintro e w3 ⟨rfl, c2⟩;have bw : Below wr.heap.size (wr) w3 := by rw [c2]; exact Below.refl _ _
  clear c2;obtain ⟨uy, a9⟩ : ∃ u, u = decide ((0 : Int) ≤ y0 ∧ y0 ≤ 19) := ⟨_, rfl⟩;rw [← a9];have c0 := hbt a5 bw;have a4 := hown a0 bw;have b0 := hblk a1 bw;clear a5 bw;clear a7 r0 r1;have K3 := jz K1 c0 (jzb b0.out (jzn _));cases uy
  ·have c7 : Hid (¬ (0 ≤ y0 ∧ y0 ≤ 19)) := (show ¬ (0 ≤ y0 ∧ y0 ≤ 19) from of_decide_eq_false a9.symm);clear a9;go_wp2_with fail
   go_ret;exact aA4.no (fun h => c7.out (h.2.2 _ HM.out)) c0
  have HY : Hid (0 ≤ y0 ∧ y0 ≤ 19) := (show (0 ≤ y0 ∧ y0 ≤ 19) from of_decide_eq_true a9.symm);clear a9
  have c8 : Hid (∀ x ∈ ws.take (j + 1), 0 ≤ x.1 ∧ x.1 ≤ 19) := fun x hx => by
   rw [c5.out] at hx
   rcases List.mem_append.1 hx with hx | hx
   ·exact HN.out x hx
   ·rw [List.mem_singleton.1 hx]; exact HY.out
  go_wp2_with fail
  go_roundw
  case rel => exact ⟨j + 1, by omega, by go_num, ⟨c0, b0.out, a4.out⟩, c8⟩
  case measure => simp [intOf]; omega
theorem aQ7 (v1 v2 : Value) (n1 : Nat) (cs : Ts) (n2 : Nat) (ws : List (Int × ByteArray)) (B : Nat) (w : World) (h : aD3 w B v1 n1 cs v2 n2 ws) (_hn1 : n1 ≤ 2000000) (hn2 : n2 ≤ 2000000) :
  Calls prog 65 #[.agg #[v1, v2]] w fun e w' => aA4 (aG5 cs ws) w e w' := by
 obtain ⟨a0, a1, rfl⟩ := aA0 h.cells;have hl : cs.length = n1 := by have := h.cells.1; rw [List.length_map] at this; omega
 refine (bK3 a0 n1 a1 v2 n2 ws B w h.pend hn2).mono fun e w' hq => ?_
 show aA4 (bX0 cs.length ws) w e w'
 rw [hl];exact hq
theorem aL8 (v1 v2 : Value) (n1 : Nat) (cs : Ts) (n2 : Nat) (ws : List (Int × ByteArray)) (B : Nat) (w : World) (h : aD3 w B v1 n1 cs v2 n2 ws) (hn1 : n1 ≤ 2000000) (hn2 : n2 ≤ 2000000) :
  Calls prog 73 #[.agg #[v1, v2]] w fun e w' => aU3 cs ws w e w' := by
 obtain ⟨h9, i0, e8, e9, f0⟩ := info_parts bQ7;obtain ⟨i1, i2, f1, f2, f3⟩ := info_parts aV2;obtain ⟨d3, d4, rfl⟩ := aA0 h.cells;have f4 : Hid (w.ownsRow B 9 1 (.slice d3 n1 d4) n1 (cs.map Value.string)) := h.cells;have f5 : Hid (∀ g, (Value.ownBlock (.slice d3 n1 d4)) = some g → g < w.heap.size) := fun g hg => aA6 h.cells hg
 obtain ⟨d5, d6, rfl⟩ := aA0 h.pend;have f6 : Hid (w.ownsRow B 155 2 (.slice d5 n2 d6) n2 (aA1 ws)) := h.pend;have f7 : Hid (∀ g, (Value.ownBlock (.slice d5 n2 d6)) = some g → g < w.heap.size) := fun g hg => aA6 h.pend hg
 have i3 : Hid (cs.length = n1) := by have := h.cells.1; rw [List.length_map] at this; show _ = _; omega
 have i4 : Hid (ws.length = n2) := aM5 h.pend;clear h;have K0 := jnil w;go_enter func73, ntmps73;go_upto_region 1 with fail
 obtain ⟨q1, i5⟩ := exq (w.heap.size);obtain ⟨w1, h3⟩ := exq (w.alloc (.cells #[.slice d3 n1 d4, .slice d5 n2 d6] 39));have i6 := i5.symm;rw [← h3]; try rw [← i5];have j2 := hsa h3 i6;have bw := bal h3;have K1 := ja K0 h3 i6;have g6 := hsz bw;have f8 := hown f4 bw;have f9 := hown f6 bw;clear bw h3 i6 K0;obtain ⟨q2, i7⟩ := exq (q1 + 1);obtain ⟨w2, h4⟩ := exq (w1.alloc (.cells #[.slice none 0 0, .slice none 0 0] 39));have i8 : w1.heap.size = q2 := by rw [i7]; exact j2
 rw [← h4]; try rw [← i7];have j4 := hsa h4 i8;have bw := bal h4;have K2 := ja K1 h4 i8;have g7 := hsz bw;have g0 := hown f8 bw;have g1 := hown f9 bw;clear bw h4 i8 K1;clear j4 i7 j2 i5;go_upto_region 1 with fail
 refine wp_region_held_drew (S := fun W => W.heap[q1]? = some (.cells #[.slice d3 n1 d4, .slice d5 n2 d6] 39)) (by kernel_rfl) (jb K2 1 rfl) (fun _ => ?_)
 obtain ⟨w3, hX⟩ := exq w2.drew;have bw := bdr hX;rw [← hX];have K3 := jw K2 bw;have g8 := hsz bw;have d7 := hown g0 bw;have d8 := hown g1 bw;have g9 := (jb K3 1 rfl);clear bw hX K2;refine tkP 1 (.pointer (some ⟨q1, 0, none⟩)) 4 rfl rfl g9 ?_;go_frame;refine tkL 2 (.slice d3 n1 d4) 5 rfl rfl (Or.inl ⟨by rfl, by intro W hW; have g2 := hW; have y0 := c2c g2; go_simp⟩) g9 ?_;go_frame;refine tkP 5 (.pointer (some ⟨q1, 1, none⟩)) 8 rfl rfl g9 ?_;go_frame;refine tkL 6 (.slice d5 n2 d6) 9 rfl rfl (Or.inl ⟨by rfl, by intro W hW; have g2 := hW; have y1 := c2c g2; go_simp⟩) g9 ?_;go_frame;refine wpAnyH_ready (rs := [0, 4]) (by kernel_rfl) (by simp) ?_;refine AllReadyH.cons rfl (fun K hK => ?_) (AllReadyH.cons rfl (fun K hK => ?_) AllReadyH.nil)
 ·go_simp;have bw : Below w3.heap.size w3 (w3.alloc (.cells #[] 9)) := (Below.refl _ _).alloc (Nat.le_refl _) _;have d0 := aA3 (jb K3 1 rfl) bw;refine hK.out _ _ d0 (fun _ => ?_)
  clear hK K d0 bw g9;obtain ⟨q3, e5⟩ := exq (w3.heap.size);obtain ⟨w4, c2⟩ := exq ((w3.alloc (.cells #[] 9)));rw [← e5, ← c2];have bw := bal c2;have K4 := ja K3 c2 e5.symm;have g3 := hsz bw;have c0 := hown d7 bw;have c1 := hown d8 bw;have i9 : Hid (w.heap.size ≤ q3) := by show _ ≤ _; rw [e5]; exact K3.hb.size
  have h8 := (jb K4 2 rfl);have g4 : Hid (w3.heap.size ≤ q3) := by show _ ≤ _; omega
  clear bw c2 e5 K3;have a8 : Hid (w4.ownsRow w.heap.size 9 1 (.slice (some ⟨q3, 0, none⟩) 0 0) 0 []) := ⟨rfl, .inr ⟨_, 0, #[], rfl, i9.out, (jb K4 0 rfl), Nat.le_refl _, Nat.zero_le _, rfl, rfl⟩⟩;have d1 : Hid (∀ g, (Value.ownBlock (.slice (some ⟨q3, 0, none⟩) 0 0)) = some g → w3.heap.size ≤ g) := fun g hg => by simp [Value.ownBlock] at hg; have := g4.out; omega
  refine wpAnyH_ready (rs := [3, 4]) (by kernel_rfl) (by simp) ?_;refine AllReadyH.cons rfl (fun K hK => ?_) (AllReadyH.cons rfl (fun K hK => ?_) AllReadyH.nil)
  ·have c6 : 0 + n1 ≤ maxLen := by unfold maxLen; omega
   have c7 : (0 + n1) * 16 ≤ 140737488355328 := by omega
   refine aC3 (w := w4) (by rfl) _ _ _ (by rfl) w.heap.size 9 h9 (.string ⟨#[]⟩) 1 16 underlying22 i0 e8 e9 f0 rfl (by decide) _ _ _ (by rfl) a8.out _ _ _ (by rfl) (Src.texts c0.out) c6 c7 K4.hb.size ?_;intro v1 w5 a1 a0;rw [Nat.zero_add, List.nil_append] at a1;have j0 : Bw w (w5) := K4.hb.grown a0 K4.hb.size (fun g hg => aB7 a8.out hg)
   have h5 := hid a0.size;have b1 : Hid (w5.ownsRow B 9 1 (.slice d3 n1 d4) n1 (cs.map Value.string)) := aA7 c0.out (fun g hg => a0.block g (aA6 c0.out hg) (fun e => (fun e => by have h1 := d1.out g e; have h2 := f5.out g hg; have := g6.out; have := g7.out; have := g8.out; have := g3.out; omega) e.symm))
   have b2 : Hid (w5.ownsRow B 155 2 (.slice d5 n2 d6) n2 (aA1 ws)) := aA7 c1.out (fun g hg => a0.block g (aA6 c1.out hg) (fun e => (aB4 c1.out a8.out (by decide) g hg) e.symm))
   obtain ⟨a9, b0, rfl⟩ := aA0 a1;have d9 := hid a1;have K5 := jz K4 j0 (jzx (jzb (jgB a0 a8.out (jb K4 1 rfl)) (jzb (jgB a0 a8.out (jb K4 2 rfl)) (jzn _))));clear a1 a0 c6 c7 K4;simp only [Act.put, List.setIfInBounds_toArray]
   have h0 := (jb K5 1 rfl);refine hK.out _ _ h0 (fun _ => ?_)
   clear hK K h8;refine rd1 4 rfl (fun K hK => ?_)
   go_simp;have bw : Below w5.heap.size w5 (w5.alloc (.cells #[] 155)) := (Below.refl _ _).alloc (Nat.le_refl _) _;have d0 := aA3 (jb K5 1 rfl) bw;refine hK.out _ _ d0 (fun _ => ?_)
   clear hK K d0 bw h0;obtain ⟨q4, d2⟩ := exq (w5.heap.size);obtain ⟨w6, c2⟩ := exq ((w5.alloc (.cells #[] 155)));rw [← d2, ← c2];have bw := bal c2;have K6 := ja K5 c2 d2.symm;have j1 := hsz bw;have a5 := hown b1 bw;have a6 := hown b2 bw;have a7 := hown d9 bw;have h6 : Hid (w.heap.size ≤ q4) := by show _ ≤ _; rw [d2]; exact j0.size
   have g5 := (jb K6 2 rfl);have e0 : Hid (w5.heap.size ≤ q4) := by show _ ≤ _; omega
   clear j0 bw c2 d2 K5;have a2 : Hid (w6.ownsRow w.heap.size 155 2 (.slice (some ⟨q4, 0, none⟩) 0 0) 0 []) := ⟨rfl, .inr ⟨_, 0, #[], rfl, h6.out, (jb K6 0 rfl), Nat.le_refl _, Nat.zero_le _, rfl, rfl⟩⟩;have c8 : Hid (∀ g, (Value.ownBlock (.slice (some ⟨q4, 0, none⟩) 0 0)) = some g → w5.heap.size ≤ g) := fun g hg => by simp [Value.ownBlock] at hg; have := e0.out; omega
   refine rd1 7 rfl (fun K hK => ?_)
   have c6 : 0 + n2 ≤ maxLen := by unfold maxLen; omega
   have c7 : (0 + n2) * 24 ≤ 140737488355328 := by omega
   refine aC3 (w := w6) (by rfl) _ _ _ (by rfl) w.heap.size 155 i1 (.agg #[.int .i64 0, .string ⟨#[]⟩]) 2 24 underlying37 i2 f1 f2 f3 rfl (by decide) _ _ _ (by rfl) a2.out _ _ _ (by rfl) (Src.of_owns a6.out (aQ5 _)) c6 c7 K6.hb.size ?_;intro v1 w7 a1 a0;rw [Nat.zero_add, List.nil_append] at a1;have e6 : Bw w (w7) := K6.hb.grown a0 K6.hb.size (fun g hg => aB7 a2.out hg)
   have j3 := hid a0.size;have c3 : Hid (w7.ownsRow B 9 1 (.slice d3 n1 d4) n1 (cs.map Value.string)) := aA7 a5.out (fun g hg => a0.block g (aA6 a5.out hg) (fun e => (aB4 a5.out a2.out (by decide) g hg) e.symm))
   have c4 : Hid (w7.ownsRow B 155 2 (.slice d5 n2 d6) n2 (aA1 ws)) := aA7 a6.out (fun g hg => a0.block g (aA6 a6.out hg) (fun e => (fun e => by have h1 := c8.out g e; have h2 := f7.out g hg; have := g6.out; have := g7.out; have := g8.out; have := g3.out; have := h5.out; have := j1.out; omega) e.symm))
   have b5 : Hid (w7.ownsRow w.heap.size 9 1 (.slice a9 n1 b0) n1 (cs.map Value.string)) := aA7 a7.out (fun g hg => a0.block g (aA6 a7.out hg) (fun e => (aB4 a7.out a2.out (by decide) g hg) e.symm))
   obtain ⟨b3, b4, rfl⟩ := aA0 a1;have b6 := hid a1;have K7 := jz K6 e6 (jzx (jzb (jgB a0 a2.out (jb K6 1 rfl)) (jzb (jgB a0 a2.out (jb K6 2 rfl)) (jzn _))));clear a1 a0 c6 c7 K6;simp only [Act.put]
   have e1 := (jb K7 1 rfl);refine hK.out _ _ e1 (fun _ => ?_)
   clear hK K g5;refine tkP 8 (.agg #[.slice a9 n1 b0, .slice b3 n2 b4]) 11 rfl rfl e1 ?_;simp only [Act.put]
   refine rd1 9 rfl (fun K hK => ?_)
   have h7 := c2f (jb K7 0 rfl);obtain ⟨w8, hY⟩ := exq (((w7.setCell ⟨q2, 0, none⟩ (.slice a9 n1 b0)).setCell ⟨q2, 1, none⟩ (.slice b3 n2 b4)));have HY := hsy hY;have K8 := jss K7 0 [(0, _), (1, _)] hY;have e2 := hid (jrr [(0, _), (1, _)] c3.out hY (jb K7 0 rfl));have e3 := hid (jrr [(0, _), (1, _)] c4.out hY (jb K7 0 rfl));have b7 := hid (jrr [(0, _), (1, _)] b5.out hY (jb K7 0 rfl));have b8 := hid (jrr [(0, _), (1, _)] b6.out hY (jb K7 0 rfl));clear hY e6 K7;go_simp;rw [HY.out];have e7 := (jb K8 1 rfl);refine hK.out _ _ e7 (fun _ => ?_)
   clear hK K HY e1 h7;clear e7;refine wdn ?_;go_wp2_with fail
   have c9 := c2c (jb K8 0 rfl);refine bodyPost_ret (v := .agg #[.slice a9 n1 b0, .slice b3 n2 b4]) (by simp [results, results73, go_sem, c9]) rfl ?_;exact ⟨_, _, rfl, ⟨by rw [i3.out]; exact b7.out, by rw [i4.out]; exact b8.out⟩, K8.hb⟩
  go_simp;have bw : Below w4.heap.size w4 (w4.alloc (.cells #[] 155)) := (Below.refl _ _).alloc (Nat.le_refl _) _;have d0 := aA3 (jb K4 2 rfl) bw;refine hK.out _ _ d0 (fun _ => ?_)
  clear hK K d0 bw h8;obtain ⟨q4, d2⟩ := exq (w4.heap.size);obtain ⟨w5, c2⟩ := exq ((w4.alloc (.cells #[] 155)));rw [← d2, ← c2];have bw := bal c2;have K5 := ja K4 c2 d2.symm;have h5 := hsz bw;have b1 := hown c0 bw;have b2 := hown c1 bw;have a3 := hown a8 bw;have h6 : Hid (w.heap.size ≤ q4) := by show _ ≤ _; rw [d2]; exact K4.hb.size
  have h0 := (jb K5 3 rfl);have e0 : Hid (w4.heap.size ≤ q4) := by show _ ≤ _; omega
  clear bw c2 d2 K4;have a4 : Hid (w5.ownsRow w.heap.size 155 2 (.slice (some ⟨q4, 0, none⟩) 0 0) 0 []) := ⟨rfl, .inr ⟨_, 0, #[], rfl, h6.out, (jb K5 0 rfl), Nat.le_refl _, Nat.zero_le _, rfl, rfl⟩⟩;have c8 : Hid (∀ g, (Value.ownBlock (.slice (some ⟨q4, 0, none⟩) 0 0)) = some g → w4.heap.size ≤ g) := fun g hg => by simp [Value.ownBlock] at hg; have := e0.out; omega
  refine rd1 3 rfl (fun K hK => ?_)
  have c6 : 0 + n1 ≤ maxLen := by unfold maxLen; omega
  have c7 : (0 + n1) * 16 ≤ 140737488355328 := by omega
  refine aC3 (w := w5) (by rfl) _ _ _ (by rfl) w.heap.size 9 h9 (.string ⟨#[]⟩) 1 16 underlying22 i0 e8 e9 f0 rfl (by decide) _ _ _ (by rfl) a3.out _ _ _ (by rfl) (Src.texts b1.out) c6 c7 K5.hb.size ?_;intro v1 w6 a1 a0;rw [Nat.zero_add, List.nil_append] at a1;have e4 : Bw w (w6) := K5.hb.grown a0 K5.hb.size (fun g hg => aB7 a3.out hg)
  have j1 := hid a0.size;have a5 : Hid (w6.ownsRow B 9 1 (.slice d3 n1 d4) n1 (cs.map Value.string)) := aA7 b1.out (fun g hg => a0.block g (aA6 b1.out hg) (fun e => (fun e => by have h1 := d1.out g e; have h2 := f5.out g hg; have := g6.out; have := g7.out; have := g8.out; have := g3.out; omega) e.symm))
  have a6 : Hid (w6.ownsRow B 155 2 (.slice d5 n2 d6) n2 (aA1 ws)) := aA7 b2.out (fun g hg => a0.block g (aA6 b2.out hg) (fun e => (aB4 b2.out a3.out (by decide) g hg) e.symm))
  have a2 : Hid (w6.ownsRow w.heap.size 155 2 (.slice (some ⟨q4, 0, none⟩) 0 0) 0 []) := aA7 a4.out (fun g hg => a0.block g (aA6 a4.out hg) (fun e => (aB4 a4.out a3.out (by decide) g hg) e.symm))
  obtain ⟨a9, b0, rfl⟩ := aA0 a1;have a7 := hid a1;have K6 := jz K5 e4 (jzx (jzx (jzb (jgB a0 a3.out (jb K5 2 rfl)) (jzb (jgB a0 a3.out (jb K5 3 rfl)) (jzn _)))));clear a1 a0 c6 c7 K5;simp only [Act.put, List.setIfInBounds_toArray]
  have g5 := (jb K6 1 rfl);refine hK.out _ _ g5 (fun _ => ?_)
  clear hK K h0;refine rd1 7 rfl (fun K hK => ?_)
  have c6 : 0 + n2 ≤ maxLen := by unfold maxLen; omega
  have c7 : (0 + n2) * 24 ≤ 140737488355328 := by omega
  refine aC3 (w := w6) (by rfl) _ _ _ (by rfl) w.heap.size 155 i1 (.agg #[.int .i64 0, .string ⟨#[]⟩]) 2 24 underlying37 i2 f1 f2 f3 rfl (by decide) _ _ _ (by rfl) a2.out _ _ _ (by rfl) (Src.of_owns a6.out (aQ5 _)) c6 c7 e4.size ?_;intro v1 w7 a1 a0;rw [Nat.zero_add, List.nil_append] at a1;have e6 : Bw w (w7) := e4.grown a0 e4.size (fun g hg => aB7 a2.out hg)
  have j3 := hid a0.size;have c3 : Hid (w7.ownsRow B 9 1 (.slice d3 n1 d4) n1 (cs.map Value.string)) := aA7 a5.out (fun g hg => a0.block g (aA6 a5.out hg) (fun e => (aB4 a5.out a2.out (by decide) g hg) e.symm))
  have c4 : Hid (w7.ownsRow B 155 2 (.slice d5 n2 d6) n2 (aA1 ws)) := aA7 a6.out (fun g hg => a0.block g (aA6 a6.out hg) (fun e => (fun e => by have h1 := c8.out g e; have h2 := f7.out g hg; have := g6.out; have := g7.out; have := g8.out; have := g3.out; have := h5.out; omega) e.symm))
  have b5 : Hid (w7.ownsRow w.heap.size 9 1 (.slice a9 n1 b0) n1 (cs.map Value.string)) := aA7 a7.out (fun g hg => a0.block g (aA6 a7.out hg) (fun e => (aB4 a7.out a2.out (by decide) g hg) e.symm))
  obtain ⟨b3, b4, rfl⟩ := aA0 a1;have b6 := hid a1;have K7 := jz K6 e6 (jzb (jgB a0 a2.out (jb K6 0 rfl)) (jzb (jgB a0 a2.out (jb K6 1 rfl)) (jzn _)));clear e4 a1 a0 c6 c7 K6;simp only [Act.put]
  have e1 := (jb K7 1 rfl);refine hK.out _ _ e1 (fun _ => ?_)
  clear hK K g5;refine tkP 8 (.agg #[.slice a9 n1 b0, .slice b3 n2 b4]) 11 rfl rfl e1 ?_;simp only [Act.put]
  refine rd1 9 rfl (fun K hK => ?_)
  have h7 := c2f (jb K7 0 rfl);obtain ⟨w8, hY⟩ := exq (((w7.setCell ⟨q2, 0, none⟩ (.slice a9 n1 b0)).setCell ⟨q2, 1, none⟩ (.slice b3 n2 b4)));have HY := hsy hY;have K8 := jss K7 0 [(0, _), (1, _)] hY;have e2 := hid (jrr [(0, _), (1, _)] c3.out hY (jb K7 0 rfl));have e3 := hid (jrr [(0, _), (1, _)] c4.out hY (jb K7 0 rfl));have b7 := hid (jrr [(0, _), (1, _)] b5.out hY (jb K7 0 rfl));have b8 := hid (jrr [(0, _), (1, _)] b6.out hY (jb K7 0 rfl));clear hY e6 K7;go_simp;rw [HY.out];have e7 := (jb K8 1 rfl);refine hK.out _ _ e7 (fun _ => ?_)
  clear hK K HY e1 h7;clear e7;refine wdn ?_;go_wp2_with fail
  have c9 := c2c (jb K8 0 rfl);refine bodyPost_ret (v := .agg #[.slice a9 n1 b0, .slice b3 n2 b4]) (by simp [results, results73, go_sem, c9]) rfl ?_;exact ⟨_, _, rfl, ⟨by rw [i3.out]; exact b7.out, by rw [i4.out]; exact b8.out⟩, K8.hb⟩
 go_simp;have bw : Below w3.heap.size w3 (w3.alloc (.cells #[] 155)) := (Below.refl _ _).alloc (Nat.le_refl _) _;have d0 := aA3 (jb K3 1 rfl) bw;refine hK.out _ _ d0 (fun _ => ?_)
 clear hK K d0 bw g9;obtain ⟨q3, e5⟩ := exq (w3.heap.size);obtain ⟨w4, c2⟩ := exq ((w3.alloc (.cells #[] 155)));rw [← e5, ← c2];have bw := bal c2;have K4 := ja K3 c2 e5.symm;have g3 := hsz bw;have c0 := hown d7 bw;have c1 := hown d8 bw;have i9 : Hid (w.heap.size ≤ q3) := by show _ ≤ _; rw [e5]; exact K3.hb.size
 have h8 := (jb K4 2 rfl);have g4 : Hid (w3.heap.size ≤ q3) := by show _ ≤ _; omega
 clear bw c2 e5 K3;have a8 : Hid (w4.ownsRow w.heap.size 155 2 (.slice (some ⟨q3, 0, none⟩) 0 0) 0 []) := ⟨rfl, .inr ⟨_, 0, #[], rfl, i9.out, (jb K4 0 rfl), Nat.le_refl _, Nat.zero_le _, rfl, rfl⟩⟩;have d1 : Hid (∀ g, (Value.ownBlock (.slice (some ⟨q3, 0, none⟩) 0 0)) = some g → w3.heap.size ≤ g) := fun g hg => by simp [Value.ownBlock] at hg; have := g4.out; omega
 refine rd1 0 rfl (fun K hK => ?_)
 go_simp;have bw : Below w4.heap.size w4 (w4.alloc (.cells #[] 9)) := (Below.refl _ _).alloc (Nat.le_refl _) _;have d0 := aA3 (jb K4 2 rfl) bw;refine hK.out _ _ d0 (fun _ => ?_)
 clear hK K d0 bw h8;obtain ⟨q4, d2⟩ := exq (w4.heap.size);obtain ⟨w5, c2⟩ := exq ((w4.alloc (.cells #[] 9)));rw [← d2, ← c2];have bw := bal c2;have K5 := ja K4 c2 d2.symm;have h5 := hsz bw;have b1 := hown c0 bw;have b2 := hown c1 bw;have a3 := hown a8 bw;have h6 : Hid (w.heap.size ≤ q4) := by show _ ≤ _; rw [d2]; exact K4.hb.size
 have h0 := (jb K5 3 rfl);have e0 : Hid (w4.heap.size ≤ q4) := by show _ ≤ _; omega
 clear bw c2 d2 K4;have a4 : Hid (w5.ownsRow w.heap.size 9 1 (.slice (some ⟨q4, 0, none⟩) 0 0) 0 []) := ⟨rfl, .inr ⟨_, 0, #[], rfl, h6.out, (jb K5 0 rfl), Nat.le_refl _, Nat.zero_le _, rfl, rfl⟩⟩;have c8 : Hid (∀ g, (Value.ownBlock (.slice (some ⟨q4, 0, none⟩) 0 0)) = some g → w4.heap.size ≤ g) := fun g hg => by simp [Value.ownBlock] at hg; have := e0.out; omega
 refine rd1 3 rfl (fun K hK => ?_)
 have c6 : 0 + n1 ≤ maxLen := by unfold maxLen; omega
 have c7 : (0 + n1) * 16 ≤ 140737488355328 := by omega
 refine aC3 (w := w5) (by rfl) _ _ _ (by rfl) w.heap.size 9 h9 (.string ⟨#[]⟩) 1 16 underlying22 i0 e8 e9 f0 rfl (by decide) _ _ _ (by rfl) a4.out _ _ _ (by rfl) (Src.texts b1.out) c6 c7 K5.hb.size ?_;intro v1 w6 a1 a0;rw [Nat.zero_add, List.nil_append] at a1;have e4 : Bw w (w6) := K5.hb.grown a0 K5.hb.size (fun g hg => aB7 a4.out hg)
 have j1 := hid a0.size;have a5 : Hid (w6.ownsRow B 9 1 (.slice d3 n1 d4) n1 (cs.map Value.string)) := aA7 b1.out (fun g hg => a0.block g (aA6 b1.out hg) (fun e => (fun e => by have h1 := c8.out g e; have h2 := f5.out g hg; have := g6.out; have := g7.out; have := g8.out; have := g3.out; have := h5.out; omega) e.symm))
 have a6 : Hid (w6.ownsRow B 155 2 (.slice d5 n2 d6) n2 (aA1 ws)) := aA7 b2.out (fun g hg => a0.block g (aA6 b2.out hg) (fun e => (aB4 b2.out a4.out (by decide) g hg) e.symm))
 have b9 : Hid (w6.ownsRow w.heap.size 155 2 (.slice (some ⟨q3, 0, none⟩) 0 0) 0 []) := aA7 a3.out (fun g hg => a0.block g (aA6 a3.out hg) (fun e => (aB4 a3.out a4.out (by decide) g hg) e.symm))
 obtain ⟨b3, b4, rfl⟩ := aA0 a1;have c5 := hid a1;have K6 := jz K5 e4 (jzx (jzx (jzb (jgB a0 a4.out (jb K5 2 rfl)) (jzb (jgB a0 a4.out (jb K5 3 rfl)) (jzn _)))));clear a1 a0 c6 c7 K5;simp only [Act.put, List.setIfInBounds_toArray]
 have g5 := (jb K6 1 rfl);refine hK.out _ _ g5 (fun _ => ?_)
 clear hK K h0;refine rd1 7 rfl (fun K hK => ?_)
 have c6 : 0 + n2 ≤ maxLen := by unfold maxLen; omega
 have c7 : (0 + n2) * 24 ≤ 140737488355328 := by omega
 refine aC3 (w := w6) (by rfl) _ _ _ (by rfl) w.heap.size 155 i1 (.agg #[.int .i64 0, .string ⟨#[]⟩]) 2 24 underlying37 i2 f1 f2 f3 rfl (by decide) _ _ _ (by rfl) b9.out _ _ _ (by rfl) (Src.of_owns a6.out (aQ5 _)) c6 c7 e4.size ?_;intro v1 w7 a1 a0;rw [Nat.zero_add, List.nil_append] at a1;have e6 : Bw w (w7) := e4.grown a0 e4.size (fun g hg => aB7 b9.out hg)
 have j3 := hid a0.size;have c3 : Hid (w7.ownsRow B 9 1 (.slice d3 n1 d4) n1 (cs.map Value.string)) := aA7 a5.out (fun g hg => a0.block g (aA6 a5.out hg) (fun e => (aB4 a5.out b9.out (by decide) g hg) e.symm))
 have c4 : Hid (w7.ownsRow B 155 2 (.slice d5 n2 d6) n2 (aA1 ws)) := aA7 a6.out (fun g hg => a0.block g (aA6 a6.out hg) (fun e => (fun e => by have h1 := d1.out g e; have h2 := f7.out g hg; have := g6.out; have := g7.out; have := g8.out; have := g3.out; omega) e.symm))
 have b6 : Hid (w7.ownsRow w.heap.size 9 1 (.slice b3 n1 b4) n1 (cs.map Value.string)) := aA7 c5.out (fun g hg => a0.block g (aA6 c5.out hg) (fun e => (aB4 c5.out b9.out (by decide) g hg) e.symm))
 obtain ⟨a9, b0, rfl⟩ := aA0 a1;have b5 := hid a1;have K7 := jz K6 e6 (jzb (jgB a0 b9.out (jb K6 0 rfl)) (jzb (jgB a0 b9.out (jb K6 1 rfl)) (jzn _)));clear e4 a1 a0 c6 c7 K6;simp only [Act.put]
 have e1 := (jb K7 1 rfl);refine hK.out _ _ e1 (fun _ => ?_)
 clear hK K g5;refine tkP 8 (.agg #[.slice b3 n1 b4, .slice a9 n2 b0]) 11 rfl rfl e1 ?_;simp only [Act.put]
 refine rd1 9 rfl (fun K hK => ?_)
 have h7 := c2f (jb K7 0 rfl);obtain ⟨w8, hY⟩ := exq (((w7.setCell ⟨q2, 0, none⟩ (.slice b3 n1 b4)).setCell ⟨q2, 1, none⟩ (.slice a9 n2 b0)));have HY := hsy hY;have K8 := jss K7 0 [(0, _), (1, _)] hY;have e2 := hid (jrr [(0, _), (1, _)] c3.out hY (jb K7 0 rfl));have e3 := hid (jrr [(0, _), (1, _)] c4.out hY (jb K7 0 rfl));have b8 := hid (jrr [(0, _), (1, _)] b6.out hY (jb K7 0 rfl));have b7 := hid (jrr [(0, _), (1, _)] b5.out hY (jb K7 0 rfl));clear hY e6 K7;go_simp;rw [HY.out];have e7 := (jb K8 1 rfl);refine hK.out _ _ e7 (fun _ => ?_)
 clear hK K HY e1 h7;clear e7;refine wdn ?_;go_wp2_with fail
 have c9 := c2c (jb K8 0 rfl);refine bodyPost_ret (v := .agg #[.slice b3 n1 b4, .slice a9 n2 b0]) (by simp [results, results73, go_sem, c9]) rfl ?_;exact ⟨_, _, rfl, ⟨by rw [i3.out]; exact b8.out, by rw [i4.out]; exact b7.out⟩, K8.hb⟩
theorem aV8 (v1 v2 : Value) (n1 : Nat) (cs : Ts) (n2 : Nat) (ws : List (Int × ByteArray)) (B : Nat) (w : World) (h : aD3 w B v1 n1 cs v2 n2 ws) (hn1 : n1 ≤ 2000000) (hn2 : n2 ≤ 2000000) (x : Int) (t : Tx) :
  Calls prog 100 #[.agg #[v1, v2], .int .i64 x, .string t] w fun e w' => aT1 (putC cs ws) (putW cs ws x t) (putB cs ws x) w e w' := by
 obtain ⟨k1, k2, i8, i9, j0⟩ := info_parts bQ7;obtain ⟨j1, j2, f9, g0, g1⟩ := info_parts aV2;obtain ⟨g2, g3, rfl⟩ := aA0 h.cells;have d1 : Hid (w.ownsRow B 9 1 (.slice g2 n1 g3) n1 (cs.map Value.string)) := h.cells;obtain ⟨f5, f6, rfl⟩ := aA0 h.pend;have d2 : Hid (w.ownsRow B 155 2 (.slice f5 n2 f6) n2 (aA1 ws)) := h.pend;have g4 : Hid (∀ g, (Value.ownBlock (.slice f5 n2 f6)) = some g → g < w.heap.size) := fun g hg => aA6 h.pend hg
 have f7 : Hid (cs.length = n1) := by have := h.cells.1; rw [List.length_map] at this; show _ = _; omega
 have e4 : Hid (ws.length = n2) := aM5 h.pend;clear h;have K0 := jnil w;go_enter func100, ntmps100;go_upto_region 1 with fail
 obtain ⟨q1, g5⟩ := exq (w.heap.size);obtain ⟨w1, e9⟩ := exq (w.alloc (.cells #[.slice g2 n1 g3, .slice f5 n2 f6] 39));have g6 := g5.symm;rw [← e9]; try rw [← g5];have i2 := hsa e9 g6;have bw := bal e9;have K1 := ja K0 e9 g6;have j3 := hsz bw;have d3 := hown d1 bw;have d4 := hown d2 bw;clear bw e9 g6 K0;obtain ⟨q2, g7⟩ := exq (q1 + 1);obtain ⟨w2, f0⟩ := exq (w1.alloc (.cells #[.slice none 0 0, .slice none 0 0] 39));have g8 : w1.heap.size = q2 := by rw [g7]; exact i2
 rw [← f0]; try rw [← g7];have j4 := hsa f0 g8;have bw := bal f0;have K2 := ja K1 f0 g8;have j5 := hsz bw;have c0 := hown d3 bw;have c1 := hown d4 bw;clear bw f0 g8 K1;clear j4 g7 i2 g5;have d5 := c2c (jb K2 1 rfl);go_wp2_with fail
 refine (aQ7 _ _ n1 cs n2 ws B _ ⟨c0.out, c1.out⟩ hn1 hn2).mono ?_;rintro e w3 ⟨uo, rfl, c6, bw⟩;have K3 := jw K2 bw;have j6 := hsz bw;have a7 := hown c0 bw;have a8 := hown c1 bw;clear bw K2;clear d5;cases uo
 ·have j7 : Hid (¬ aG5 cs ws) := fun h => nomatch c6.2 h
  clear c6;have d6 := c2f (jb K3 0 rfl);go_wp2_with fail
  obtain ⟨w4, e5⟩ := exq (w3.setCell ⟨q2, 0, none⟩ (.slice none 0 0));rw [← e5];have K4 := js K3 0 e5;have i3 : Hid (w3.heap.size ≤ w4.heap.size) := by show _ ≤ _; rw [e5]; simp
  have a9 := aB5 e5 (aA9 a7.out (jb K3 0 rfl) (by decide)) a7;have b0 := aB5 e5 (aA9 a8.out (jb K3 0 rfl) (by decide)) a8;clear e5 K3;obtain ⟨w5, c2⟩ := exq (w4.setCell ⟨q2, 1, none⟩ (.slice none 0 0));rw [← c2];have K5 := js K4 0 c2;have b1 := aB5 c2 (aA9 a9.out (jb K4 0 rfl) (by decide)) a9;have b2 := aB5 c2 (aA9 b0.out (jb K4 0 rfl) (by decide)) b0;clear c2 K4;have a5 := c2c (jb K5 0 rfl);refine bodyPost_ret (v := .tuple #[.agg #[.slice none 0 0, .slice none 0 0], .bool false]) (by simp [results, results100, go_sem, a5]) rfl ?_;obtain ⟨e1, e2, e3⟩ := cS6 j7.out x t;rw [e1, e2, e3];exact ⟨_, _, rfl, aY7 _ _, K5.hb⟩
 have f8 : Hid (aG5 cs ws) := c6.1 rfl;clear c6;have d5 := c2c (jb K3 1 rfl);go_wp2_with fail
 refine (aL8 _ _ n1 cs n2 ws B _ ⟨a7.out, a8.out⟩ hn1 hn2).mono ?_;rintro e w4 ⟨k3, k4, rfl, ⟨b3, a6⟩, bw⟩;rw [f7.out] at b3;rw [e4.out] at a6;obtain ⟨c8, c9, rfl⟩ := aA0 b3;obtain ⟨e6, e7, rfl⟩ := aA0 a6;have K4 := jj K3 (jcR (jcR (jN bw) b3 jhn) a6 (jhc (jty a6 b3) jhn));have i3 := hsz bw;have a9 := hown a7 bw;have b0 := hown a8 bw;clear b3;have g9 := hlo a6;clear a6;clear bw K3;clear d5;go_upto_region 4 with fail
 obtain ⟨q3, h0⟩ := exq (w4.heap.size);obtain ⟨w5, c2⟩ := exq (w4.alloc (.cells #[.slice c8 n1 c9, .slice e6 n2 e7] 39));have h4 := h0.symm;rw [← c2]; try rw [← h0];have j8 := hsa c2 h4;have bw := bal c2;have K5 := ja K4 c2 h4;have b1 := hown a9 bw;have b2 := hown b0 bw;clear bw c2 h4 K4;clear j8 h0;by_cases hc1 : (n2 : Int) = 16
 ·have h5 : ((n2 : Int) == (16 : Int)) = true := by simpa using hc1
  have h6 : ((n2 : Int) != (16 : Int)) = false := by simpa using hc1
  have HF : Hid (n2 = 16) := (by have := hc1; show _ = _; omega);have h7 := hid hc1;clear hc1;have f1 := c2c (jb K5 4 rfl);have d6 := c2f (jb K5 3 rfl);have f2 := c2c (jb K5 0 rfl);go_wp2_with fail
  obtain ⟨w6, f3⟩ := exq (w5.setCell ⟨q2, 0, none⟩ (.slice c8 n1 c9));rw [← f3];have K6 := js K5 3 f3;have a0 := aB5 f3 (aA9 b1.out (jb K5 3 rfl) (by decide)) b1;have a1 := aB5 f3 (aA9 b2.out (jb K5 3 rfl) (by decide)) b2;clear f3 K5;obtain ⟨w7, c3⟩ := exq (w6.setCell ⟨q2, 1, none⟩ (.slice e6 n2 e7));rw [← c3];have K7 := js K6 3 c3;have a2 := aB5 c3 (aA9 a0.out (jb K6 3 rfl) (by decide)) a0;have a3 := aB5 c3 (aA9 a1.out (jb K6 3 rfl) (by decide)) a1;clear c3 K6;have a5 := c2c (jb K7 3 rfl);refine bodyPost_ret (v := .tuple #[.agg #[.slice c8 n1 c9, .slice e6 n2 e7], .bool false]) (by simp [results, results100, go_sem, a5]) rfl ?_;obtain ⟨e1, e2, e3⟩ := cA9 f8.out (x := x) (fun h => by have h2 := HF.out; have h3 := e4.out; omega) t
  rw [e1, e2, e3];exact ⟨_, _, rfl, ⟨by rw [f7.out]; exact (jo K7 2 rfl), by rw [e4.out]; exact (jo K7 1 rfl)⟩, K7.hb⟩
 have h5 : ((n2 : Int) == (16 : Int)) = false := by simpa using hc1
 have h6 : ((n2 : Int) != (16 : Int)) = true := by simpa using hc1
 have HF : Hid (¬ n2 = 16) := (by have := hc1; show ¬ _; omega);have h7 := hid hc1;clear hc1;have f1 := c2c (jb K5 4 rfl);go_wp2_with fail
 refine (aH6 x 0 19 _).mono ?_;rintro e w6 ⟨rfl, i4⟩;have bw : Below w5.heap.size (w5) w6 := by rw [i4]; exact Below.refl _ _
 clear i4;obtain ⟨ui, f4⟩ : ∃ u, u = decide ((0 : Int) ≤ x ∧ x ≤ 19) := ⟨_, rfl⟩;rw [← f4];have K6 := jw K5 bw;have a0 := hown b1 bw;have a1 := hown b2 bw;clear bw K5;clear f1;cases ui
 ·have j9 : Hid (¬ (0 ≤ x ∧ x ≤ 19)) := (show ¬ (0 ≤ x ∧ x ≤ 19) from of_decide_eq_false f4.symm);clear f4;have d6 := c2f (jb K6 3 rfl);have f2 := c2c (jb K6 0 rfl);go_wp2_with fail
  obtain ⟨w7, c3⟩ := exq (w6.setCell ⟨q2, 0, none⟩ (.slice c8 n1 c9));rw [← c3];have K7 := js K6 3 c3;have a2 := aB5 c3 (aA9 a0.out (jb K6 3 rfl) (by decide)) a0;have a3 := aB5 c3 (aA9 a1.out (jb K6 3 rfl) (by decide)) a1;clear c3 K6;obtain ⟨w8, b9⟩ := exq (w7.setCell ⟨q2, 1, none⟩ (.slice e6 n2 e7));rw [← b9];have K8 := js K7 3 b9;have b4 := aB5 b9 (aA9 a2.out (jb K7 3 rfl) (by decide)) a2;have b5 := aB5 b9 (aA9 a3.out (jb K7 3 rfl) (by decide)) a3;clear b9 K7;have a5 := c2c (jb K8 3 rfl);refine bodyPost_ret (v := .tuple #[.agg #[.slice c8 n1 c9, .slice e6 n2 e7], .bool false]) (by simp [results, results100, go_sem, a5]) rfl ?_;obtain ⟨e1, e2, e3⟩ := cA9 f8.out (x := x) (fun h => j9.out h.2) t
  rw [e1, e2, e3];exact ⟨_, _, rfl, ⟨by rw [f7.out]; exact (jo K8 2 rfl), by rw [e4.out]; exact (jo K8 1 rfl)⟩, K8.hb⟩
 have k0 : Hid (0 ≤ x ∧ x ≤ 19) := (show (0 ≤ x ∧ x ≤ 19) from of_decide_eq_true f4.symm);clear f4;have d7 := c2c (jb K6 0 rfl);have hown := (jo K6 1 rfl);have i5 : n2 + 1 ≤ maxLen := by unfold maxLen; omega
 have i6 : (n2 + 1) * 24 ≤ 140737488355328 := by omega
 have h8 : ∀ o, w.heap.size ≤ (w6.alloc o).heap.size := fun o => by have := K6.hb.size; simp; omega
 go_wp2_with (at_builtin; refine wpList_append_own _ rfl _ _ 37 rfl w.heap.size 155 j1 (.agg #[.int .i64 0, .string ⟨#[]⟩]) 2 24 underlying37 j2 f9 g0 g1 rfl (by decide) _ _ _ rfl (hown.alloc _) ⟨w6.heap.size, 0, none⟩ 1 1 [.int .i64 x, .string t] rfl rfl (cell_two_new _ _ _ _) (by intro u hu; simp at hu; rcases hu with rfl | rfl <;> rfl) i5 i6 (h8 _) ?_)
 intro v1 w7 c4 a4 _;have bA : Below w6.heap.size w6 (w6.alloc (.cells #[.int .i64 x, .string t] 155)) := (Below.refl _ _).alloc (Nat.le_refl _) _;have d0 : ∀ g, (.slice e6 n2 e7 : Value).ownBlock = some g → w.heap.size ≤ g := fun g hg => aB7 hown hg
 clear d7;have i7 : Bw w (w7) := (K6.hb.trans (bA.mono K6.hb.size)).grown a4 (h8 _) d0;have a2 : Hid (w7.ownsRow B 9 1 (.slice g2 n1 g3) n1 (cs.map Value.string)) := aA7 a0.out (fun g hg => (a4.block g (Nat.lt_of_lt_of_le (aA6 a0.out hg) bA.size) (fun e => (aB4 a0.out (jo K6 1 rfl) (by decide) g hg) e.symm)).trans (bA.block g (aA6 a0.out hg)))
 have a3 : Hid (w7.ownsRow B 155 2 (.slice f5 n2 f6) n2 (aA1 ws)) := aA7 a1.out (fun g hg => (a4.block g (Nat.lt_of_lt_of_le (aA6 a1.out hg) bA.size) (fun e => (fun e => by have h1 := g9.out g e; have h2 := g4.out g hg; have := j3.out; have := j5.out; have := j6.out; have := i3.out; omega) e.symm)).trans (bA.block g (aA6 a1.out hg)))
 have d8 : Hid (w7.ownsRow w.heap.size 9 1 (.slice c8 n1 c9) n1 (cs.map Value.string)) := aA7 (jo K6 2 rfl) (fun g hg => (a4.block g (Nat.lt_of_lt_of_le (aA6 (jo K6 2 rfl) hg) bA.size) (fun e => (aB4 (jo K6 2 rfl) (jo K6 1 rfl) (by decide) g hg) e.symm)).trans (bA.block g (aA6 (jo K6 2 rfl) hg)))
 obtain ⟨d9, e0, rfl⟩ := aA0 c4;have b6 := hid c4;have K7 := jz K6 i7 (jzb (jgA bA a4 hown (jb K6 0 rfl)) (jzx (jzr d8.out (jzb (jgA bA a4 hown (jb K6 3 rfl)) (jzb (jgA bA a4 hown (jb K6 4 rfl)) (jzn _))))));clear hown i5 i6 h8 c4 a4 bA d0 K6;have d7 := c2f (jb K7 0 rfl);go_upto_region 7 with fail
 obtain ⟨w8, b9⟩ := exq (w7.setCell ⟨q3, 1, none⟩ (.slice d9 (n2 + 1) e0));rw [← b9];have K8 := js K7 0 b9;have b4 := aB5 b9 (aA9 a2.out (jb K7 0 rfl) (by decide)) a2;have b5 := aB5 b9 (aA9 a3.out (jb K7 0 rfl) (by decide)) a3;have b7 := aB5 b9 (aA9 b6.out (jb K7 0 rfl) (by decide)) b6;clear i7 b9 K7;clear d7;have d6 := c2f (jb K8 2 rfl);have f2 := c2c (jb K8 0 rfl);go_wp2_with fail
 obtain ⟨w9, e8⟩ := exq (w8.setCell ⟨q2, 0, none⟩ (.slice c8 n1 c9));rw [← e8];have K9 := js K8 2 e8;have h9 := aB5 e8 (aA9 b4.out (jb K8 2 rfl) (by decide)) b4;have i0 := aB5 e8 (aA9 b5.out (jb K8 2 rfl) (by decide)) b5;have b8 := aB5 e8 (aA9 b7.out (jb K8 2 rfl) (by decide)) b7;clear e8 K8;obtain ⟨k5, c7⟩ := exq (w9.setCell ⟨q2, 1, none⟩ (.slice d9 (n2 + 1) e0));rw [← c7];have i1 := js K9 2 c7;have c5 := aB5 c7 (aA9 b8.out (jb K9 2 rfl) (by decide)) b8;clear c7 K9;have a5 := c2c (jb i1 2 rfl);refine bodyPost_ret (v := .tuple #[.agg #[.slice c8 n1 c9, .slice d9 (n2 + 1) e0], .bool true]) (by simp [results, results100, go_sem, a5]) rfl ?_;obtain ⟨e1, e2, e3⟩ := bG0 f8.out (by have h1 := f8.out.2.1; have h2 := HF.out; have h3 := e4.out; omega) k0.out t;rw [e1, e2, e3];exact ⟨_, _, rfl, ⟨by rw [f7.out]; exact (jo i1 1 rfl), by rw [List.length_append, e4.out, aU2, aY4]; exact c5.out⟩, i1.hb⟩
theorem bY7 (v1 v2 : Value) (n1 : Nat) (cs : Ts) (n2 : Nat) (ws : List (Int × ByteArray)) (B : Nat) (w : World) (h : aD3 w B v1 n1 cs v2 n2 ws) (hn1 : n1 ≤ 2000000) (hn2 : n2 ≤ 2000000) (hok : aG5 cs ws) :
  Calls prog 123 #[.agg #[v1, v2], .slice none 0 0, .bool true] w fun e w' => aU3 (aD8 cs ws (fun _ => true) ws.length) [] w e w' := by
 obtain ⟨i2, i3, f7, f8, f9⟩ := info_parts bQ7;have g0 := hid hok;clear hok;obtain ⟨oCx, pCx, rfl⟩ := aA0 h.cells;have d0 : Hid (w.ownsRow B 9 1 (.slice oCx n1 pCx) n1 (cs.map Value.string)) := h.cells;have g1 : Hid (∀ g, (Value.ownBlock (.slice oCx n1 pCx)) = some g → g < w.heap.size) := fun g hg => aA6 h.cells hg
 obtain ⟨oPx, pPx, rfl⟩ := aA0 h.pend;have d1 : Hid (w.ownsRow B 155 2 (.slice oPx n2 pPx) n2 (aA1 ws)) := h.pend;have g2 : Hid (cs.length = n1) := by have := h.cells.1; rw [List.length_map] at this; show _ = _; omega
 have h3 : Hid (ws.length = n2) := aM5 h.pend;clear h;have K0 := jnil w;go_enter func123, ntmps123;go_upto_region 1 with fail
 obtain ⟨q1, g3⟩ := exq (w.heap.size);obtain ⟨w1, e4⟩ := exq (w.alloc (.cells #[.slice oCx n1 pCx, .slice oPx n2 pPx] 39));have g4 := g3.symm;rw [← e4]; try rw [← g3];have h4 := hsa e4 g4;have bw := bal e4;have K1 := ja K0 e4 g4;have i4 := hsz bw;have d2 := hown d0 bw;have d3 := hown d1 bw;clear bw e4 g4 K0;obtain ⟨q2, g5⟩ := exq (q1 + 1);obtain ⟨w2, e5⟩ := exq (w1.alloc (.cells #[.slice none 0 0, .slice none 0 0] 39));have f5 : w1.heap.size = q2 := by rw [g5]; exact h4
 rw [← e5]; try rw [← g5];have i5 := hsa e5 f5;have bw := bal e5;have K2 := ja K1 e5 f5;have i6 := hsz bw;have a3 := hown d2 bw;have a7 := hown d3 bw;have e6 : Hid (q1 ≠ q2) := fun e => by have h1 := (Array.getElem?_eq_some_iff.1 (jb K1 0 rfl)).1; omega
 have i7 : Hid (w.heap.size ≤ q2) := by show _ ≤ _; rw [← f5]; exact K1.hb.size
 clear bw e5 f5 K1;clear i5 g5 h4 g3;have g6 := c2c (jb K2 1 rfl);have d4 : ∀ o, (w2.alloc o).cell? ⟨q1, 0, none⟩ = some (.slice oCx n1 pCx) := fun o => (aB0 (aA3 (jb K2 1 rfl) ((Below.refl _ _).alloc (Nat.le_refl _) o)) 0).trans rfl
 have c6 : ∀ o, (w2.alloc o).frozen? ⟨q1, 0, none⟩ = false := fun o => aC9 (aA3 (jb K2 1 rfl) ((Below.refl _ _).alloc (Nat.le_refl _) o)) 0
 have bA : Below w2.heap.size w2 (w2.alloc (.cells #[] 9)) := (Below.refl _ _).alloc (Nat.le_refl _) _;have c2 : (w2.alloc (.cells #[] 9)).ownsRow w2.heap.size 9 1 (.slice (some ⟨w2.heap.size, 0, none⟩) 0 0) 0 [] := ⟨rfl, .inr ⟨_, 0, #[], rfl, Nat.le_refl _, heap_alloc_new _ _, Nat.le_refl _, Nat.zero_le _, rfl, rfl⟩⟩;have h5 : 0 + n1 ≤ maxLen := by unfold maxLen; omega
 have h6 : (0 + n1) * 16 ≤ 140737488355328 := by omega
 have g7 : w2.heap.size ≤ (w2.alloc (.cells #[] 9)).heap.size := bA.size;go_wp2_with (at_builtin; refine aL7 (by rfl) _ _ _ (by rfl) w2.heap.size 9 i2 (.string ⟨#[]⟩) 1 16 underlying22 i3 f7 f8 f9 rfl (by decide) _ _ _ (by rfl) c2 _ _ _ (by rfl) (Src.texts (aC0 a3.out bA (fun g hg => aA6 a3.out hg))) h5 h6 g7 ?_)
 intro v1 w3 b1 a6;have b6 : w3.ownsRow w2.heap.size 9 1 v1 n1 (cs.map Value.string) := by first | exact b1 | (rw [Nat.zero_add, List.nil_append] at b1; exact b1) | simpa using b1
 clear b1;clear g6 d4 c6;have h7 : Bw w (w3) := (K2.hb.trans (bA.mono K2.hb.size)).grown a6 (Nat.le_trans K2.hb.size g7) (fun g hg => Nat.le_trans K2.hb.size (aB7 c2 hg))
 have i8 : Hid (w2.heap.size ≤ w3.heap.size) := Nat.le_trans bA.size a6.size;have d5 : Hid (w3.ownsRow B 9 1 (.slice oCx n1 pCx) n1 (cs.map Value.string)) := aA7 a3.out (fun g hg => (a6.block g (Nat.lt_of_lt_of_le (aA6 a3.out hg) bA.size) (fun e => by have h1 := aA6 a3.out hg; simp [Value.ownBlock] at e; omega)).trans (bA.block g (aA6 a3.out hg)))
 have d6 : Hid (w3.ownsRow B 155 2 (.slice oPx n2 pPx) n2 (aA1 ws)) := aA7 a7.out (fun g hg => (a6.block g (Nat.lt_of_lt_of_le (aA6 a7.out hg) bA.size) (fun e => by have h1 := aA6 a7.out hg; simp [Value.ownBlock] at e; omega)).trans (bA.block g (aA6 a7.out hg)))
 have g8 : Hid (w3.heap[q1]? = some (.cells #[.slice oCx n1 pCx, .slice oPx n2 pPx] 39)) := (a6.block _ (Nat.lt_of_lt_of_le (Array.getElem?_eq_some_iff.1 (jb K2 1 rfl)).1 bA.size) (fun e => by have h1 := (Array.getElem?_eq_some_iff.1 (jb K2 1 rfl)).1; simp [Value.ownBlock] at e; omega)).trans (aA3 (jb K2 1 rfl) bA)
 have e7 : Hid (w3.heap[q2]? = some (.cells #[.slice none 0 0, .slice none 0 0] 39)) := (a6.block _ (Nat.lt_of_lt_of_le (Array.getElem?_eq_some_iff.1 (jb K2 0 rfl)).1 bA.size) (fun e => by have h1 := (Array.getElem?_eq_some_iff.1 (jb K2 0 rfl)).1; simp [Value.ownBlock] at e; omega)).trans (aA3 (jb K2 0 rfl) bA)
 obtain ⟨oE1p, pE1p, rfl⟩ := aA0 b6;have c7 : Hid (w3.ownsRow w.heap.size 9 1 (.slice oE1p n1 pE1p) n1 (cs.map Value.string)) := aE0 b6 K2.hb.size;have e8 : Hid (∀ g, (Value.ownBlock (.slice oE1p n1 pE1p)) = some g → w2.heap.size ≤ g) := fun g hg => aB7 b6 hg
 have K3 := jz K2 h7 (jzb e7.out (jzb g8.out (jzn _)));clear b6 a6 h5 h6 g7 c2 bA K2;go_upto_region 2 with fail
 obtain ⟨q4, g9⟩ := exq (w3.heap.size);obtain ⟨w4, e9⟩ := exq (w3.alloc (.cells #[.slice oE1p n1 pE1p, .slice none 0 0] 39));have f6 := g9.symm;rw [← e9]; try rw [← g9];have i9 := hsa e9 f6;have bw := bal e9;have K4 := ja K3 e9 f6;have d7 := hown d5 bw;have d8 := hown d6 bw;have c8 := hown c7 bw;have f0 := hnq e7 f6;clear h7 bw e9 f6 K3;clear i9 g9;go_wp2_with fail
 go_loopw [8] (fun i wr => ∃ j : Nat, j ≤ n2 ∧ i = .int .i64 (j : Int) ∧ Hid (Bw w (wr) ∧ wr.heap[q1]? = some (.cells #[.slice oCx n1 pCx, .slice oPx n2 pPx] 39) ∧ wr.heap[q2]? = some (.cells #[.slice none 0 0, .slice none 0 0] 39) ∧ wr.heap[q4]? = some (.cells #[.slice oE1p n1 pE1p, .slice none 0 0] 39) ∧ wr.ownsRow B 9 1 (.slice oCx n1 pCx) n1 (cs.map Value.string) ∧ wr.ownsRow B 155 2 (.slice oPx n2 pPx) n2 (aA1 ws) ∧ wr.ownsRow w.heap.size 9 1 (.slice oE1p n1 pE1p) n1 ((aD8 cs ws (fun _ => true) j).map Value.string))) (fun i _ => n2 - (intOf i).toNat)
 case atStart => exact ⟨0, Nat.zero_le _, rfl, ⟨K4.hb, (jb K4 2 rfl), (jb K4 1 rfl), (jb K4 0 rfl), d7.out, d8.out, c8.out⟩⟩
 case round =>
  obtain ⟨j, hj, rfl, HW⟩ := hrel;by_cases hlt : (j : Int) < (n2 : Int)
  rotate_left
  ·have f1 := HW.out.1;have b8 := hid HW.out.2.1;have b4 := hid HW.out.2.2.1;have c3 := hid HW.out.2.2.2.1;have a8 : Hid (wr.ownsRow B 9 1 (.slice oCx n1 pCx) n1 (cs.map Value.string)) := HW.out.2.2.2.2.1;have a1 : Hid (wr.ownsRow B 155 2 (.slice oPx n2 pPx) n2 (aA1 ws)) := HW.out.2.2.2.2.2.1;have a2 : Hid (wr.ownsRow w.heap.size 9 1 (.slice oE1p n1 pE1p) n1 ((aD8 cs ws (fun _ => true) j).map Value.string)) := HW.out.2.2.2.2.2.2
   clear HW;have h8 : j = n2 := by omega
   have j0 : Hid (j = n2) := h8;clear h8;have f2 := c2c b8.out;have j1 := c2f b4.out;have j2 := c2c c3.out;go_wp2_with fail
   obtain ⟨w6, c9⟩ := exq (wr.setCell ⟨q2, 0, none⟩ (.slice oE1p n1 pE1p));rw [← c9];have e2 := hbS c9 f1 i7;have a9 := aB5 c9 (aA9 a8.out b4.out (by decide)) a8;have a4 := aB5 c9 (aA9 a1.out b4.out (by decide)) a1;have a0 := aB5 c9 (aA9 a2.out b4.out (by decide)) a2;have b9 := hset c9 e6.out b8;have c0 := hset c9 f0.out.symm c3;have b2 := hid (jbs [(0, _)] b4.out c9);clear f1 c9;have K6 := jz K4 e2 (jzb c0.out (jzb b2.out (jzb b9.out (jzn _))));obtain ⟨w7, e3⟩ := exq (w6.setCell ⟨q2, 1, none⟩ (.slice none 0 0));rw [← e3];have K7 := js K6 1 e3;have c4 := aB5 e3 (aA9 a9.out b2.out (by decide)) a9;have b5 := aB5 e3 (aA9 a4.out b2.out (by decide)) a4;have b0 := aB5 e3 (aA9 a0.out b2.out (by decide)) a0;clear e2 e3 K6;have f3 := c2c (jb K7 1 rfl);refine bodyPost_ret (v := .agg #[.slice oE1p n1 pE1p, .slice none 0 0]) (by simp [results, results123, go_sem, f3]) rfl ?_;exact ⟨_, _, rfl, ⟨by rw [aJ3, g2.out, h3.out, ← j0.out]; exact b0.out, World.ownsRow_nil _ _ _ _⟩, K7.hb⟩
  have f1 := HW.out.1;have b8 := hid HW.out.2.1;have b4 := hid HW.out.2.2.1;have c3 := hid HW.out.2.2.2.1;have a8 : Hid (wr.ownsRow B 9 1 (.slice oCx n1 pCx) n1 (cs.map Value.string)) := HW.out.2.2.2.2.1;have a1 : Hid (wr.ownsRow B 155 2 (.slice oPx n2 pPx) n2 (aA1 ws)) := HW.out.2.2.2.2.2.1;have a2 : Hid (wr.ownsRow w.heap.size 9 1 (.slice oE1p n1 pE1p) n1 ((aD8 cs ws (fun _ => true) j).map Value.string)) := HW.out.2.2.2.2.2.2
  clear HW;have h0 : j < ws.length := by rw [h3.out]; omega
  obtain ⟨g, rfl⟩ := aJ0 a1.out (by omega);obtain ⟨y, hy⟩ := exq (aC2 ws j);have HM : Hid (y ∈ ws) := by show _ ∈ _; rw [hy]; exact aI0 ws j h0
  have j8 : Hid (ws.take (j + 1) = ws.take j ++ [y]) := by show _ = _; rw [hy]; exact aP9 ws j h0
  have h9 : Hid (aC2 ws j = y) := hy.symm;clear hy h0;obtain ⟨y0, y1⟩ := y
  have b7 : Hid (∀ W : World, (W).ownsRow B 155 2 (.slice (some ⟨g, 0, none⟩) n2 pPx) n2 (aA1 ws) → (W.cell? ⟨g, j * 2, none⟩ = some (.int .i64 y0) ∧ W.cell? ⟨g, j * 2 + 1, none⟩ = some (.string y1))) := fun W h => by
   obtain ⟨g', hg, _, r0, r1⟩ := (aG0 h).2 j (by omega)
   cases hg
   rw [h9.out] at r0 r1
   exact ⟨r0, r1⟩
  obtain ⟨r0, r1⟩ := b7.out _ a1.out;obtain ⟨m, hm⟩ : ∃ m : Nat, y0 = (m : Int) := ⟨y0.toNat, by have := g0.out.2.2 _ HM.out; omega⟩;subst hm;have j3 : (m : Int) < (n1 : Int) := by have h1 := g0.out.2.2 _ HM.out; have h2 := g0.out.1; rw [g2.out] at h2; omega
  obtain ⟨gE, rfl⟩ := aJ0 a2.out (by omega);have d9 : Hid (((aD8 cs ws (fun _ => true) j).map Value.string)[m]? = some (.string (aA8 (aD8 cs ws (fun _ => true) j) m))) := by show _ = _; rw [List.getElem?_map, aQ6 _ m (by rw [aJ3, g2.out]; omega)]; rfl
  have f2 := c2c b8.out;go_upto_region 6 with fail
  clear f2;refine wp_region_held_drew (S := fun W => W.heap[q4]? = some (.cells #[.slice (some ⟨gE, 0, none⟩) n1 pE1p, .slice none 0 0] 39) ∧ W.heap[q1]? = some (.cells #[.slice oCx n1 pCx, .slice (some ⟨g, 0, none⟩) n2 pPx] 39) ∧ (W.cell? ⟨g, j * 2, none⟩ = some (.int .i64 (m : Int)) ∧ W.cell? ⟨g, j * 2 + 1, none⟩ = some (.string y1))) (by kernel_rfl) ⟨c3.out, b8.out, b7.out _ a1.out⟩ (fun _ => ?_)
  obtain ⟨w6, hX⟩ := exq wr.drew;have bw := bdr hX;rw [← hX];have e2 := hbt f1 bw;have a9 := hown a8 bw;have a4 := hown a1 bw;have a0 := hown a2 bw;have b9 := hblk b8 bw;have b2 := hblk b4 bw;have c0 := hblk c3 bw;have b3 := And.intro c0.out (And.intro b9.out (b7.out _ a4.out));clear f1 bw hX;have K6 := jz K4 e2 (jzb c0.out (jzb b2.out (jzb b9.out (jzn _))));refine tkP 0 (.pointer (some ⟨q4, 0, none⟩)) 34 rfl rfl b3 ?_;go_frame;refine tkL 1 (.slice (some ⟨gE, 0, none⟩) n1 pE1p) 35 rfl rfl (Or.inl ⟨by rfl, by intro W hW; obtain ⟨c5, c1, a5⟩ := hW; have y0 := c2c c5; go_simp⟩) b3 ?_;go_frame;refine tkP 2 (.pointer (some ⟨q1, 1, none⟩)) 36 rfl rfl b3 ?_;go_frame;refine tkL 3 (.slice (some ⟨g, 0, none⟩) n2 pPx) 37 rfl rfl (Or.inl ⟨by rfl, by intro W hW; obtain ⟨c5, c1, a5⟩ := hW; have y1 := c2c c1; go_simp⟩) b3 ?_;go_frame;refine tkP 4 (.int .i64 (j : Int)) 38 rfl rfl b3 (tkP 5 (.pointer (some ⟨g, j * 2, none⟩)) 39 rfl rfl b3 (tkP 6 (.pointer (some ⟨g, j * 2, none⟩)) 40 rfl rfl b3 ?_));go_frame;refine tkL 7 (.int .i64 (m : Int)) 41 rfl rfl (Or.inl ⟨by rfl, by intro W hW; obtain ⟨c5, c1, a5⟩ := hW; have y0 := a5.1; go_simp⟩) b3 ?_;go_frame;refine tkP 8 (.pointer (some ⟨q1, 1, none⟩)) 42 rfl rfl b3 ?_;go_frame;refine tkL 9 (.slice (some ⟨g, 0, none⟩) n2 pPx) 43 rfl rfl (Or.inl ⟨by rfl, by intro W hW; obtain ⟨c5, c1, a5⟩ := hW; have y1 := c2c c1; go_simp⟩) b3 ?_;go_frame;refine tkP 10 (.int .i64 (j : Int)) 44 rfl rfl b3 (tkP 11 (.pointer (some ⟨g, j * 2, none⟩)) 45 rfl rfl b3 (tkP 12 (.pointer (some ⟨g, j * 2 + 1, none⟩)) 46 rfl rfl b3 ?_));go_frame;refine tkL 13 (.string y1) 47 rfl rfl (Or.inl ⟨by rfl, by intro W hW; obtain ⟨c5, c1, a5⟩ := hW; have y1 := a5.2; go_simp⟩) b3 ?_;go_frame;refine tkP 14 (.pointer (some ⟨gE, m, none⟩)) 48 rfl rfl b3 ?_;go_frame;refine rd1 15 rfl (fun K hK => ?_)
  obtain ⟨j4, j5⟩ := aX8 a0.out m _ d9.out;obtain ⟨w7, hY⟩ := exq (w6.setCell ⟨gE, m, none⟩ (.string y1));have HY := hsy hY;have i0 : Bw w (w7) := by rw [hY]; exact e2.setCell (p := ⟨gE, m, none⟩) (aB7 a0.out rfl) _
  have c4 : Hid (w7.ownsRow B 9 1 (.slice oCx n1 pCx) n1 (cs.map Value.string)) := by show World.ownsRow _ _ _ _ _ _ _; rw [hY]; exact aA7 a9.out (fun g hg => heap_setCell_other _ _ g _ (fun e => (fun e => by have h1 := e8.out g e; have h2 := g1.out g hg; have := i4.out; have := i6.out; have := i8.out; omega) (show (Value.ownBlock (.slice (some ⟨gE, 0, none⟩) n1 pE1p)) = some g by rw [e]; rfl)))
  have b5 : Hid (w7.ownsRow B 155 2 (.slice (some ⟨g, 0, none⟩) n2 pPx) n2 (aA1 ws)) := by show World.ownsRow _ _ _ _ _ _ _; rw [hY]; exact aA7 a4.out (fun g hg => heap_setCell_other _ _ g _ (fun e => (aB4 a4.out a0.out (by decide) g hg) (show (Value.ownBlock (.slice (some ⟨gE, 0, none⟩) n1 pE1p)) = some g by rw [e]; rfl)))
  have e0 : Hid (w7.heap[q1]? = some (.cells #[.slice oCx n1 pCx, .slice (some ⟨g, 0, none⟩) n2 pPx] 39)) := by show _ = _; rw [hY]; exact (heap_setCell_other _ _ q1 _ (fun e => aA9 a0.out b9.out (by decide) gE rfl e.symm)).trans b9.out
  have f4 : Hid (w7.heap[q2]? = some (.cells #[.slice none 0 0, .slice none 0 0] 39)) := by show _ = _; rw [hY]; exact (heap_setCell_other _ _ q2 _ (fun e => aA9 a0.out b2.out (by decide) gE rfl e.symm)).trans b2.out
  have e1 : Hid (w7.heap[q4]? = some (.cells #[.slice (some ⟨gE, 0, none⟩) n1 pE1p, .slice none 0 0] 39)) := by show _ = _; rw [hY]; exact (heap_setCell_other _ _ q4 _ (fun e => aA9 a0.out c0.out (by decide) gE rfl e.symm)).trans c0.out
  have b0 : Hid (w7.ownsRow w.heap.size 9 1 (.slice (some ⟨gE, 0, none⟩) n1 pE1p) n1 (((aD8 cs ws (fun _ => true) j).set m y1).map Value.string)) := by show World.ownsRow _ _ _ _ _ _ _; rw [hY, List.map_set]; exact aT0 a0.out _ _
  have K7 := jz K6 i0 (jzb e1.out (jzb f4.out (jzb e0.out (jzn _))));clear hY e2 K6;go_simp;rw [HY.out];have i1 := And.intro e1.out (And.intro e0.out (b7.out _ b5.out));refine hK.out _ _ i1 (fun _ => ?_)
  clear hK K HY b3 j4 j5;clear i1;refine wdn ?_
  have j6 : Hid (aD8 cs ws (fun _ => true) (j + 1) = ((aD8 cs ws (fun _ => true) j).set m y1)) := by
   show _ = _
   rw [aD8, if_pos rfl, h9.out]; rfl
  have j7 : Hid (w7.ownsRow w.heap.size 9 1 (.slice (some ⟨gE, 0, none⟩) n1 pE1p) n1 ((aD8 cs ws (fun _ => true) (j + 1)).map Value.string)) := by show World.ownsRow _ _ _ _ _ _ _; rw [j6.out]; exact b0.out
  go_wp2_with fail
  go_roundw
  case rel => exact ⟨j + 1, by omega, by go_num, ⟨i0, e0.out, f4.out, e1.out, c4.out, b5.out, j7.out⟩⟩
  case measure => simp [intOf]; omega
theorem aZ5 (v1 v2 : Value) (n1 : Nat) (cs : Ts) (n2 : Nat) (ws : List (Int × ByteArray)) (B : Nat) (w : World) (h : aD3 w B v1 n1 cs v2 n2 ws) (hn1 : n1 ≤ 2000000) (hn2 : n2 ≤ 2000000) :
  Calls prog 61 #[.agg #[v1, v2]] w fun e w' => aU3 (aL5 cs ws (fun _ => true)) [] w e w' := by
 obtain ⟨c7, c8, rfl⟩ := aA0 h.cells;have b1 : Hid (w.ownsRow B 9 1 (.slice c7 n1 c8) n1 (cs.map Value.string)) := h.cells;obtain ⟨c9, d0, rfl⟩ := aA0 h.pend;have b2 : Hid (w.ownsRow B 155 2 (.slice c9 n2 d0) n2 (aA1 ws)) := h.pend;clear h;have K0 := jnil w;go_enter func61, ntmps61;go_upto_region 1 with fail
 obtain ⟨q1, c1⟩ := exq (w.heap.size);obtain ⟨w1, b8⟩ := exq (w.alloc (.cells #[.slice c7 n1 c8, .slice c9 n2 d0] 39));have c2 := c1.symm;rw [← b8]; try rw [← c1];have d1 := hsa b8 c2;have bw := bal b8;have K1 := ja K0 b8 c2;have b3 := hown b1 bw;have b4 := hown b2 bw;clear bw b8 c2 K0;obtain ⟨q2, c3⟩ := exq (q1 + 1);obtain ⟨w2, b9⟩ := exq (w1.alloc (.cells #[.slice none 0 0, .slice none 0 0] 39));have c4 : w1.heap.size = q2 := by rw [c3]; exact d1
 rw [← b9]; try rw [← c3];have d7 := hsa b9 c4;have bw := bal b9;have K2 := ja K1 b9 c4;have a6 := hown b3 bw;have a7 := hown b4 bw;clear bw b9 c4 K1;clear d7 c3 d1 c1;have b5 := c2c (jb K2 1 rfl);go_wp2_with fail
 refine (aQ7 _ _ n1 cs n2 ws B _ ⟨a6.out, a7.out⟩ hn1 hn2).mono ?_;rintro e w3 ⟨uo, rfl, b0, bw⟩;have K3 := jw K2 bw;have a3 := hown a6 bw;have a4 := hown a7 bw;clear bw K2;clear b5;cases uo
 ·have d8 : Hid (¬ aG5 cs ws) := fun h => nomatch b0.2 h
  clear b0;have c5 := c2f (jb K3 0 rfl);go_wp2_with fail
  obtain ⟨w4, c0⟩ := exq (w3.setCell ⟨q2, 0, none⟩ (.slice none 0 0));rw [← c0];have K4 := js K3 0 c0;have a0 := aB5 c0 (aA9 a3.out (jb K3 0 rfl) (by decide)) a3;have a1 := aB5 c0 (aA9 a4.out (jb K3 0 rfl) (by decide)) a4;clear c0 K3;obtain ⟨w5, a8⟩ := exq (w4.setCell ⟨q2, 1, none⟩ (.slice none 0 0));rw [← a8];have K5 := js K4 0 a8;have b6 := aB5 a8 (aA9 a0.out (jb K4 0 rfl) (by decide)) a0;have b7 := aB5 a8 (aA9 a1.out (jb K4 0 rfl) (by decide)) a1;clear a8 K4;have a9 := c2c (jb K5 0 rfl);refine bodyPost_ret (v := .agg #[.slice none 0 0, .slice none 0 0]) (by simp [results, results61, go_sem, a9]) rfl ?_;rw [cB0 d8.out];exact ⟨_, _, rfl, aY7 _ _, K5.hb⟩
 have d2 : Hid (aG5 cs ws) := b0.1 rfl;clear b0;have b5 := c2c (jb K3 1 rfl);go_wp2_with fail
 refine (bY7 _ _ n1 cs n2 ws B _ ⟨a3.out, a4.out⟩ hn1 hn2 d2.out).mono ?_;rintro e w4 ⟨e0, d9, rfl, ⟨a5, a2⟩, bw⟩;obtain ⟨d3, d4, rfl⟩ := aA0 a5;replace a2 := (show World.ownsRow _ _ _ _ d9 0 _ from a2)
 obtain ⟨d5, d6, rfl⟩ := aA0 a2;have K4 := jj K3 (jcR (jcR (jN bw) a5 jhn) a2 (jhc (jty a2 a5) jhn));have a0 := hown a3 bw;have a1 := hown a4 bw;clear a5;clear a2;clear bw K3;clear b5;have c5 := c2f (jb K4 2 rfl);go_wp2_with fail
 obtain ⟨w5, a8⟩ := exq (w4.setCell ⟨q2, 0, none⟩ (.slice d3 (aD8 cs ws (fun _ => true) ws.length).length d4))
 rw [← a8];have K5 := js K4 2 a8;have b6 := aB5 a8 (aA9 a0.out (jb K4 2 rfl) (by decide)) a0;have b7 := aB5 a8 (aA9 a1.out (jb K4 2 rfl) (by decide)) a1;clear a8 K4;obtain ⟨w6, c6⟩ := exq (w5.setCell ⟨q2, 1, none⟩ (.slice d5 0 d6));rw [← c6];have K6 := js K5 2 c6;clear c6 K5;have a9 := c2c (jb K6 2 rfl);refine bodyPost_ret (v := .agg #[.slice d3 (aD8 cs ws (fun _ => true) ws.length).length d4, .slice d5 0 d6]) (by simp [results, results61, go_sem, a9]) rfl ?_
 rw [aR2 d2.out];exact ⟨_, _, rfl, ⟨(jo K6 1 rfl), (jo K6 0 rfl)⟩, K6.hb⟩
structure aF7 (s : ShD) : Prop where
 c : s.cs.length ≤ 1048576
 w : s.ws.length ≤ 1048576
 k : s.ks.length ≤ 1048576
 b : s.bl.length ≤ 1048576
 ct : ∀ i, i < s.cs.length → (aA8 s.cs i).size ≤ 1048576
 wt : ∀ x ∈ s.ws, x.2.size ≤ 1048576
 ks : ∀ k ∈ s.ks, aF9 k
 bt : ∀ x ∈ s.bl, x.2.1.size ≤ 1048576 ∧ x.2.2.1.size ≤ 1048576
theorem aF7.bm {s : ShD} (h : aF7 s) : ∀ x ∈ s.bl, x.2.1.size ≤ maxLen ∧ x.2.2.1.size ≤ maxLen := fun x hx => ⟨Nat.le_trans (h.bt x hx).1 (by decide), Nat.le_trans (h.bt x hx).2 (by decide)⟩
theorem aF7.kv {s : ShD} (h : aF7 s) {kv : Ks} (hk : kv.map (·.1) = s.ks) {x : KpD × Value × Value × Value} (hx : x ∈ kv) : aF9 x.1 := h.ks x.1 (by rw [← hk]; exact List.mem_map.2 ⟨x, hx, rfl⟩)
theorem bH7 (v1 v2 V VB : Value) (kv : Ks) (s : ShD) (B : Nat) (w : World) (h : aD1 w B v1 v2 V VB kv s) (hz : aF7 s) :
  Calls prog 31 #[.agg #[v1, v2, V, VB, .int .i64 s.nx, .int .i64 s.sq]] w fun e w' => aA4 (aI5 s) w e w' := by
 obtain ⟨o1, c1, e1⟩ := aA0 h.disk.cells;obtain ⟨o2, c2, e2⟩ := aA0 h.disk.pend;obtain ⟨o3, c3, e3⟩ := aA0 h.kept.row;obtain ⟨o4, c4, e4⟩ := aA0 h.bans;subst e1 e2 e3 e4;obtain ⟨n1, j8⟩ := exq (s.cs.length);obtain ⟨n2, j9⟩ := exq (s.ws.length);obtain ⟨n3, i4⟩ := exq kv.length;obtain ⟨n4, k0⟩ := exq (s.bl.length);rw [← j8, ← j9, ← i4, ← k0] at h ⊢;have b5 : Hid (s.cs.length = n1 ∧ s.ws.length = n2 ∧ kv.length = n3 ∧ s.bl.length = n4) := ⟨j8.symm, j9.symm, i4.symm, k0.symm⟩;have d1 : Hid (kv.map (·.1) = s.ks) := h.2;have HZ := hid hz;have s6 : n1 ≤ 1048576 := by rw [j8]; exact hz.c
 have s7 : n2 ≤ 1048576 := by rw [j9]; exact hz.w
 have s8 : n3 ≤ 1048576 := by rw [i4, ← List.length_map (f := (·.1)), h.2]; exact hz.k
 have s9 : n4 ≤ 1048576 := by rw [k0]; exact hz.b
 have k1 : Hid (∀ W, Bw w W → aD1 W B (.slice o1 n1 c1) (.slice o2 n2 c2) (.slice o3 n3 c3) (.slice o4 n4 c4) kv s) := fun W hb => h.below hb
 have d3 : Hid (∀ W, Bw w W → aB8 W B (.slice o3 n3 c3) kv) := fun W hb => (h.below hb).kept
 have d2 : Hid (kv.length = n3) := i4.symm;clear j8 j9 i4 k0 h hz;have K0 := jnil w;go_enter func31, ntmps31;go_upto_region 1 with fail
 obtain ⟨q1, k5⟩ := exq (w.heap.size);obtain ⟨w1, i5⟩ := exq (w.alloc (.cells #[.slice o1 n1 c1, .slice o2 n2 c2, .slice o3 n3 c3, .slice o4 n4 c4, .int .i64 s.nx, .int .i64 s.sq] 43));have k6 := k5.symm;rw [← i5]; try rw [← k5];have q6 := hsa i5 k6;have bw := bal i5;have K1 := ja K0 i5 k6;clear bw i5 k6 K0;clear q6 k5;have k7 := c6c (jb K1 0 rfl);go_wp2_with fail
 refine (aQ7 _ _ n1 s.cs n2 s.ws B _ (by have hd := (k1.out _ K1.hb).disk; rw [b5.out.1, b5.out.2.1] at hd; exact hd) (by omega) (by omega)).mono ?_;rintro e w2 ⟨ud, rfl, k2, bw⟩;have K2 := jw K1 bw;clear bw K1;clear k7;cases ud
 ·have k8 : Hid (¬ (aG5 s.cs s.ws)) := fun h => nomatch k2.2 h
  clear k2;go_wp2_with fail
  go_ret;exact aA4.no (fun h => k8.out h.1) K2.hb
 have k9 : Hid (aG5 s.cs s.ws) := k2.1 rfl;clear k2;by_cases hc1 : 5 < (n4 : Int)
 ·have l0 : Hid (¬ n4 ≤ 5) := (by have := hc1; show ¬ _; omega);have d4 := c6c (jb K2 0 rfl);go_wp2_with fail
  go_ret;have q7 := K2.hb;exact aA4.no (fun h => by have h1 := h.2.1; have h5 := l0.out; rw [b5.out.2.2.2] at h1; omega) q7
 have l0 : Hid (n4 ≤ 5) := (by have := hc1; show _ ≤ _; omega);have d4 := c6c (jb K2 0 rfl);go_wp2_with fail
 refine (aH6 s.nx 5 19 _).mono ?_;rintro e w3 ⟨rfl, b6⟩;have bw : Below w2.heap.size (w2) w3 := by rw [b6]; exact Below.refl _ _
 clear b6;obtain ⟨q8, d7⟩ : ∃ u, u = decide ((5 : Int) ≤ s.nx ∧ s.nx ≤ 19) := ⟨_, rfl⟩;rw [← d7];have K3 := jw K2 bw;clear bw K2;clear d4;cases q8
 ·have i6 : Hid (¬ (5 ≤ s.nx ∧ s.nx ≤ 19)) := (show ¬ (5 ≤ s.nx ∧ s.nx ≤ 19) from of_decide_eq_false d7.symm);clear d7;go_wp2_with fail
  go_ret;exact aA4.no (fun h => i6.out h.2.2.1) K3.hb
 have i7 : Hid (5 ≤ s.nx ∧ s.nx ≤ 19) := (show (5 ≤ s.nx ∧ s.nx ≤ 19) from of_decide_eq_true d7.symm);clear d7;have l1 := c6c (jb K3 0 rfl);go_wp2_with fail
 refine (aH6 s.sq 1 100000 _).mono ?_;rintro e w4 ⟨rfl, b6⟩;have bw : Below w3.heap.size (w3) w4 := by rw [b6]; exact Below.refl _ _
 clear b6;obtain ⟨q9, d8⟩ : ∃ u, u = decide ((1 : Int) ≤ s.sq ∧ s.sq ≤ 100000) := ⟨_, rfl⟩;rw [← d8];have K4 := jw K3 bw;clear bw K3;clear l1;cases q9
 ·have i8 : Hid (¬ (1 ≤ s.sq ∧ s.sq ≤ 100000)) := (show ¬ (1 ≤ s.sq ∧ s.sq ≤ 100000) from of_decide_eq_false d8.symm);clear d8;go_wp2_with fail
  go_ret;exact aA4.no (fun h => i8.out h.2.2.2.1) K4.hb
 have d9 : Hid (1 ≤ s.sq ∧ s.sq ≤ 100000) := (show (1 ≤ s.sq ∧ s.sq ≤ 100000) from of_decide_eq_true d8.symm);clear d8;have t0 := d9.out.1;have t1 := d9.out.2;have t2 : IntKind.i64.wrap (s.sq - 1) = s.sq - 1 := by rw [IntKind.wrap_i64]; omega
 go_wp2_with fail
 go_loopw [3] (fun i wr => ∃ j : Nat, j ≤ n4 ∧ i = .int .i64 (j : Int) ∧ Hid (Bw w (wr) ∧ wr.heap[q1]? = some (.cells #[.slice o1 n1 c1, .slice o2 n2 c2, .slice o3 n3 c3, .slice o4 n4 c4, .int .i64 s.nx, .int .i64 s.sq] 43)) ∧ Hid (∀ x ∈ s.bl.take j, BanP x.1 x.2.1 x.2.2.1 x.2.2.2)) (fun i _ => n4 - (intOf i).toNat)
 case atStart => exact ⟨0, Nat.zero_le _, rfl, ⟨K4.hb, (jb K4 0 rfl)⟩, fun x hx => by simp at hx⟩
 case round =>
  obtain ⟨j, hj, rfl, HW, HN⟩ := hrel;by_cases hlt : (j : Int) < (n4 : Int)
  ·have f8 := HW.out.1;have d5 := hid HW.out.2;clear HW;have l2 := (k1.out _ f8).bans;try rw [b5.out.2.2.2] at l2
   have o9 := aN5 l2;clear l2;obtain ⟨g4, r0, r5, r1, r2, r3, r4⟩ := o9.2 j (by first | omega | (rw [b5.out.2.2.2]; omega));clear o9;subst r0;obtain ⟨y, hy⟩ := exq (aF4 s.bl j);rw [← hy] at r1 r2 r3 r4;have HM : Hid (y ∈ s.bl) := by show _ ∈ _; rw [hy]; exact aR3 s.bl j (by rw [b5.out.2.2.2]; omega)
   have r6 : Hid (s.bl.take (j + 1) = s.bl.take j ++ [y]) := by show _ = _; rw [hy]; exact aR4 s.bl j (by rw [b5.out.2.2.2]; omega)
   clear hy r5;obtain ⟨y0, y1, y2, y3⟩ := y;dsimp only at r1 r2 r3 r4;have d4 := c6c d5.out;go_wp2_with fail
   refine (aN4 y0 y1 y2 y3 _ (HZ.out.bm _ HM.out).1 (HZ.out.bm _ HM.out).2).mono ?_;rintro e w6 ⟨ub, rfl, k3, bw⟩;have b3 := hbt f8 bw;have d0 := hblk d5 bw;clear f8 bw;clear r1 r2 r3 r4 d4;have K6 := jz K4 b3 (jzb d0.out (jzn _));cases ub
   ·have l3 : Hid (¬ (BanP y0 y1 y2 y3)) := fun h => nomatch k3.2 h
    clear k3;go_wp2_with fail
    go_ret;exact aA4.no (fun h => l3.out (h.2.2.2.2.1 _ HM.out)) b3
   have l4 : Hid (BanP y0 y1 y2 y3) := k3.1 rfl;clear k3
   have i9 : Hid (∀ x ∈ s.bl.take (j + 1), BanP x.1 x.2.1 x.2.2.1 x.2.2.2) := fun x hx => by
    rw [r6.out] at hx
    rcases List.mem_append.1 hx with hx | hx
    ·exact HN.out x hx
    ·rw [List.mem_singleton.1 hx]; exact l4.out
   go_wp2_with fail
   go_roundw
   case rel => exact ⟨j + 1, by omega, by go_num, ⟨b3, d0.out⟩, i9⟩
   case measure => simp [intOf]; omega
  have f8 := HW.out.1;have d5 := hid HW.out.2;clear HW;have r7 : Hid (∀ x ∈ s.bl, BanP x.1 x.2.1 x.2.2.1 x.2.2.2) := fun x hx => HN.out x (by rw [List.take_of_length_le (by rw [b5.out.2.2.2]; omega)]; exact hx)
  clear HN;have d4 := c6c d5.out;go_wp2_with fail
  clear d4;obtain ⟨wA, p0⟩ := exq wr;rw [← p0] at f8 d5 ⊢;clear p0;go_loopw [4] (fun i wr => ∃ i' : Nat, i' ≤ n3 ∧ i = .int .i64 (i' : Int) ∧ Hid (Bw w (wr) ∧ wr.heap[q1]? = some (.cells #[.slice o1 n1 c1, .slice o2 n2 c2, .slice o3 n3 c3, .slice o4 n4 c4, .int .i64 s.nx, .int .i64 s.sq] 43)) ∧ Hid (∀ m, m < i' → KpOk s.ks s.sq m)) (fun i _ => n3 - (intOf i).toNat)
  case atStart => exact ⟨0, Nat.zero_le _, rfl, ⟨f8, d5.out⟩, fun m hm => absurd hm (by omega)⟩
  case round =>
   obtain ⟨i, hi, rfl, HW, HN⟩ := hrel;by_cases hlt : (i : Int) < (n3 : Int)
   rotate_left
   ·have b3 := HW.out.1;have d0 := hid HW.out.2;clear HW f8;have r8 : Hid (∀ m, m < s.ks.length → KpOk s.ks s.sq m) := fun m hm => HN.out m (by rw [← d1.out, List.length_map, b5.out.2.2.1] at hm; omega)
    clear HN;have j0 := c6c d0.out;go_wp2_with fail
    go_ret;exact aA4.yes ⟨k9.out, by rw [b5.out.2.2.2]; exact l0.out, i7.out, d9.out, r7.out, r8.out⟩ b3
   have b3 := HW.out.1;have d0 := hid HW.out.2;clear HW f8;obtain ⟨g3, p3, hV, _, _⟩ := (d3.out _ b3).look i (by rw [d2.out]; omega);rw [d2.out] at hV;injection hV with hV1 hV2 hV3
   subst hV1 hV3;clear hV2;obtain ⟨xX, j1⟩ := exq (kvAt kv i);have g1 : Hid (xX ∈ kv) := by show _ ∈ _; rw [j1]; exact aQ1 kv i (by rw [d2.out]; omega)
   have f2 : Hid (kpAt s.ks i = xX.1) := by show _ = _; rw [j1, ← d1.out]; exact (aK6 kv i (by rw [d2.out]; omega)).symm
   have r9 : Hid (kv.take (i + 1) = kv.take i ++ [xX]) := by show _ = _; rw [j1]; exact aM6 kv i (by rw [d2.out]; omega)
   have f4 : Hid (∀ W, Bw w W → KpAt W g3 i xX) := fun W hb => by
    obtain ⟨g', p', hV, _, hc⟩ := (d3.out W hb).look i (by rw [d2.out]; omega)
    injection hV with hV1 _ _
    cases hV1
    rw [j1]
    exact hc
   clear j1;obtain ⟨x, l5, l6, l7⟩ := xX;obtain ⟨ku1, kc1, hu⟩ := aA0 ((d3.out _ b3).names g1.out);have b7 : l5 = .slice ku1 x.xs.length kc1 := hu;subst b7;clear hu;obtain ⟨ku2, kc2, hu⟩ := aA0 ((d3.out _ b3).vals g1.out);have b7 : l6 = .slice ku2 x.ys.length kc2 := hu;subst b7;clear hu;obtain ⟨ku3, kc3, hu⟩ := aA0 ((d3.out _ b3).flds g1.out);have b7 : l7 = .slice ku3 x.fs.length kc3 := hu;subst b7;clear hu;have p1 := (f4.out _ b3).c0;have p2 := (f4.out _ b3).c1;have p4 := (f4.out _ b3).c2;have p5 := (f4.out _ b3).c3;have p6 := (f4.out _ b3).c4;have p7 := (f4.out _ b3).c5;have p8 := (f4.out _ b3).c6;have p9 := (f4.out _ b3).c7;have q0 := (f4.out _ b3).c8;dsimp only at p1 p2 p4 p5 p6 p7 p8 p9 q0;have j0 := c6c d0.out;go_upto_region 12 with fail
   obtain ⟨q2, l8⟩ := exq (wr.heap.size);obtain ⟨w7, j2⟩ := exq (wr.alloc (.cells #[.string x.p, .slice ku1 x.xs.length kc1, .slice ku2 x.ys.length kc2, .int .i64 x.st, .slice ku3 x.fs.length kc3, .string x.b, .int .i64 x.t, .int .i64 x.a, .int .i64 x.q] 82));have l9 := l8.symm;rw [← j2]; try rw [← l8];have s0 := hsa j2 l9;have bw := bal j2;have f9 := hbt b3 bw;have g2 := hblk d0 bw;have f5 := hnew j2 l9;clear b3 bw j2 l9;clear s0 l8;clear p1 p2 p4 p5 p6 p7 p8 p9 q0 j0;have K7 := jz K4 f9 (jzb g2.out (jzn _));go_upto_region 12 with fail
   by_cases hi0 : (0 : Int) < (i : Int)
   rotate_left
   ·have s1 : i = 0 := by omega
    go_upto_region 12 with fail
    refine wp_region_held_drew (S := fun W => W.heap[q2]? = some (.cells #[.string x.p, .slice ku1 x.xs.length kc1, .slice ku2 x.ys.length kc2, .int .i64 x.st, .slice ku3 x.fs.length kc3, .string x.b, .int .i64 x.t, .int .i64 x.a, .int .i64 x.q] 82) ∧ W.heap[q1]? = some (.cells #[.slice o1 n1 c1, .slice o2 n2 c2, .slice (some ⟨g3, 0, none⟩) n3 c3, .slice o4 n4 c4, .int .i64 s.nx, .int .i64 s.sq] 43)) (by kernel_rfl) ⟨f5.out, g2.out⟩ (fun _ => ?_)
    obtain ⟨w8, hX⟩ := exq w7.drew;have bw := bdr hX;rw [← hX];have K8 := jw K7 bw;have e0 := hblk f5 bw;have g5 := And.intro e0.out (jb K8 0 rfl);clear f9 bw hX K7;refine tkP 0 (.pointer (some ⟨q2, 0, none⟩)) 55 rfl rfl g5 ?_;go_frame;refine tkL 1 (.agg #[.string x.p, .slice ku1 x.xs.length kc1, .slice ku2 x.ys.length kc2, .int .i64 x.st, .slice ku3 x.fs.length kc3, .string x.b, .int .i64 x.t]) 56 rfl rfl (Or.inl ⟨by rfl, by intro W hW; obtain ⟨a3, a4⟩ := hW; have y0 := c9c a3; go_simp⟩) g5 ?_;go_frame;refine rd1 2 rfl (fun K hK => ?_)
    go_simp;refine (bG8 x _ _ _ _ ((k1.out _ K8.hb).kept.read g1.out) (HZ.out.kv d1.out g1.out)).mono ?_;rintro e w9 ⟨uo, rfl, f6, bw⟩;have K9 := jw K8 bw;have e5 := hblk e0 bw;clear bw K8;have a2 := And.intro e5.out (jb K9 0 rfl);refine hK.out _ _ a2 (fun _ => ?_)
    clear hK K g5;cases uo
    ·have g6 : Hid (¬ (ObjK x)) := fun h => nomatch f6.2 h
     clear f6;refine tkP 3 (.bool true) 58 rfl rfl a2 (tkP 4 (.bool true) 59 rfl rfl a2 (tkN 5 60 rfl rfl a2 ?_));go_frame;refine tkN 6 61 rfl rfl a2 (tkN 7 62 rfl rfl a2 (tkN 8 63 rfl rfl a2 ?_));go_frame;refine tkP 9 (.bool true) 64 rfl rfl a2 (tkP 10 (.bool true) 65 rfl rfl a2 (tkN 11 66 rfl rfl a2 ?_));go_frame;refine tkN 12 67 rfl rfl a2 (tkN 13 68 rfl rfl a2 (tkN 14 69 rfl rfl a2 ?_));go_frame;refine tkN 15 70 rfl rfl a2 (tkN 16 71 rfl rfl a2 (tkN 17 72 rfl rfl a2 ?_));go_frame;refine tkP 18 (.bool true) 73 rfl rfl a2 (tkP 19 (.bool true) 74 rfl rfl a2 (tkN 20 75 rfl rfl a2 ?_));go_frame;refine tkN 21 76 rfl rfl a2 (tkN 22 77 rfl rfl a2 (tkN 23 78 rfl rfl a2 ?_));go_frame;refine tkN 24 79 rfl rfl a2 (tkN 25 80 rfl rfl a2 (tkN 26 81 rfl rfl a2 ?_));go_frame;refine tkN 27 82 rfl rfl a2 (tkN 28 83 rfl rfl a2 (tkN 29 84 rfl rfl a2 ?_));go_frame;refine tkN 30 85 rfl rfl a2 (tkN 31 86 rfl rfl a2 (tkN 32 87 rfl rfl a2 ?_));go_frame;refine tkN 33 88 rfl rfl a2 (tkP 34 (.bool true) 89 rfl rfl a2 ?_);go_frame;clear a2;refine wdn ?_;go_wp2_with fail
     go_ret;have m0 := K9.hb;exact aA4.no (fun h => by have hk := h.2.2.2.2.2 i (by rw [← d1.out, List.length_map, b5.out.2.2.1]; omega); unfold KpOk at hk; rw [f2.out] at hk; exact g6.out hk.1) m0
    have g7 : Hid (ObjK x) := f6.1 rfl;clear f6;refine tkP 3 (.bool false) 58 rfl rfl a2 (tkP 4 (.bool false) 59 rfl rfl a2 (tkP 5 (.pointer (some ⟨q2, 7, none⟩)) 60 rfl rfl a2 ?_));go_frame;refine tkL 6 (.int .i64 x.a) 61 rfl rfl (Or.inl ⟨by rfl, by intro W hW; obtain ⟨a3, a4⟩ := hW; have y7 := c9c a3; go_simp⟩) a2 ?_;go_frame;refine rd1 7 rfl (fun K hK => ?_)
    go_simp;refine (aH6 x.a 5 19 _).mono ?_;rintro e g8 ⟨rfl, b6⟩;have bw : Below w9.heap.size (w9) g8 := by rw [b6]; exact Below.refl _ _
    clear b6;obtain ⟨m1, a9⟩ : ∃ u, u = decide ((5 : Int) ≤ x.a ∧ x.a ≤ 19) := ⟨_, rfl⟩;rw [← a9];have f3 := jw K9 bw;have b8 := hblk e5 bw;clear bw K9;have a1 := And.intro b8.out (jb f3 0 rfl);refine hK.out _ _ a1 (fun _ => ?_)
    clear hK K a2;cases m1
    ·have e6 : Hid (¬ (5 ≤ x.a ∧ x.a ≤ 19)) := (show ¬ (5 ≤ x.a ∧ x.a ≤ 19) from of_decide_eq_false a9.symm);clear a9;refine tkP 8 (.bool true) 63 rfl rfl a1 (tkP 9 (.bool true) 64 rfl rfl a1 (tkP 10 (.bool true) 65 rfl rfl a1 ?_));go_frame;refine tkN 11 66 rfl rfl a1 (tkN 12 67 rfl rfl a1 (tkN 13 68 rfl rfl a1 ?_));go_frame;refine tkN 14 69 rfl rfl a1 (tkN 15 70 rfl rfl a1 (tkN 16 71 rfl rfl a1 ?_));go_frame;refine tkN 17 72 rfl rfl a1 (tkP 18 (.bool true) 73 rfl rfl a1 (tkP 19 (.bool true) 74 rfl rfl a1 ?_));go_frame;refine tkN 20 75 rfl rfl a1 (tkN 21 76 rfl rfl a1 (tkN 22 77 rfl rfl a1 ?_));go_frame;refine tkN 23 78 rfl rfl a1 (tkN 24 79 rfl rfl a1 (tkN 25 80 rfl rfl a1 ?_));go_frame;refine tkN 26 81 rfl rfl a1 (tkN 27 82 rfl rfl a1 (tkN 28 83 rfl rfl a1 ?_));go_frame;refine tkN 29 84 rfl rfl a1 (tkN 30 85 rfl rfl a1 (tkN 31 86 rfl rfl a1 ?_));go_frame;refine tkN 32 87 rfl rfl a1 (tkN 33 88 rfl rfl a1 (tkP 34 (.bool true) 89 rfl rfl a1 ?_));go_frame;clear a1;refine wdn ?_;go_wp2_with fail
     go_ret;have g9 := f3.hb;exact aA4.no (fun h => by have hk := h.2.2.2.2.2 i (by rw [← d1.out, List.length_map, b5.out.2.2.1]; omega); unfold KpOk at hk; rw [f2.out] at hk; exact e6.out hk.2.1) g9
    have e7 : Hid (5 ≤ x.a ∧ x.a ≤ 19) := (show (5 ≤ x.a ∧ x.a ≤ 19) from of_decide_eq_true a9.symm);clear a9;refine tkP 8 (.bool false) 63 rfl rfl a1 (tkP 9 (.bool false) 64 rfl rfl a1 (tkP 10 (.bool false) 65 rfl rfl a1 ?_));go_frame;refine tkP 11 (.pointer (some ⟨q2, 8, none⟩)) 66 rfl rfl a1 ?_;go_frame;refine tkL 12 (.int .i64 x.q) 67 rfl rfl (Or.inl ⟨by rfl, by intro W hW; obtain ⟨a3, a4⟩ := hW; have y8 := c9c a3; go_simp⟩) a1 ?_;go_frame;refine tkP 13 (.pointer (some ⟨q1, 5, none⟩)) 68 rfl rfl a1 ?_;go_frame;refine tkL 14 (.int .i64 s.sq) 69 rfl rfl (Or.inl ⟨by rfl, by intro W hW; obtain ⟨a3, a4⟩ := hW; have y5 := c6c a4; go_simp⟩) a1 ?_;go_frame;refine tkP 15 (.int .i64 (s.sq - 1)) 70 rfl rfl a1 ?_;go_frame;refine rd1 16 rfl (fun K hK => ?_)
    go_simp;refine (aH6 x.q 1 (s.sq - 1) _).mono ?_;rintro e j3 ⟨rfl, b6⟩;have bw : Below g8.heap.size (g8) j3 := by rw [b6]; exact Below.refl _ _
    clear b6;obtain ⟨m2, b0⟩ : ∃ u, u = decide ((1 : Int) ≤ x.q ∧ x.q ≤ (s.sq - 1)) := ⟨_, rfl⟩;rw [← b0];have d6 := jw f3 bw;have b1 := hblk b8 bw;clear bw f3;have a0 := And.intro b1.out (jb d6 0 rfl);refine hK.out _ _ a0 (fun _ => ?_)
    clear hK K a1;cases m2
    ·have e8 : Hid (¬ (1 ≤ x.q ∧ x.q ≤ (s.sq - 1))) := (show ¬ (1 ≤ x.q ∧ x.q ≤ (s.sq - 1)) from of_decide_eq_false b0.symm);clear b0;refine tkP 17 (.bool true) 72 rfl rfl a0 (tkP 18 (.bool true) 73 rfl rfl a0 (tkP 19 (.bool true) 74 rfl rfl a0 ?_));go_frame;refine tkN 20 75 rfl rfl a0 (tkN 21 76 rfl rfl a0 (tkN 22 77 rfl rfl a0 ?_));go_frame;refine tkN 23 78 rfl rfl a0 (tkN 24 79 rfl rfl a0 (tkN 25 80 rfl rfl a0 ?_));go_frame;refine tkN 26 81 rfl rfl a0 (tkN 27 82 rfl rfl a0 (tkN 28 83 rfl rfl a0 ?_));go_frame;refine tkN 29 84 rfl rfl a0 (tkN 30 85 rfl rfl a0 (tkN 31 86 rfl rfl a0 ?_));go_frame;refine tkN 32 87 rfl rfl a0 (tkN 33 88 rfl rfl a0 (tkP 34 (.bool true) 89 rfl rfl a0 ?_));go_frame;clear a0;refine wdn ?_;go_wp2_with fail
     go_ret;have a6 := d6.hb;exact aA4.no (fun h => by have hk := h.2.2.2.2.2 i (by rw [← d1.out, List.length_map, b5.out.2.2.1]; omega); unfold KpOk at hk; rw [f2.out] at hk; exact e8.out hk.2.2.1) a6
    have e9 : Hid (1 ≤ x.q ∧ x.q ≤ (s.sq - 1)) := (show (1 ≤ x.q ∧ x.q ≤ (s.sq - 1)) from of_decide_eq_true b0.symm);clear b0;refine tkP 17 (.bool false) 72 rfl rfl a0 (tkP 18 (.bool false) 73 rfl rfl a0 (tkP 19 (.bool false) 74 rfl rfl a0 ?_));go_frame;refine tkP 20 (.int .i64 (i : Int)) 75 rfl rfl a0 (tkP 21 (.bool false) 76 rfl rfl a0 (tkP 22 (.bool false) 77 rfl rfl a0 ?_));go_frame;refine tkN 23 78 rfl rfl a0 (tkN 24 79 rfl rfl a0 (tkN 25 80 rfl rfl a0 ?_));go_frame;refine tkN 26 81 rfl rfl a0 (tkN 27 82 rfl rfl a0 (tkN 28 83 rfl rfl a0 ?_));go_frame;refine tkN 29 84 rfl rfl a0 (tkN 30 85 rfl rfl a0 (tkN 31 86 rfl rfl a0 ?_));go_frame;refine tkN 32 87 rfl rfl a0 (tkP 33 (.bool false) 88 rfl rfl a0 (tkP 34 (.bool false) 89 rfl rfl a0 ?_));go_frame;clear a0;refine wdn ?_;go_wp2_with fail
    have h0 : Hid (0 < i → (kpAt s.ks (i - 1)).q < x.q) := fun h => absurd h (by omega)
    obtain ⟨wB, j4⟩ := exq j3;have a6 := d6.hb;have b9 := hid (jb d6 0 rfl);rw [← j4] at a6 b9 b1 ⊢;clear j4;go_loopw [6] (fun i0 wr => ∃ j : Nat, j ≤ i ∧ i0 = .int .i64 (j : Int) ∧ Hid (Bw w (wr) ∧ wr.heap[q1]? = some (.cells #[.slice o1 n1 c1, .slice o2 n2 c2, .slice (some ⟨g3, 0, none⟩) n3 c3, .slice o4 n4 c4, .int .i64 s.nx, .int .i64 s.sq] 43) ∧ wr.heap[q2]? = some (.cells #[.string x.p, .slice ku1 x.xs.length kc1, .slice ku2 x.ys.length kc2, .int .i64 x.st, .slice ku3 x.fs.length kc3, .string x.b, .int .i64 x.t, .int .i64 x.a, .int .i64 x.q] 82)) ∧ Hid (∀ m, m < j → (kpAt s.ks m).a ≠ x.a)) (fun i0 _ => i - (intOf i0).toNat)
    case atStart => exact ⟨0, Nat.zero_le _, rfl, ⟨a6, b9.out, b1.out⟩, fun m hm => absurd hm (by omega)⟩
    case round =>
     obtain ⟨j, hj, rfl, HW, HJ⟩ := hrel;by_cases hlj : (j : Int) < (i : Int)
     ·have a7 := HW.out.1;have b2 := hid HW.out.2.1;have c9 := hid HW.out.2.2;clear HW a6;exact absurd hlj (by omega)
     have a7 := HW.out.1;have b2 := hid HW.out.2.1;have c9 := hid HW.out.2.2;clear HW a6;have h4 : Hid (∀ m, m < i → (kpAt s.ks m).a ≠ x.a) := fun m hm => HJ.out m (by omega)
     clear HJ
     have i9 : Hid (∀ m, m < i + 1 → KpOk s.ks s.sq m) := fun m hm => by
      by_cases e : m = i
      ·subst e
       unfold KpOk
       rw [f2.out]
       exact ⟨g7.out, e7.out, e9.out, h0.out, h4.out⟩
      ·exact HN.out m (by omega)
     go_wp2_with fail
     go_roundw
     case rel => exact ⟨i + 1, by omega, by go_num, ⟨a7, b2.out⟩, i9⟩
     case measure => simp [intOf]; omega
   obtain ⟨m, hm⟩ : ∃ m : Nat, (i : Int) - 1 = (m : Int) := ⟨i - 1, by omega⟩;have s2 : 0 < i := by omega
   have t3 : ¬ n3 ≤ m := by omega
   have t4 : IntKind.i64.wrap (m : Int) = (m : Int) := by rw [IntKind.wrap_i64]; omega
   obtain ⟨zX, j5⟩ := exq (kvAt kv m);have m3 : Hid (zX ∈ kv) := by show _ ∈ _; rw [j5]; exact aQ1 kv m (by rw [d2.out]; omega)
   have q3 : Hid (kpAt s.ks m = zX.1) := by show _ = _; rw [j5, ← d1.out]; exact (aK6 kv m (by rw [d2.out]; omega)).symm
   have s3 : Hid (kv.take (m + 1) = kv.take m ++ [zX]) := by show _ = _; rw [j5]; exact aM6 kv m (by rw [d2.out]; omega)
   have s4 : Hid (∀ W, Bw w W → KpAt W g3 m zX) := fun W hb => by
    obtain ⟨g', p', hV, _, hc⟩ := (d3.out W hb).look m (by rw [d2.out]; omega)
    injection hV with hV1 _ _
    cases hV1
    rw [j5]
    exact hc
   clear j5;obtain ⟨z, m4, m5, m6⟩ := zX;obtain ⟨m7, h6, hu⟩ := aA0 ((d3.out _ f9).names m3.out);have b7 : m4 = .slice m7 z.xs.length h6 := hu;subst b7;clear hu;obtain ⟨m8, h7, hu⟩ := aA0 ((d3.out _ f9).vals m3.out);have b7 : m5 = .slice m8 z.ys.length h7 := hu;subst b7;clear hu;obtain ⟨m9, h8, hu⟩ := aA0 ((d3.out _ f9).flds m3.out);have b7 : m6 = .slice m9 z.fs.length h8 := hu;subst b7;clear hu
   have b4 : Hid (∀ W, Bw w W → (W.cell? ⟨g3, m * 9, none⟩ = some (.string z.p) ∧ W.cell? ⟨g3, m * 9 + 1, none⟩ = some (.slice m7 z.xs.length h6) ∧ W.cell? ⟨g3, m * 9 + 2, none⟩ = some (.slice m8 z.ys.length h7) ∧ W.cell? ⟨g3, m * 9 + 3, none⟩ = some (.int .i64 z.st) ∧ W.cell? ⟨g3, m * 9 + 4, none⟩ = some (.slice m9 z.fs.length h8) ∧ W.cell? ⟨g3, m * 9 + 5, none⟩ = some (.string z.b) ∧ W.cell? ⟨g3, m * 9 + 6, none⟩ = some (.int .i64 z.t) ∧ W.cell? ⟨g3, m * 9 + 7, none⟩ = some (.int .i64 z.a) ∧ W.cell? ⟨g3, m * 9 + 8, none⟩ = some (.int .i64 z.q))) := fun W hb => by
    have c := s4.out W hb
    exact ⟨c.c0, c.c1, c.c2, c.c3, c.c4, c.c5, c.c6, c.c7, c.c8⟩
   have q4 : Hid (i = m + 1) := (by show _ = _; omega);go_upto_region 12 with fail
   refine wp_region_held_drew (S := fun W => W.heap[q2]? = some (.cells #[.string x.p, .slice ku1 x.xs.length kc1, .slice ku2 x.ys.length kc2, .int .i64 x.st, .slice ku3 x.fs.length kc3, .string x.b, .int .i64 x.t, .int .i64 x.a, .int .i64 x.q] 82) ∧ W.heap[q1]? = some (.cells #[.slice o1 n1 c1, .slice o2 n2 c2, .slice (some ⟨g3, 0, none⟩) n3 c3, .slice o4 n4 c4, .int .i64 s.nx, .int .i64 s.sq] 43) ∧ (W.cell? ⟨g3, m * 9, none⟩ = some (.string z.p) ∧ W.cell? ⟨g3, m * 9 + 1, none⟩ = some (.slice m7 z.xs.length h6) ∧ W.cell? ⟨g3, m * 9 + 2, none⟩ = some (.slice m8 z.ys.length h7) ∧ W.cell? ⟨g3, m * 9 + 3, none⟩ = some (.int .i64 z.st) ∧ W.cell? ⟨g3, m * 9 + 4, none⟩ = some (.slice m9 z.fs.length h8) ∧ W.cell? ⟨g3, m * 9 + 5, none⟩ = some (.string z.b) ∧ W.cell? ⟨g3, m * 9 + 6, none⟩ = some (.int .i64 z.t) ∧ W.cell? ⟨g3, m * 9 + 7, none⟩ = some (.int .i64 z.a) ∧ W.cell? ⟨g3, m * 9 + 8, none⟩ = some (.int .i64 z.q))) (by kernel_rfl) ⟨f5.out, g2.out, (by first | exact b4.out _ f9 | exact b4.out _ f9.drew)⟩ (fun _ => ?_)
   obtain ⟨w8, hX⟩ := exq w7.drew;have bw := bdr hX;rw [← hX];have K8 := jw K7 bw;have e0 := hblk f5 bw;have g5 := And.intro e0.out (And.intro (jb K8 0 rfl) (b4.out _ K8.hb));clear f9 bw hX K7;refine tkP 0 (.pointer (some ⟨q2, 0, none⟩)) 55 rfl rfl g5 ?_;go_frame;refine tkL 1 (.agg #[.string x.p, .slice ku1 x.xs.length kc1, .slice ku2 x.ys.length kc2, .int .i64 x.st, .slice ku3 x.fs.length kc3, .string x.b, .int .i64 x.t]) 56 rfl rfl (Or.inl ⟨by rfl, by intro W hW; obtain ⟨a3, a4, a5⟩ := hW; have y0 := c9c a3; go_simp⟩) g5 ?_;go_frame;refine rd1 2 rfl (fun K hK => ?_)
   go_simp;refine (bG8 x _ _ _ _ ((k1.out _ K8.hb).kept.read g1.out) (HZ.out.kv d1.out g1.out)).mono ?_;rintro e w9 ⟨uo, rfl, f6, bw⟩;have K9 := jw K8 bw;have e5 := hblk e0 bw;clear bw K8;have a2 := And.intro e5.out (And.intro (jb K9 0 rfl) (b4.out _ K9.hb));refine hK.out _ _ a2 (fun _ => ?_)
   clear hK K g5;cases uo
   ·have g6 : Hid (¬ (ObjK x)) := fun h => nomatch f6.2 h
    clear f6;refine tkP 3 (.bool true) 58 rfl rfl a2 (tkP 4 (.bool true) 59 rfl rfl a2 (tkN 5 60 rfl rfl a2 ?_));go_frame;refine tkN 6 61 rfl rfl a2 (tkN 7 62 rfl rfl a2 (tkN 8 63 rfl rfl a2 ?_));go_frame;refine tkP 9 (.bool true) 64 rfl rfl a2 (tkP 10 (.bool true) 65 rfl rfl a2 (tkN 11 66 rfl rfl a2 ?_));go_frame;refine tkN 12 67 rfl rfl a2 (tkN 13 68 rfl rfl a2 (tkN 14 69 rfl rfl a2 ?_));go_frame;refine tkN 15 70 rfl rfl a2 (tkN 16 71 rfl rfl a2 (tkN 17 72 rfl rfl a2 ?_));go_frame;refine tkP 18 (.bool true) 73 rfl rfl a2 (tkP 19 (.bool true) 74 rfl rfl a2 (tkN 20 75 rfl rfl a2 ?_));go_frame;refine tkN 21 76 rfl rfl a2 (tkN 22 77 rfl rfl a2 (tkN 23 78 rfl rfl a2 ?_));go_frame;refine tkN 24 79 rfl rfl a2 (tkN 25 80 rfl rfl a2 (tkN 26 81 rfl rfl a2 ?_));go_frame;refine tkN 27 82 rfl rfl a2 (tkN 28 83 rfl rfl a2 (tkN 29 84 rfl rfl a2 ?_));go_frame;refine tkN 30 85 rfl rfl a2 (tkN 31 86 rfl rfl a2 (tkN 32 87 rfl rfl a2 ?_));go_frame;refine tkN 33 88 rfl rfl a2 (tkP 34 (.bool true) 89 rfl rfl a2 ?_);go_frame;clear a2;refine wdn ?_;go_wp2_with fail
    go_ret;have m0 := K9.hb;exact aA4.no (fun h => by have hk := h.2.2.2.2.2 i (by rw [← d1.out, List.length_map, b5.out.2.2.1]; omega); unfold KpOk at hk; rw [f2.out] at hk; exact g6.out hk.1) m0
   have g7 : Hid (ObjK x) := f6.1 rfl;clear f6;refine tkP 3 (.bool false) 58 rfl rfl a2 (tkP 4 (.bool false) 59 rfl rfl a2 (tkP 5 (.pointer (some ⟨q2, 7, none⟩)) 60 rfl rfl a2 ?_));go_frame;refine tkL 6 (.int .i64 x.a) 61 rfl rfl (Or.inl ⟨by rfl, by intro W hW; obtain ⟨a3, a4, a5⟩ := hW; have y7 := c9c a3; go_simp⟩) a2 ?_;go_frame;refine rd1 7 rfl (fun K hK => ?_)
   go_simp;refine (aH6 x.a 5 19 _).mono ?_;rintro e g8 ⟨rfl, b6⟩;have bw : Below w9.heap.size (w9) g8 := by rw [b6]; exact Below.refl _ _
   clear b6;obtain ⟨m1, a9⟩ : ∃ u, u = decide ((5 : Int) ≤ x.a ∧ x.a ≤ 19) := ⟨_, rfl⟩;rw [← a9];have f3 := jw K9 bw;have b8 := hblk e5 bw;clear bw K9;have a1 := And.intro b8.out (And.intro (jb f3 0 rfl) (b4.out _ f3.hb));refine hK.out _ _ a1 (fun _ => ?_)
   clear hK K a2;cases m1
   ·have e6 : Hid (¬ (5 ≤ x.a ∧ x.a ≤ 19)) := (show ¬ (5 ≤ x.a ∧ x.a ≤ 19) from of_decide_eq_false a9.symm);clear a9;refine tkP 8 (.bool true) 63 rfl rfl a1 (tkP 9 (.bool true) 64 rfl rfl a1 (tkP 10 (.bool true) 65 rfl rfl a1 ?_));go_frame;refine tkN 11 66 rfl rfl a1 (tkN 12 67 rfl rfl a1 (tkN 13 68 rfl rfl a1 ?_));go_frame;refine tkN 14 69 rfl rfl a1 (tkN 15 70 rfl rfl a1 (tkN 16 71 rfl rfl a1 ?_));go_frame;refine tkN 17 72 rfl rfl a1 (tkP 18 (.bool true) 73 rfl rfl a1 (tkP 19 (.bool true) 74 rfl rfl a1 ?_));go_frame;refine tkN 20 75 rfl rfl a1 (tkN 21 76 rfl rfl a1 (tkN 22 77 rfl rfl a1 ?_));go_frame;refine tkN 23 78 rfl rfl a1 (tkN 24 79 rfl rfl a1 (tkN 25 80 rfl rfl a1 ?_));go_frame;refine tkN 26 81 rfl rfl a1 (tkN 27 82 rfl rfl a1 (tkN 28 83 rfl rfl a1 ?_));go_frame;refine tkN 29 84 rfl rfl a1 (tkN 30 85 rfl rfl a1 (tkN 31 86 rfl rfl a1 ?_));go_frame;refine tkN 32 87 rfl rfl a1 (tkN 33 88 rfl rfl a1 (tkP 34 (.bool true) 89 rfl rfl a1 ?_));go_frame;clear a1;refine wdn ?_;go_wp2_with fail
    go_ret;have g9 := f3.hb;exact aA4.no (fun h => by have hk := h.2.2.2.2.2 i (by rw [← d1.out, List.length_map, b5.out.2.2.1]; omega); unfold KpOk at hk; rw [f2.out] at hk; exact e6.out hk.2.1) g9
   have e7 : Hid (5 ≤ x.a ∧ x.a ≤ 19) := (show (5 ≤ x.a ∧ x.a ≤ 19) from of_decide_eq_true a9.symm);clear a9;refine tkP 8 (.bool false) 63 rfl rfl a1 (tkP 9 (.bool false) 64 rfl rfl a1 (tkP 10 (.bool false) 65 rfl rfl a1 ?_));go_frame;refine tkP 11 (.pointer (some ⟨q2, 8, none⟩)) 66 rfl rfl a1 ?_;go_frame;refine tkL 12 (.int .i64 x.q) 67 rfl rfl (Or.inl ⟨by rfl, by intro W hW; obtain ⟨a3, a4, a5⟩ := hW; have y8 := c9c a3; go_simp⟩) a1 ?_;go_frame;refine tkP 13 (.pointer (some ⟨q1, 5, none⟩)) 68 rfl rfl a1 ?_;go_frame;refine tkL 14 (.int .i64 s.sq) 69 rfl rfl (Or.inl ⟨by rfl, by intro W hW; obtain ⟨a3, a4, a5⟩ := hW; have y5 := c6c a4; go_simp⟩) a1 ?_;go_frame;refine tkP 15 (.int .i64 (s.sq - 1)) 70 rfl rfl a1 ?_;go_frame;refine rd1 16 rfl (fun K hK => ?_)
   go_simp;refine (aH6 x.q 1 (s.sq - 1) _).mono ?_;rintro e j3 ⟨rfl, b6⟩;have bw : Below g8.heap.size (g8) j3 := by rw [b6]; exact Below.refl _ _
   clear b6;obtain ⟨m2, b0⟩ : ∃ u, u = decide ((1 : Int) ≤ x.q ∧ x.q ≤ (s.sq - 1)) := ⟨_, rfl⟩;rw [← b0];have d6 := jw f3 bw;have b1 := hblk b8 bw;clear bw f3;have a0 := And.intro b1.out (And.intro (jb d6 0 rfl) (b4.out _ d6.hb));refine hK.out _ _ a0 (fun _ => ?_)
   clear hK K a1;cases m2
   ·have e8 : Hid (¬ (1 ≤ x.q ∧ x.q ≤ (s.sq - 1))) := (show ¬ (1 ≤ x.q ∧ x.q ≤ (s.sq - 1)) from of_decide_eq_false b0.symm);clear b0;refine tkP 17 (.bool true) 72 rfl rfl a0 (tkP 18 (.bool true) 73 rfl rfl a0 (tkP 19 (.bool true) 74 rfl rfl a0 ?_));go_frame;refine tkN 20 75 rfl rfl a0 (tkN 21 76 rfl rfl a0 (tkN 22 77 rfl rfl a0 ?_));go_frame;refine tkN 23 78 rfl rfl a0 (tkN 24 79 rfl rfl a0 (tkN 25 80 rfl rfl a0 ?_));go_frame;refine tkN 26 81 rfl rfl a0 (tkN 27 82 rfl rfl a0 (tkN 28 83 rfl rfl a0 ?_));go_frame;refine tkN 29 84 rfl rfl a0 (tkN 30 85 rfl rfl a0 (tkN 31 86 rfl rfl a0 ?_));go_frame;refine tkN 32 87 rfl rfl a0 (tkN 33 88 rfl rfl a0 (tkP 34 (.bool true) 89 rfl rfl a0 ?_));go_frame;clear a0;refine wdn ?_;go_wp2_with fail
    go_ret;have a6 := d6.hb;exact aA4.no (fun h => by have hk := h.2.2.2.2.2 i (by rw [← d1.out, List.length_map, b5.out.2.2.1]; omega); unfold KpOk at hk; rw [f2.out] at hk; exact e8.out hk.2.2.1) a6
   have e9 : Hid (1 ≤ x.q ∧ x.q ≤ (s.sq - 1)) := (show (1 ≤ x.q ∧ x.q ≤ (s.sq - 1)) from of_decide_eq_true b0.symm);clear b0;refine tkP 17 (.bool false) 72 rfl rfl a0 (tkP 18 (.bool false) 73 rfl rfl a0 (tkP 19 (.bool false) 74 rfl rfl a0 ?_));go_frame;refine tkP 20 (.int .i64 (i : Int)) 75 rfl rfl a0 (tkP 21 (.bool true) 76 rfl rfl a0 (tkP 22 (.bool true) 77 rfl rfl a0 ?_));go_frame;refine tkP 23 (.pointer (some ⟨q1, 2, none⟩)) 78 rfl rfl a0 ?_;go_frame;refine tkL 24 (.slice (some ⟨g3, 0, none⟩) n3 c3) 79 rfl rfl (Or.inl ⟨by rfl, by intro W hW; obtain ⟨a3, a4, a5⟩ := hW; have y2 := c6c a4; go_simp⟩) a0 ?_;go_frame;refine tkP 25 (.int .i64 (i : Int)) 80 rfl rfl a0 (tkP 26 (.int .i64 (m : Int)) 81 rfl rfl a0 (tkP 27 (.pointer (some ⟨g3, m * 9, none⟩)) 82 rfl rfl a0 ?_));go_frame;refine tkP 28 (.pointer (some ⟨g3, m * 9 + 8, none⟩)) 83 rfl rfl a0 ?_;go_frame;refine tkL 29 (.int .i64 z.q) 84 rfl rfl (Or.inl ⟨by rfl, by intro W hW; obtain ⟨a3, a4, a5⟩ := hW; have y8 := a5.2.2.2.2.2.2.2.2; go_simp⟩) a0 ?_;go_frame;refine tkP 30 (.pointer (some ⟨q2, 8, none⟩)) 85 rfl rfl a0 ?_;go_frame;refine tkL 31 (.int .i64 x.q) 86 rfl rfl (Or.inl ⟨by rfl, by intro W hW; obtain ⟨a3, a4, a5⟩ := hW; have y8 := c9c a3; go_simp⟩) a0 ?_;go_frame;by_cases hc2 : x.q ≤ z.q
   ·have k4 : Hid (¬ z.q < x.q) := (by have := hc2; show ¬ _; omega);refine tkP 32 (.bool true) 87 rfl rfl a0 (tkP 33 (.bool true) 88 rfl rfl a0 (tkP 34 (.bool true) 89 rfl rfl a0 ?_));go_frame;clear a0;refine wdn ?_;go_wp2_with fail
    go_ret;have a6 := d6.hb;exact aA4.no (fun h => by have hk := h.2.2.2.2.2 i (by rw [← d1.out, List.length_map, b5.out.2.2.1]; omega); unfold KpOk at hk; rw [f2.out] at hk; have h2 := hk.2.2.2.1 (by omega); rw [q4.out, Nat.add_sub_cancel, q3.out] at h2; have h3 := k4.out; omega) a6
   have k4 : Hid (z.q < x.q) := (by have := hc2; show _ < _; omega);refine tkP 32 (.bool false) 87 rfl rfl a0 (tkP 33 (.bool false) 88 rfl rfl a0 (tkP 34 (.bool false) 89 rfl rfl a0 ?_));go_frame;clear a0;refine wdn ?_;go_wp2_with fail
   have h0 : Hid (0 < i → (kpAt s.ks (i - 1)).q < x.q) := fun _ => by rw [q4.out, Nat.add_sub_cancel, q3.out]; exact k4.out
   clear k4;obtain ⟨wB, j4⟩ := exq j3;have a6 := d6.hb;have b9 := hid (jb d6 0 rfl);rw [← j4] at a6 b9 b1 ⊢;clear j4;go_loopw [6] (fun i0 wr => ∃ j : Nat, j ≤ i ∧ i0 = .int .i64 (j : Int) ∧ Hid (Bw w (wr) ∧ wr.heap[q1]? = some (.cells #[.slice o1 n1 c1, .slice o2 n2 c2, .slice (some ⟨g3, 0, none⟩) n3 c3, .slice o4 n4 c4, .int .i64 s.nx, .int .i64 s.sq] 43) ∧ wr.heap[q2]? = some (.cells #[.string x.p, .slice ku1 x.xs.length kc1, .slice ku2 x.ys.length kc2, .int .i64 x.st, .slice ku3 x.fs.length kc3, .string x.b, .int .i64 x.t, .int .i64 x.a, .int .i64 x.q] 82)) ∧ Hid (∀ m, m < j → (kpAt s.ks m).a ≠ x.a)) (fun i0 _ => i - (intOf i0).toNat)
   case atStart => exact ⟨0, Nat.zero_le _, rfl, ⟨a6, b9.out, b1.out⟩, fun m hm => absurd hm (by omega)⟩
   case round =>
    obtain ⟨j, hj, rfl, HW, HJ⟩ := hrel;by_cases hlj : (j : Int) < (i : Int)
    rotate_left
    ·have a7 := HW.out.1;have b2 := hid HW.out.2.1;have c9 := hid HW.out.2.2;clear HW a6;have h4 : Hid (∀ m, m < i → (kpAt s.ks m).a ≠ x.a) := fun m hm => HJ.out m (by omega)
     clear HJ
     have i9 : Hid (∀ m, m < i + 1 → KpOk s.ks s.sq m) := fun m hm => by
      by_cases e : m = i
      ·subst e
       unfold KpOk
       rw [f2.out]
       exact ⟨g7.out, e7.out, e9.out, h0.out, h4.out⟩
      ·exact HN.out m (by omega)
     go_wp2_with fail
     go_roundw
     case rel => exact ⟨i + 1, by omega, by go_num, ⟨a7, b2.out⟩, i9⟩
     case measure => simp [intOf]; omega
    have a7 := HW.out.1;have b2 := hid HW.out.2.1;have c9 := hid HW.out.2.2;clear HW a6;obtain ⟨j6, f0⟩ := exq (kvAt kv j);have h9 : Hid (j6 ∈ kv) := by show _ ∈ _; rw [f0]; exact aQ1 kv j (by rw [d2.out]; omega)
    have j7 : Hid (kpAt s.ks j = j6.1) := by show _ = _; rw [f0, ← d1.out]; exact (aK6 kv j (by rw [d2.out]; omega)).symm
    have q5 : Hid (kv.take (j + 1) = kv.take j ++ [j6]) := by show _ = _; rw [f0]; exact aM6 kv j (by rw [d2.out]; omega)
    have n0 : Hid (∀ W, Bw w W → KpAt W g3 j j6) := fun W hb => by
     obtain ⟨g', p', hV, _, hc⟩ := (d3.out W hb).look j (by rw [d2.out]; omega)
     injection hV with hV1 _ _
     cases hV1
     rw [f0]
     exact hc
    clear f0;obtain ⟨z2, n5, n6, n7⟩ := j6;obtain ⟨n8, i1, hu⟩ := aA0 ((d3.out _ a7).names h9.out);have b7 : n5 = .slice n8 z2.xs.length i1 := hu;subst b7;clear hu;obtain ⟨n9, i2, hu⟩ := aA0 ((d3.out _ a7).vals h9.out);have b7 : n6 = .slice n9 z2.ys.length i2 := hu;subst b7;clear hu;obtain ⟨o0, i3, hu⟩ := aA0 ((d3.out _ a7).flds h9.out);have b7 : n7 = .slice o0 z2.fs.length i3 := hu;subst b7;clear hu;have t5 : ¬ n3 ≤ j := by omega
    have b4 : Hid (∀ W, Bw w W → (W.cell? ⟨g3, j * 9, none⟩ = some (.string z2.p) ∧ W.cell? ⟨g3, j * 9 + 1, none⟩ = some (.slice n8 z2.xs.length i1) ∧ W.cell? ⟨g3, j * 9 + 2, none⟩ = some (.slice n9 z2.ys.length i2) ∧ W.cell? ⟨g3, j * 9 + 3, none⟩ = some (.int .i64 z2.st) ∧ W.cell? ⟨g3, j * 9 + 4, none⟩ = some (.slice o0 z2.fs.length i3) ∧ W.cell? ⟨g3, j * 9 + 5, none⟩ = some (.string z2.b) ∧ W.cell? ⟨g3, j * 9 + 6, none⟩ = some (.int .i64 z2.t) ∧ W.cell? ⟨g3, j * 9 + 7, none⟩ = some (.int .i64 z2.a) ∧ W.cell? ⟨g3, j * 9 + 8, none⟩ = some (.int .i64 z2.q))) := fun W hb => by
     have c := n0.out W hb
     exact ⟨c.c0, c.c1, c.c2, c.c3, c.c4, c.c5, c.c6, c.c7, c.c8⟩
    go_upto_region 17 with fail
    refine wp_region_held_drew (S := fun W => W.heap[q1]? = some (.cells #[.slice o1 n1 c1, .slice o2 n2 c2, .slice (some ⟨g3, 0, none⟩) n3 c3, .slice o4 n4 c4, .int .i64 s.nx, .int .i64 s.sq] 43) ∧ (W.cell? ⟨g3, j * 9, none⟩ = some (.string z2.p) ∧ W.cell? ⟨g3, j * 9 + 1, none⟩ = some (.slice n8 z2.xs.length i1) ∧ W.cell? ⟨g3, j * 9 + 2, none⟩ = some (.slice n9 z2.ys.length i2) ∧ W.cell? ⟨g3, j * 9 + 3, none⟩ = some (.int .i64 z2.st) ∧ W.cell? ⟨g3, j * 9 + 4, none⟩ = some (.slice o0 z2.fs.length i3) ∧ W.cell? ⟨g3, j * 9 + 5, none⟩ = some (.string z2.b) ∧ W.cell? ⟨g3, j * 9 + 6, none⟩ = some (.int .i64 z2.t) ∧ W.cell? ⟨g3, j * 9 + 7, none⟩ = some (.int .i64 z2.a) ∧ W.cell? ⟨g3, j * 9 + 8, none⟩ = some (.int .i64 z2.q)) ∧ W.heap[q2]? = some (.cells #[.string x.p, .slice ku1 x.xs.length kc1, .slice ku2 x.ys.length kc2, .int .i64 x.st, .slice ku3 x.fs.length kc3, .string x.b, .int .i64 x.t, .int .i64 x.a, .int .i64 x.q] 82)) (by kernel_rfl) ⟨b2.out, (by first | exact b4.out _ a7 | exact b4.out _ a7.drew), c9.out⟩ (fun _ => ?_)
    obtain ⟨t6, hX⟩ := exq wr.drew;have bw := bdr hX;rw [← hX];have f7 := hbt a7 bw;have f1 := hblk b2 bw;have g0 := hblk c9 bw;have a8 := And.intro f1.out (And.intro (b4.out _ f7) g0.out);clear a7 bw hX;have t7 := jz d6 f7 (jzb f1.out (jzn _));refine tkP 0 (.pointer (some ⟨q1, 2, none⟩)) 95 rfl rfl a8 ?_;go_frame;refine tkL 1 (.slice (some ⟨g3, 0, none⟩) n3 c3) 96 rfl rfl (Or.inl ⟨by rfl, by intro W hW; obtain ⟨a4, a5, a3⟩ := hW; have y2 := c6c a4; go_simp⟩) a8 ?_;go_frame;refine tkP 2 (.int .i64 (j : Int)) 97 rfl rfl a8 (tkP 3 (.pointer (some ⟨g3, j * 9, none⟩)) 98 rfl rfl a8 (tkP 4 (.pointer (some ⟨g3, j * 9 + 7, none⟩)) 99 rfl rfl a8 ?_));go_frame;refine tkL 5 (.int .i64 z2.a) 100 rfl rfl (Or.inl ⟨by rfl, by intro W hW; obtain ⟨a4, a5, a3⟩ := hW; have y7 := a5.2.2.2.2.2.2.2.1; go_simp⟩) a8 ?_;go_frame;refine tkP 6 (.pointer (some ⟨q2, 7, none⟩)) 101 rfl rfl a8 ?_;go_frame;refine tkL 7 (.int .i64 x.a) 102 rfl rfl (Or.inl ⟨by rfl, by intro W hW; obtain ⟨a4, a5, a3⟩ := hW; have y7 := c9c a3; go_simp⟩) a8 ?_;go_frame;by_cases hc3 : z2.a = x.a
    ·have o5 : ((z2.a : Int) == (x.a : Int)) = true := by simpa using hc3
     have o6 : ((z2.a : Int) != (x.a : Int)) = false := by simpa using hc3
     have o7 := hid hc3;have o8 := hid hc3;clear hc3;refine tkP 8 (.bool true) 103 rfl rfl a8 ?_;go_frame;clear a8;refine wdn ?_;go_wp2_with fail
     go_ret;exact aA4.no (fun h => by have hk := h.2.2.2.2.2 i (by rw [← d1.out, List.length_map, b5.out.2.2.1]; omega); unfold KpOk at hk; rw [f2.out] at hk; exact hk.2.2.2.2 j (by omega) (by rw [j7.out]; exact o7.out)) f7
    have o5 : ((z2.a : Int) == (x.a : Int)) = false := by simpa using hc3
    have o6 : ((z2.a : Int) != (x.a : Int)) = true := by simpa using hc3
    have o7 := hid hc3;have o8 := hid hc3;clear hc3;refine tkP 8 (.bool false) 103 rfl rfl a8 ?_;go_frame;clear a8;refine wdn ?_
    have s5 : Hid (∀ m, m < j + 1 → (kpAt s.ks m).a ≠ x.a) := fun m hm => by
     by_cases e : m = j
     ·subst e
      rw [j7.out]
      exact o7.out
     ·exact HJ.out m (by omega)
    go_wp2_with fail
    go_roundw
    case rel => exact ⟨j + 1, by omega, by go_num, ⟨f7, f1.out, g0.out⟩, s5⟩
    case measure => simp [intOf]; omega
theorem cP1 {w w0 w1 : World} {q : Nat} {x0 x1 v1 v2 : Value} {n1 n2 : Nat} {cs : Ts} {ws : List (Int × ByteArray)} (hC : w1.heap[q]? = some (.cells #[x0, x1] 39)) (hD : aD3 w1 w0.heap.size v1 n1 cs v2 n2 ws) (hs : w.heap.size ≤ w0.heap.size) (hb : Below w.heap.size w w1) (hq : w.heap.size ≤ q) :
  ((w1.setCell ⟨q, 0, none⟩ v1).setCell ⟨q, 1, none⟩ v2).heap[q]? = some (.cells #[v1, v2] 39) ∧ aD3 ((w1.setCell ⟨q, 0, none⟩ v1).setCell ⟨q, 1, none⟩ v2) w.heap.size v1 n1 cs v2 n2 ws ∧ Below w.heap.size w ((w1.setCell ⟨q, 0, none⟩ v1).setCell ⟨q, 1, none⟩ v2) := by
 refine ⟨heap_setCell_same _ _ _ _ _ _ (heap_setCell_same _ _ _ _ _ _ hC), ⟨?_, ?_⟩, (hb.setCell hq _).setCell hq _⟩
 ·exact aA7 (aE0 hD.cells hs) (fun g hg => by
   have a0 : g ≠ q := aA9 hD.cells hC (by decide) g hg
   rw [heap_setCell_other _ _ g _ a0, heap_setCell_other _ _ g _ a0])
 exact aA7 (aE0 hD.pend hs) (fun g hg => by
  have a0 : g ≠ q := aA9 hD.pend hC (by decide) g hg
  rw [heap_setCell_other _ _ g _ a0, heap_setCell_other _ _ g _ a0])
theorem cB6 {fn : Func} {w w0 w1 : World} {q : Nat} {a : Act} {p : Tmp} {x0 x1 v1 v2 : Value} {n1 n2 : Nat} {cs : Ts} {ws : List (Int × ByteArray)} (hr : fn.results = #[.cell p 39]) (hp : a.tmps.getD p undef = .pointer (some ⟨q, 0, none⟩)) (hd : a.defers = []) (hC : w1.heap[q]? = some (.cells #[x0, x1] 39)) (hD : aD3 w1 w0.heap.size v1 n1 cs v2 n2 ws) (hn1 : n1 = cs.length) (hn2 : n2 = ws.length) (hs : w.heap.size ≤ w0.heap.size) (hb : Below w.heap.size w w1) (hq : w.heap.size ≤ q) :
  bodyPost prog fn (fun e w' => aU3 cs ws w e w') .ret a ((w1.setCell ⟨q, 0, none⟩ v1).setCell ⟨q, 1, none⟩ v2) := by
 obtain ⟨h1, h2, h3⟩ := cP1 hC hD hs hb hq;subst hn1 hn2;exact bodyPost_ret (v := .agg #[v1, v2]) (results_cell_row hr _ _ q 39 _ (0, 0) _ hp h1 underlying39 rfl (by kernel_rfl)) hd ⟨_, _, rfl, h2, h3⟩
theorem aZ6 {fn : Func} {w w0 w1 : World} {q : Nat} {a : Act} {p p2 : Tmp} {x0 x1 v1 v2 : Value} {b : Bool} {n1 n2 : Nat} {cs : Ts} {ws : List (Int × ByteArray)} (hr : fn.results = #[.cell p 39, .tmp p2]) (hp : a.tmps.getD p undef = .pointer (some ⟨q, 0, none⟩)) (hp2 : a.tmps.getD p2 undef = .bool b) (hd : a.defers = []) (hC : w1.heap[q]? = some (.cells #[x0, x1] 39)) (hD : aD3 w1 w0.heap.size v1 n1 cs v2 n2 ws) (hn1 : n1 = cs.length) (hn2 : n2 = ws.length) (hs : w.heap.size ≤ w0.heap.size) (hb : Below w.heap.size w w1) (hq : w.heap.size ≤ q) :
  bodyPost prog fn (fun e w' => aT1 cs ws b w e w') .ret a ((w1.setCell ⟨q, 0, none⟩ v1).setCell ⟨q, 1, none⟩ v2) := by
 obtain ⟨h1, h2, h3⟩ := cP1 hC hD hs hb hq;subst hn1 hn2;have h4 := run_loadVar_row (P := prog) _ q 39 39 _ (0, 0) _ h1 underlying39 rfl (by kernel_rfl);have a1 : a.tmps[p]?.getD undef = .pointer (some ⟨q, 0, none⟩) := by simpa using hp
 have a0 : a.tmps[p2]?.getD undef = .bool b := by simpa using hp2
 refine bodyPost_ret (v := .tuple #[.agg #[v1, v2], .bool b]) ?_ hd ⟨_, _, rfl, h2, h3⟩;simp [results, hr, a1, a0, asAddr, h4]
theorem aQ8 (o1 : Oa) (n1 c1 : Nat) (v2 : Value) (n2 : Nat) (ws : List (Int × ByteArray)) (B : Nat) (w : World) (h : w.ownsRow B 155 2 v2 n2 (aA1 ws)) (hn2 : n2 ≤ 2000000) :
  Calls prog 75 #[.agg #[.slice o1 n1 c1, v2]] w fun e w' => aA4 (bX0 n1 ws) w e w' := by
 obtain ⟨o2, c2, rfl⟩ := aA0 h;have HV : Hid (aO7 w o2 n2 ws) := aG0 h;have a1 : Hid (ws.length = n2) := aM5 h;clear h;by_cases h1 : n1 = 20
 rotate_left
 ·have h3 : ¬ (n1 : Int) = 20 := by omega
  have a0 := hid h1;go_enter func75, ntmps75;go_wp2_with fail
  go_ret;exact aA4.no (fun h => a0.out h.1) ((Below.refl _ _).alloc (Nat.le_refl _) _)
 subst h1;by_cases h2 : n2 ≤ 16
 rotate_left
 ·have h3 : ¬ (n2 : Int) ≤ 16 := by omega
  have a0 : Hid (¬ ws.length ≤ 16) := by rw [a1.out]; exact h2
  go_enter func75, ntmps75;go_wp2_with fail
  go_ret;exact aA4.no (fun h => a0.out h.2.1) ((Below.refl _ _).alloc (Nat.le_refl _) _)
 have h3 : (n2 : Int) ≤ 16 := by omega
 go_enter func75, ntmps75;go_wp2_with fail
 refine (bJ6 o2 n2 c2 ws _ (HV.out.below ((Below.refl _ _).alloc (Nat.le_refl _) _)) hn2).mono ?_;rintro e w1 ⟨b, rfl, hb, bw⟩;have HB := hid hb;have a2 : Hid (Bw w w1) := ((Below.refl _ _).alloc (Nat.le_refl _) _).trans (bw.mono (by simp));have HN : Hid (n2 ≤ 16) := h2;clear hb bw;go_wp2_with fail
 go_ret;exact ⟨b, rfl, ⟨fun e => ⟨rfl, by rw [a1.out]; exact HN.out, HB.out.1 e⟩, fun h => HB.out.2 h.2.2⟩, a2.out⟩
theorem aQ9 (v1 v2 : Value) (n1 : Nat) (cs : Ts) (n2 : Nat) (ws : List (Int × ByteArray)) (B : Nat) (w : World) (h : aD3 w B v1 n1 cs v2 n2 ws) (_hn1 : n1 ≤ 2000000) (hn2 : n2 ≤ 2000000) :
  Calls prog 75 #[.agg #[v1, v2]] w fun e w' => aA4 (aG5 cs ws) w e w' := by
 obtain ⟨a0, a1, rfl⟩ := aA0 h.cells;have hl : cs.length = n1 := by have := h.cells.1; rw [List.length_map] at this; omega
 have h1 := aQ8 a0 n1 a1 v2 n2 ws B w h.pend hn2;rw [← hl] at h1;rw [← hl];exact h1
theorem cP2 {W : World} {B g n c : Nat} {cs : Ts} (h : W.ownsRow B 9 1 (.slice (some ⟨g, 0, none⟩) n c) n (cs.map Value.string)) : W.rangeAt g 0 (cs.map Value.string) := fun j v hv => by
 obtain ⟨oa, cap, e, hl, hc⟩ := bF5 h
 cases e
 have hj : j < cs.length := by
  have := (List.getElem?_eq_some_iff.1 hv).1
  simpa using this
 obtain ⟨g', e, _, r⟩ := hc j (by omega)
 cases e
 rw [List.getElem?_map, aQ6 cs j hj] at hv
 rw [Nat.zero_add, r]
 exact hv
theorem bH8 {cs : Ts} {ws : List (Int × ByteArray)} {n M : Nat} (h1 : ∀ i, i < n → (aA8 cs i).size ≤ M) (h2 : ∀ x ∈ ws, (x.2).size ≤ M) (f : Nat → Bool) : ∀ k, k ≤ ws.length → ∀ i, i < n → (aA8 (aD8 cs ws f k) i).size ≤ M
 | 0, _, i, hi => h1 i hi
 | k + 1, hk, i, hi => by
  rw [aD8]
  split
  ·rw [bA9]
   split
   · exact h2 _ (aI0 ws k (by omega))
   · exact bH8 h1 h2 f k (by omega) i hi
  · exact bH8 h1 h2 f k (by omega) i hi
theorem bH9 (o1 : Oa) (n1 c1 : Nat) (v2 : Value) (n2 : Nat) (ws : List (Int × ByteArray)) (B : Nat) (w : World) (h : w.ownsRow B 155 2 v2 n2 (aA1 ws)) (hn2 : n2 ≤ 2000000) (hno : ¬ bX0 n1 ws) :
  Calls prog 126 #[.agg #[.slice o1 n1 c1, v2]] w fun e w' => aU3 [] [] w e w' := by
 obtain ⟨o2, c2, rfl⟩ := aA0 h;have HP : Hid (∀ W, Bw w W → W.ownsRow B 155 2 (.slice o2 n2 c2) n2 (aA1 ws)) := fun W hb => aC0 h hb (fun g hg => aA6 h hg)
 have a0 := hid hno;clear h hno;go_enter func126, ntmps126;go_wp2_with fail
 refine (aQ8 o1 n1 c1 _ n2 ws B _ (HP.out _ (((Below.refl _ _).alloc (Nat.le_refl _) _).alloc (by simp) _)) hn2).mono ?_;rintro e w3 ⟨b, rfl, hb, bw⟩
 obtain rfl : b = false := by
  cases b with
  | true => exact absurd (hb.1 rfl) a0.out
  | false => rfl
 have hC := aA3 (heap_alloc2_new w _ _) bw;have c0 := (aB0 hC 0).trans rfl;have a1 := (aB0 hC 1).trans rfl;have f0 := aC9 hC 0;have f1 := aC9 hC 1;have HC : Hid _ := hC;have HB : Hid (Bw w w3) := (((Below.refl _ _).alloc (Nat.le_refl _) _).alloc (by simp) _).trans (bw.mono (by simp; omega));clear hC bw hb;go_wp2_with fail
 refine cB6 (w0 := w) results126 ?_ ?_ HC.out (aY7 _ _) ?_ ?_ (Nat.le_refl _) HB.out (Nat.le_succ _) <;> rfl
theorem bB6 (o1 : Oa) (n1 c1 : Nat) (v2 : Value) (n2 : Nat) (ws : List (Int × ByteArray)) (B : Nat) (w : World) (h : w.ownsRow B 155 2 v2 n2 (aA1 ws)) (hn2 : n2 ≤ 2000000) (hno : ¬ bX0 n1 ws) (x : Int) (t : Tx) :
  Calls prog 174 #[.agg #[.slice o1 n1 c1, v2], .int .i64 x, .string t] w fun e w' => aT1 [] [] false w e w' := by
 obtain ⟨o2, c2, rfl⟩ := aA0 h;have HP : Hid (∀ W, Bw w W → W.ownsRow B 155 2 (.slice o2 n2 c2) n2 (aA1 ws)) := fun W hb => aC0 h hb (fun g hg => aA6 h hg)
 have a0 := hid hno;clear h hno;go_enter func174, ntmps174;go_wp2_with fail
 refine (aQ8 o1 n1 c1 _ n2 ws B _ (HP.out _ (((Below.refl _ _).alloc (Nat.le_refl _) _).alloc (by simp) _)) hn2).mono ?_;rintro e w3 ⟨b, rfl, hb, bw⟩
 obtain rfl : b = false := by
  cases b with
  | true => exact absurd (hb.1 rfl) a0.out
  | false => rfl
 have hC := aA3 (heap_alloc2_new w _ _) bw;have c0 := (aB0 hC 0).trans rfl;have a1 := (aB0 hC 1).trans rfl;have f0 := aC9 hC 0;have f1 := aC9 hC 1;have HC : Hid _ := hC;have HB : Hid (Bw w w3) := (((Below.refl _ _).alloc (Nat.le_refl _) _).alloc (by simp) _).trans (bw.mono (by simp; omega));clear hC bw hb;go_wp2_with fail
 refine aZ6 (w0 := w) results174 ?_ ?_ ?_ HC.out (aY7 _ _) ?_ ?_ (Nat.le_refl _) HB.out (Nat.le_succ _) <;> rfl
theorem bK4 (v1 v2 : Value) (cs : Ts) (n2 : Nat) (ws : List (Int × ByteArray)) (B : Nat) (w : World) (h : aD3 w B v1 20 cs v2 n2 ws) (hn2 : n2 ≤ 2000000) (hok : aG5 cs ws) (hz1 : ∀ i, i < 20 → (aA8 cs i).size ≤ 1048576) (hz2 : ∀ x ∈ ws, (x.2).size ≤ 1048576) :
  Calls prog 126 #[.agg #[v1, v2]] w fun e w' => aU3 (aD8 cs ws (fun _ => true) ws.length) [] w e w' := by
 obtain ⟨o1, c1, rfl⟩ := aA0 h.cells;obtain ⟨o2, c2, rfl⟩ := aA0 h.pend;obtain ⟨g, rfl⟩ := aJ0 h.cells (by omega);have HD : Hid (∀ W, Bw w W → aD3 W B (.slice (some ⟨g, 0, none⟩) 20 c1) 20 cs (.slice o2 n2 c2) n2 ws) := fun W hb => ⟨aC0 h.cells hb (fun g hg => aA6 h.cells hg), aC0 h.pend hb (fun g hg => aA6 h.pend hg)⟩
 have b7 := hid hok;have c3 := hid hz1;have c4 := hid hz2;have d6 : Hid (ws.length = n2) := aM5 h.pend;have a8 : Hid (cs.length = 20) := hok.1;have d7 := underlying206;have c5 : (prog.info? 206).map (·.size) = some (cs.map Value.string).length := by rw [List.length_map, a8.out]; kernel_rfl
 have d8 := hid c5;clear h hok hz1 hz2;go_enter func126, ntmps126;go_wp2_with fail
 refine (aQ9 _ _ 20 _ n2 ws B _ (HD.out _ (((Below.refl _ _).alloc (Nat.le_refl _) _).alloc (by simp) _)) (by omega) hn2).mono ?_;rintro e w3 ⟨b, rfl, hb, bw⟩;obtain rfl : b = true := hb.2 b7.out;have a6 : Bw w w3 := (((Below.refl _ _).alloc (Nat.le_refl _) _).alloc (by simp) _).trans (bw.mono (by simp; omega));have b8 := aA3 (aI8 (heap_alloc_new w _) _) bw;have a9 := hid b8;have b3 : Hid (∀ W, Below w3.heap.size w3 W → aD3 W B (.slice (some ⟨g, 0, none⟩) 20 c1) 20 cs (.slice o2 n2 c2) n2 ws) := fun W hb => HD.out W (a6.trans (hb.mono a6.size))
 have b4 := hid a6;have b5 : Hid (w3.heap[w.heap.size + 1]? = some (.cells #[.slice none 0 0, .slice none 0 0] 39)) := aA3 (heap_alloc2_new w _ _) bw;obtain ⟨q, hq⟩ := exq (w.heap.size);have HQ : Hid (w.heap.size = q) := hq.symm;rw [← hq] at a9 b5;rw [← hq]
 have HK : Hid (∀ W, Below w3.heap.size w3 W → W.cell? ⟨q, 0, none⟩ = some (.slice (some ⟨g, 0, none⟩) 20 c1) ∧ W.cell? ⟨q, 1, none⟩ = some (.slice o2 n2 c2) ∧ W.rangeAt g 0 (cs.map Value.string)) := fun W hW =>
  ⟨(aB0 (aA3 a9.out hW) 0).trans rfl, (aB0 (aA3 a9.out hW) 1).trans rfl, cP2 (b3.out W hW).cells⟩
 clear hb a6 b8 bw hq HD;have d9 : ∀ W : World, (Instr.arrayAt 206 (.slice (some ⟨g, 0, none⟩) 20 c1)).run prog W = .ok (.pointer (some ⟨g, 0, none⟩)) W := fun W => by simp [Instr.arrayAt]
 obtain ⟨d0, d1, d2⟩ := HK.out _ (Below.refl _ _);go_upto_region 3 with fail
 have b6 : Hid (∀ (W : World) (x y : Value), Below w3.heap.size w3 W → (((W.setCell ⟨q + 1, 0, none⟩ x).setCell ⟨q + 1, 1, none⟩ y).cell? ⟨q, 0, none⟩ = some (.slice (some ⟨g, 0, none⟩) 20 c1) ∧ ((W.setCell ⟨q + 1, 0, none⟩ x).setCell ⟨q + 1, 1, none⟩ y).cell? ⟨q, 1, none⟩ = some (.slice o2 n2 c2) ∧ ((W.setCell ⟨q + 1, 0, none⟩ x).setCell ⟨q + 1, 1, none⟩ y).rangeAt g 0 (cs.map Value.string))) := fun W x y h => by
  obtain ⟨k0, k1, k2⟩ := HK.out W h
  have c6 : g ≠ q + 1 := aA9 (b3.out _ h).cells (aA3 b5.out h) (by decide) g rfl
  have hh : ∀ j, j ≠ q + 1 → ((W.setCell ⟨q + 1, 0, none⟩ x).setCell ⟨q + 1, 1, none⟩ y).heap[j]? = W.heap[j]? := fun j hj => (heap_setCell_other _ _ j _ hj).trans (heap_setCell_other _ _ j _ hj)
  exact ⟨(World.cell?_of_block (hh q (by omega))).trans k0, (World.cell?_of_block (hh q (by omega))).trans k1, fun j v hv => (World.cell?_of_block (hh g c6)).trans (k2 j v hv)⟩
 have c7 : Hid (∀ i, i < 20 → (aA8 (aD8 cs ws (fun _ => true) ws.length) i).size ≤ 1048576) := bH8 c3.out c4.out _ _ (Nat.le_refl _)
 have c8 : Hid ((aD8 cs ws (fun _ => true) ws.length).length = 20) := (aJ3 _ _ _ _).trans a8.out
 go_region_held3 (fun W => W.cell? ⟨q, 0, none⟩ = some (.slice (some ⟨g, 0, none⟩) 20 c1) ∧ W.cell? ⟨q, 1, none⟩ = some (.slice o2 n2 c2) ∧ W.rangeAt g 0 (cs.map Value.string)) (first | assumption | exact b6.out _ _ _ a4 | go_keep) (first | (go_at_call 183; refine (bY1 cs a8.out o2 n2 c2 ws _ (aG0 (b3.out _ (Below.refl _ _).drew).pend) hn2 b7.out.2.2).mono ?_; rintro e u1 ⟨rfl, b9⟩; have a5 := (Below.refl w3.heap.size w3).drew.trans b9; obtain ⟨a0, a1, a2⟩ := HK.out u1 a5) | (go_at_call 184; refine (cE8 _ c8.out c7.out _).mono ?_; rintro e u2 ⟨x1, x2, rfl, a7, c0⟩; have a4 := a5.trans (c0.mono a5.size); obtain ⟨b0, b1, b2⟩ := HK.out u2 a4; obtain ⟨oa, pa, rfl⟩ := aA0 a7.cells; obtain ⟨ob, pb, rfl⟩ := aA0 a7.pend; have a3 := aA3 b5.out a4; have k0 := (aB0 a3 0).trans rfl; have k1 := (aB0 a3 1).trans rfl; have k2 := aC9 a3 0; have k3 := aC9 a3 1))
 have c9 : Hid (Bw w u2) := b4.out.trans (a4.mono b4.out.size);have d3 := hid a3;have d4 := hid a7;have d5 : Hid (w.heap.size ≤ u1.heap.size) := Nat.le_trans b4.out.size a5.size;clear a3 a7 a4 c0 b0 b1 b2 k0 k1 k2 k3 b9 a5 a0 a1 a2 d0 d1 d2;go_wp2_with fail
 refine cB6 (w0 := u1) results126 ?_ ?_ d3.out d4.out ?_ ?_ d5.out c9.out (by rw [HQ.out]; exact Nat.le_succ _) <;> rfl
theorem cU0 {o2 : Oa} {n2 c2 : Nat} (hF : (o2 = none ∧ c2 = 0) ∨ ∃ g, o2 = some ⟨g, 0, none⟩) (hc : n2 ≤ c2) (h : o2 = none) : n2 = 0 ∧ n2 = 0 := by
 rcases hF with h2 | ⟨g, h2⟩
 ·have := h2.2;omega
 rw [h] at h2;cases h2
theorem cN5 (x : Int) (t : Tx) : ∀ u ∈ [Value.int .i64 x, Value.string t], u.oneCell' = true := fun u hu => by
 simp only [List.mem_cons, List.not_mem_nil, or_false] at hu
 rcases hu with rfl | rfl <;> rfl
theorem cR1 {cs : Ts} {ws : List (Int × ByteArray)} (h : aG5 cs ws) : putC cs ws = cs := by unfold putC; rw [if_pos ((aO9 cs ws).2 h)]
theorem bP5 {cs : Ts} {ws : List (Int × ByteArray)} {x : Int} (hn : ¬ (ws.length < 16 ∧ (0 ≤ x ∧ x ≤ 19))) : putB cs ws x = false := by
 unfold putB cJ0;rw [Bool.eq_false_iff];intro h;simp only [Bool.and_eq_true, decide_eq_true_eq] at h
 exact hn h.2
theorem cU1 {cs : Ts} {ws : List (Int × ByteArray)} {x : Int} (h : aG5 cs ws) (hl : ws.length < 16) (hx : 0 ≤ x ∧ x ≤ 19) : putB cs ws x = true := by
 unfold putB cJ0;simp only [Bool.and_eq_true, decide_eq_true_eq]
 exact ⟨(aO9 cs ws).2 h, hl, hx⟩
theorem cB7 {cs : Ts} {ws : List (Int × ByteArray)} {x : Int} {t : ByteArray} (h : aG5 cs ws) (hn : ¬ (ws.length < 16 ∧ (0 ≤ x ∧ x ≤ 19))) : putW cs ws x t = ws := by
 unfold putW;rw [bP5 hn, if_neg (by decide), if_pos ((aO9 cs ws).2 h)]
theorem cV3 {cs : Ts} {ws : List (Int × ByteArray)} {x : Int} {t : ByteArray} (h : aG5 cs ws) (hl : ws.length < 16) (hx : 0 ≤ x ∧ x ≤ 19) : putW cs ws x t = ws ++ [(x, t)] := by
 unfold putW;rw [cU1 h hl hx, if_pos rfl]
theorem bD4 (v1 v2 : Value) (cs : Ts) (n2 : Nat) (ws : List (Int × ByteArray)) (B : Nat) (w : World) (h : aD3 w B v1 20 cs v2 n2 ws) (hn2 : n2 ≤ 2000000) (hok : aG5 cs ws) (hz1 : ∀ i, i < 20 → (aA8 cs i).size ≤ 1048576) (hz2 : ∀ x ∈ ws, (x.2).size ≤ 1048576) (x : Int) (t : Tx) (ht : t.size ≤ 1048576) :
  Calls prog 174 #[.agg #[v1, v2], .int .i64 x, .string t] w fun e w' => aT1 (putC cs ws) (putW cs ws x t) (putB cs ws x) w e w' := by
 obtain ⟨o1, c1, rfl⟩ := aA0 h.cells;obtain ⟨o2, c2, rfl⟩ := aA0 h.pend;obtain ⟨g, rfl⟩ := aJ0 h.cells (by omega);have HD : Hid (∀ W, Bw w W → aD3 W B (.slice (some ⟨g, 0, none⟩) 20 c1) 20 cs (.slice o2 n2 c2) n2 ws) := fun W hb => ⟨aC0 h.cells hb (fun g hg => aA6 h.cells hg), aC0 h.pend hb (fun g hg => aA6 h.pend hg)⟩
 have a8 := hid hok;have c3 := hid hz1;have c4 := hid hz2;have a5 : Hid (ws.length = n2) := aM5 h.pend;have b8 : Hid (cs.length = 20) := hok.1;have d6 := underlying206;have c9 : (prog.info? 206).map (·.size) = some (cs.map Value.string).length := by rw [List.length_map, b8.out]; kernel_rfl
 have d7 := hid c9;clear h hok hz1 hz2;go_enter func174, ntmps174;go_wp2_with fail
 refine (aQ9 _ _ 20 _ n2 ws B _ (HD.out _ (((Below.refl _ _).alloc (Nat.le_refl _) _).alloc (by simp) _)) (by omega) hn2).mono ?_;rintro e w3 ⟨b, rfl, hb, bw⟩;obtain rfl : b = true := hb.2 a8.out;have b9 : Bw w w3 := (((Below.refl _ _).alloc (Nat.le_refl _) _).alloc (by simp) _).trans (bw.mono (by simp; omega));have d3 := aA3 (aI8 (heap_alloc_new w _) _) bw;have c6 := hid d3;have a6 : Hid (∀ W, Below w3.heap.size w3 W → aD3 W B (.slice (some ⟨g, 0, none⟩) 20 c1) 20 cs (.slice o2 n2 c2) n2 ws) := fun W hb => HD.out W (b9.trans (hb.mono b9.size))
 have a7 := hid b9;have c0 : Hid (w3.heap[w.heap.size + 1]? = some (.cells #[.slice none 0 0, .slice none 0 0] 39)) := aA3 (heap_alloc2_new w _ _) bw;obtain ⟨q, hq⟩ := exq (w.heap.size);have HQ : Hid (w.heap.size = q) := hq.symm;rw [← hq] at c6 c0;rw [← hq]
 have HK : Hid (∀ W, Below w3.heap.size w3 W → W.cell? ⟨q, 0, none⟩ = some (.slice (some ⟨g, 0, none⟩) 20 c1) ∧ W.cell? ⟨q, 1, none⟩ = some (.slice o2 n2 c2) ∧ W.rangeAt g 0 (cs.map Value.string)) := fun W hW =>
  ⟨(aB0 (aA3 c6.out hW) 0).trans rfl, (aB0 (aA3 c6.out hW) 1).trans rfl, cP2 (a6.out W hW).cells⟩
 clear hb b9 d3 bw hq HD;have d8 : ∀ W : World, (Instr.arrayAt 206 (.slice (some ⟨g, 0, none⟩) 20 c1)).run prog W = .ok (.pointer (some ⟨g, 0, none⟩)) W := fun W => by simp [Instr.arrayAt]
 obtain ⟨i0, hi, d9, hz1, hz2⟩ := info_parts aV2;have HT := hid ht;clear ht d8 d6 c9 d7;obtain ⟨d0, d1, d2⟩ := HK.out _ (Below.refl _ _);have hF := cN2 (a6.out _ (Below.refl _ _)).pend;have HF := hid hF;have b2 : Hid (n2 ≤ c2) := cQ6 (a6.out _ (Below.refl _ _)).pend;clear hF;go_wp2_with fail
 refine (bH3 o2 n2 c2 n2 _ HF.out b2.out).mono ?_;rintro e w4 ⟨rfl, d4⟩;rw [d4];clear d4 w4 d2;by_cases hlt : n2 < 16
 rotate_left
 ·have c7 : ¬ (n2 : Int) < 16 := by omega
  have HX : Hid (¬ (ws.length < 16 ∧ (0 ≤ x ∧ x ≤ 19))) := fun h => hlt (by have := h.1; rw [a5.out] at this; exact this)
  go_upto_region 7 with fail
  go_wp2_with fail
  refine (aD4 (some ⟨g, 0, none⟩) 20 c1 cs _ (bH2 (a6.out _ (Below.refl w3.heap.size w3)).cells) (by omega) c3.out).mono ?_;rintro e wa ⟨v1, rfl, a3, ba⟩;obtain ⟨oa, pa, rfl⟩ := aA0 a3;have a2 : Hid (Below w3.heap.size w3 wa) := ba;have a9 := hid a3;clear ba a3;go_wp2_with fail
  refine (aD5 o2 n2 n2 (ws) _ ((aG0 (a6.out _ (Below.refl _ _)).pend).below a2.out) (by omega) (c4.out)).mono ?_;rintro e wb ⟨v2, rfl, a4, bb⟩;obtain ⟨ob, pb, rfl⟩ := aA0 a4;have b0 : Hid (Below w3.heap.size w3 wb) := (Below.refl w3.heap.size w3).trans ((a2.out.mono (Below.refl w3.heap.size w3).size).trans (bb.mono (Nat.le_trans (Below.refl w3.heap.size w3).size a2.out.size)));have a1 := aA3 c0.out b0.out;have b3 := hid a1;have b4 : Hid (aD3 wb w3.heap.size (.slice oa 20 pa) 20 cs (.slice ob n2 pb) n2 (ws)) := ⟨aC0 a9.out bb (fun g hg => aA6 a9.out hg), aE0 a4 a2.out.size⟩
  have b5 : Hid (w.heap.size ≤ w3.heap.size) := Nat.le_trans a7.out.size (Below.refl w3.heap.size w3).size;have b6 : Hid (Bw w wb) := a7.out.trans (b0.out.mono a7.out.size);have k0 := (aB0 a1 0).trans rfl;have k1 := (aB0 a1 1).trans rfl;have k2 := aC9 a1 0;have k3 := aC9 a1 1;clear a1 bb a4;go_wp2_with fail
  rw [cB7 a8.out HX.out, cR1 a8.out, bP5 HX.out];refine aZ6 (w0 := w3) results174 ?_ ?_ ?_ b3.out b4.out ?_ ?_ b5.out b6.out (by rw [HQ.out]; exact Nat.le_succ _) <;> first | rfl | exact b8.out.symm | exact a5.out.symm | (rw [List.length_append, a5.out]; rfl)
 have c7 : (n2 : Int) < 16 := by omega
 go_wp2_with fail
 refine (bB3 x _).mono ?_;rintro e w4 ⟨b, rfl, hb, bw⟩;have a0 : Hid (Below w3.heap.size w3 w4) := bw;obtain ⟨e0, e1, _⟩ := HK.out _ bw;cases b
 ·have HX : Hid (¬ (ws.length < 16 ∧ (0 ≤ x ∧ x ≤ 19))) := fun h => nomatch hb.2 h.2
  clear hb bw d0 d1;go_upto_region 7 with fail
  go_wp2_with fail
  refine (aD4 (some ⟨g, 0, none⟩) 20 c1 cs _ (bH2 (a6.out _ (a0.out)).cells) (by omega) c3.out).mono ?_;rintro e wa ⟨v1, rfl, a3, ba⟩;obtain ⟨oa, pa, rfl⟩ := aA0 a3;have a2 : Hid (Below w4.heap.size w4 wa) := ba;have a9 := hid a3;clear ba a3;go_wp2_with fail
  refine (aD5 o2 n2 n2 (ws) _ ((aG0 (a6.out _ a0.out).pend).below a2.out) (by omega) (c4.out)).mono ?_;rintro e wb ⟨v2, rfl, a4, bb⟩;obtain ⟨ob, pb, rfl⟩ := aA0 a4;have b0 : Hid (Below w3.heap.size w3 wb) := (a0.out).trans ((a2.out.mono (a0.out).size).trans (bb.mono (Nat.le_trans (a0.out).size a2.out.size)));have a1 := aA3 c0.out b0.out;have b3 := hid a1;have b4 : Hid (aD3 wb w4.heap.size (.slice oa 20 pa) 20 cs (.slice ob n2 pb) n2 (ws)) := ⟨aC0 a9.out bb (fun g hg => aA6 a9.out hg), aE0 a4 a2.out.size⟩
  have b5 : Hid (w.heap.size ≤ w4.heap.size) := Nat.le_trans a7.out.size (a0.out).size;have b6 : Hid (Bw w wb) := a7.out.trans (b0.out.mono a7.out.size);have k0 := (aB0 a1 0).trans rfl;have k1 := (aB0 a1 1).trans rfl;have k2 := aC9 a1 0;have k3 := aC9 a1 1;clear a1 bb a4;go_wp2_with fail
  rw [cB7 a8.out HX.out, cR1 a8.out, bP5 HX.out];refine aZ6 (w0 := w4) results174 ?_ ?_ ?_ b3.out b4.out ?_ ?_ b5.out b6.out (by rw [HQ.out]; exact Nat.le_succ _) <;> first | rfl | exact b8.out.symm | exact a5.out.symm | (rw [List.length_append, a5.out]; rfl)
 have HX : Hid (0 ≤ x ∧ x ≤ 19) := hb.1 rfl;have b7 : Hid (ws.length < 16) := by rw [a5.out]; exact hlt
 clear hb bw d0 d1;have e2 : Hid (∀ W, Below w3.heap.size w3 W → W.ownsRow B 155 2 (.slice o2 n2 c2) n2 (aA1 ws)) := fun W h => (a6.out W h).pend
 go_upto_region 7 with (refine wpList_append_grows _ rfl _ _ 37 rfl 155 i0 (.agg #[.int .i64 0, .string ⟨#[]⟩]) 2 24 underlying37 hi d9 hz1 hz2 rfl (by omega) o2 n2 n2 (aA1 ws) rfl (cU0 HF.out b2.out) (by rw [aK1, a5.out]) (fun b hb j u hj => by subst hb; exact cJ8 (e2.out _ ((a0.out).alloc a0.out.size _)) j u hj) ⟨w4.heap.size, 0, none⟩ 1 1 [.int .i64 x, .string t] rfl rfl (fun j u hj => by rw [Addr.add_lit, Nat.zero_add, aB0 (heap_alloc_new _ _) j]; simpa using hj) (cN5 x t) (by omega) (by unfold maxLen; omega) (by omega) ?_; intro v5 w5 c8 d5)
 obtain ⟨o5, c5, rfl⟩ := aA0 c8;have b1 : Hid (Below w3.heap.size w3 w5) := (a0.out.alloc a0.out.size _).grown d5 (Nat.le_trans a0.out.size (by simp)) (fun k h => by cases h)
 have e3 : Hid (aO7 w5 o5 (n2 + 1) (ws ++ [(x, t)])) := aG0 (base := (w4.alloc (.cells #[.int .i64 x, .string t] 155)).heap.size) (cap := c5) (by rw [aU2, aY4]; exact c8)
 have e4 : Hid (∀ y ∈ ws ++ [(x, t)], (y.2).size ≤ 1048576) := fun y hy => by
  rcases List.mem_append.1 hy with h | h
  ·exact c4.out y h
  ·rw [List.mem_singleton.1 h]; exact HT.out
 clear c8 d5 e0 e1;obtain ⟨e0, e1, _⟩ := HK.out _ b1.out;go_wp2_with fail
 refine (aD4 (some ⟨g, 0, none⟩) 20 c1 cs _ (bH2 (a6.out _ (b1.out)).cells) (by omega) c3.out).mono ?_;rintro e wa ⟨v1, rfl, a3, ba⟩;obtain ⟨oa, pa, rfl⟩ := aA0 a3;have a2 : Hid (Below w5.heap.size w5 wa) := ba;have a9 := hid a3;clear ba a3;go_wp2_with fail
 refine (aD5 o5 (n2 + 1) c5 (ws ++ [(x, t)]) _ ((e3.out).below a2.out) (by omega) (e4.out)).mono ?_;rintro e wb ⟨v2, rfl, a4, bb⟩;obtain ⟨ob, pb, rfl⟩ := aA0 a4;have b0 : Hid (Below w3.heap.size w3 wb) := (b1.out).trans ((a2.out.mono (b1.out).size).trans (bb.mono (Nat.le_trans (b1.out).size a2.out.size)));have a1 := aA3 c0.out b0.out;have b3 := hid a1;have b4 : Hid (aD3 wb w5.heap.size (.slice oa 20 pa) 20 cs (.slice ob (n2 + 1) pb) (n2 + 1) (ws ++ [(x, t)])) := ⟨aC0 a9.out bb (fun g hg => aA6 a9.out hg), aE0 a4 a2.out.size⟩
 have b5 : Hid (w.heap.size ≤ w5.heap.size) := Nat.le_trans a7.out.size (b1.out).size;have b6 : Hid (Bw w wb) := a7.out.trans (b0.out.mono a7.out.size);have k0 := (aB0 a1 0).trans rfl;have k1 := (aB0 a1 1).trans rfl;have k2 := aC9 a1 0;have k3 := aC9 a1 1;clear a1 bb a4;go_wp2_with fail
 rw [cV3 a8.out b7.out HX.out, cR1 a8.out, cU1 a8.out b7.out HX.out];refine aZ6 (w0 := w5) results174 ?_ ?_ ?_ b3.out b4.out ?_ ?_ b5.out b6.out (by rw [HQ.out]; exact Nat.le_succ _) <;> first | rfl | exact b8.out.symm | exact a5.out.symm | (rw [List.length_append, a5.out]; rfl)
theorem aZ7 (v1 v2 : Value) (n1 : Nat) (cs : Ts) (n2 : Nat) (ws : List (Int × ByteArray)) (B : Nat) (w : World) (h : aD3 w B v1 n1 cs v2 n2 ws) (_hn1 : n1 ≤ 2000000) (hn2 : n2 ≤ 2000000) (hz1 : ∀ i, i < n1 → (aA8 cs i).size ≤ 1048576) (hz2 : ∀ x ∈ ws, (x.2).size ≤ 1048576) :
  Calls prog 126 #[.agg #[v1, v2]] w fun e w' => aU3 (aL5 cs ws (fun _ => true)) [] w e w' := by
 have hl : cs.length = n1 := by have := h.cells.1; rw [List.length_map] at this; omega
 by_cases hok : aG5 cs ws
 ·obtain rfl : n1 = 20 := hl.symm.trans hok.1;rw [aR2 hok];exact bK4 v1 v2 cs n2 ws B w h hn2 hok hz1 hz2
 obtain ⟨o1, c1, rfl⟩ := aA0 h.cells;have a0 : ¬ bX0 n1 ws := fun hd => hok ⟨hl.trans hd.1, hd.2⟩
 rw [cB0 hok];exact bH9 o1 n1 c1 v2 n2 ws B w h.pend hn2 a0
theorem cN6 {cs : Ts} {ws : List (Int × ByteArray)} (h : ¬ aG5 cs ws) : putC cs ws = [] := by unfold putC; rw [aY6 h, if_neg (by decide)]
theorem bU3 {cs : Ts} {ws : List (Int × ByteArray)} (x : Int) (h : ¬ aG5 cs ws) : putB cs ws x = false := by unfold putB; rw [aY6 h]; rfl
theorem cK5 {cs : Ts} {ws : List (Int × ByteArray)} (x : Int) (t : Tx) (h : ¬ aG5 cs ws) : putW cs ws x t = [] := by unfold putW; rw [bU3 x h, if_neg (by decide), aY6 h, if_neg (by decide)]
theorem aV9 (v1 v2 : Value) (n1 : Nat) (cs : Ts) (n2 : Nat) (ws : List (Int × ByteArray)) (B : Nat) (w : World) (h : aD3 w B v1 n1 cs v2 n2 ws) (_hn1 : n1 ≤ 2000000) (hn2 : n2 ≤ 2000000) (hz1 : ∀ i, i < n1 → (aA8 cs i).size ≤ 1048576) (hz2 : ∀ x ∈ ws, (x.2).size ≤ 1048576) (x : Int) (t : Tx) (ht : t.size ≤ 1048576) :
  Calls prog 174 #[.agg #[v1, v2], .int .i64 x, .string t] w fun e w' => aT1 (putC cs ws) (putW cs ws x t) (putB cs ws x) w e w' := by
 have hl : cs.length = n1 := by have := h.cells.1; rw [List.length_map] at this; omega
 by_cases hok : aG5 cs ws
 ·obtain rfl : n1 = 20 := hl.symm.trans hok.1;exact bD4 v1 v2 cs n2 ws B w h hn2 hok hz1 hz2 x t ht
 obtain ⟨o1, c1, rfl⟩ := aA0 h.cells;have a0 : ¬ bX0 n1 ws := fun hd => hok ⟨hl.trans hd.1, hd.2⟩
 rw [cN6 hok, bU3 x hok, cK5 x t hok];exact bB6 o1 n1 c1 v2 n2 ws B w h.pend hn2 a0 x t
end Go.Proofs.YtejoifianjgefaaGreatDoor
