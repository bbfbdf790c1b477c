/- What the proof of FnExactKeep leans on: contracts of the program's and the specification's functions, and plain facts (part 2 of 12). -/
import Derived.Test.YtejoifianjgefaaGreatDoorFnExactKeepA
set_option maxHeartbeats 16000000
set_option maxRecDepth 100000
namespace Go.Proofs.YtejoifianjgefaaGreatDoor
open Go.Proofs.Tryz
open Go.RowKit
open Go.Lib hiding intOf
attribute [local go_sem ↓] Go.wp_at_zero Go.wp_at_succ
structure ArgF (w : World) (B : Nat) (a : Oa) (n : Nat) (fs : Fs) : Prop where
 len : fs.length = n
 get : ∀ i, i < n → ∃ b off, a = some ⟨b, off, none⟩ ∧ b < B ∧ w.cell? ⟨b, off + i * 2, none⟩ = some (.string (aC8 fs i)) ∧ w.cell? ⟨b, off + i * 2 + 1, none⟩ = some (.string (aH1 fs i))
theorem ArgF.below {w w' : World} {B : Nat} {a : Oa} {n : Nat} {fs : Fs} (h : ArgF w B a n fs) (hb : Below B w w') : ArgF w' B a n fs :=
 ⟨h.len, fun i hi => by
  obtain ⟨b, off, h1, h2, h3, h4⟩ := h.get i hi
  exact ⟨b, off, h1, h2, by rw [hb.cell (p := ⟨b, off + i * 2, none⟩) h2]; exact h3, by rw [hb.cell (p := ⟨b, off + i * 2 + 1, none⟩) h2]; exact h4⟩⟩
def szTo (fs : Fs) : Nat → Nat
 | 0 => 0
 | k + 1 => szTo fs k + (aC8 fs k).size + (aH1 fs k).size
theorem bX8 (nm vl : Tx) (left : Int) (w : World) (h0 : 0 ≤ left) (h1 : left ≤ 1073741824) (hn : nm.size ≤ maxLen) (hv : vl.size ≤ maxLen) :
  Calls prog 152 #[.agg #[.string nm, .string vl], .int .i64 left] w fun e w' => e = .returned (.int .i64 (if left - nm.size < 0 then -1 else if left - nm.size - vl.size < 0 then -1 else left - nm.size - vl.size)) ∧ Below w.heap.size w w' := by
 unfold maxLen at hn hv;by_cases c1 : left - (nm.size : Int) < 0
 ·rw [if_pos c1];go_enter func152, ntmps152;go_wp2
  go_ret;exact ⟨rfl, (Below.refl _ _).alloc (Nat.le_refl _) _⟩
 rw [if_neg c1];by_cases c2 : left - (nm.size : Int) - (vl.size : Int) < 0
 ·rw [if_pos c2];go_enter func152, ntmps152;go_wp2
  go_ret;exact ⟨rfl, (Below.refl _ _).alloc (Nat.le_refl _) _⟩
 rw [if_neg c2];go_enter func152, ntmps152;go_wp2
 go_ret;exact ⟨rfl, (Below.refl _ _).alloc (Nat.le_refl _) _⟩
theorem bX9 (nm vl : Tx) (w : World) :
  Calls prog 160 #[.agg #[.string nm, .string vl]] w fun e w' => e = .returned (.agg #[.string nm, .string vl]) ∧ Below w.heap.size w w' := by
 go_enter func160, ntmps160;go_wp2
 exact bodyPost_ret (v := .agg #[.string nm, .string vl]) (by simp [results, results160, go_sem]) rfl ⟨rfl, (((Below.refl _ _).alloc (Nat.le_refl _) _).alloc (by simp) _).alloc (by simp; omega) _⟩
theorem cJ5 : (prog.info? 184).map (fun i => (i.zero, i.size, i.bytes)) = some (some (.agg #[.string ⟨#[]⟩, .string ⟨#[]⟩]), 2, 32) := by kernel_rfl
theorem aC2 (w : World) (c o : Nat) (cs : Array Value) (t : TypeId) (fz : Nat × Nat) (v : Value) (h : w.heap[c]? = some (.cells cs t fz)) : (w.setCell ⟨c, o, none⟩ v).heap[c]? = some (.cells (cs.setIfInBounds o v) t fz) := by
 simp [World.setCell, Array.getElem?_modify, h]
theorem hput {W W' : World} {q i : Nat} {T : TypeId} {v : Value} {l l' : List Value} (hW : W' = W.setCell ⟨q, i, none⟩ v) (h : Hid (W.heap[q]? = some (.cells l.toArray T))) (hl : l.set i v = l' := by simp only [List.set_cons_zero, List.set_cons_succ]; rfl) : Hid (W'.heap[q]? = some (.cells l'.toArray T)) := by
  show _ = _
  rw [hW, ← hl]
  have h2 := aC2 _ q i _ _ _ v h.out
  simpa using h2
def aH7 (w : World) (g n k : Nat) (fs : Fs) : Prop :=
 ∃ cur, w.heap[g]? = some (.cells cur 184 (0, 0)) ∧ cur.size = n * 2 ∧ ∀ i, i < k → cur[i * 2]? = some (.string (aC8 fs i)) ∧ cur[i * 2 + 1]? = some (.string (aH1 fs i))
theorem aH7.below {w w' : World} {g n k B : Nat} {fs : Fs} (h : aH7 w g n k fs) (hb : Below B w w') (hB : g < B) : aH7 w' g n k fs := by
 obtain ⟨a0, h1, h2⟩ := h;exact ⟨a0, by rw [hb.block g hB]; exact h1, h2⟩
theorem aH7.lt {w : World} {g n k : Nat} {fs : Fs} (h : aH7 w g n k fs) : g < w.heap.size := by
 obtain ⟨a0, h1, _⟩ := h;exact (blt h1)
theorem aH7.cell {w : World} {g n k : Nat} {fs : Fs} (h : aH7 w g n k fs) (j : Nat) (hj : j < n * 2) : ∃ u, w.cell? ⟨g, j, none⟩ = some u := by
 obtain ⟨a0, h1, h2, _⟩ := h;refine ⟨a0[j]'(by omega), ?_⟩;simp only [World.cell?, h1]
 simp [show j < a0.size by omega]
theorem aH7.frozen {w : World} {g n k : Nat} {fs : Fs} (h : aH7 w g n k fs) (j : Nat) : w.frozen? ⟨g, j, none⟩ = false := by
 obtain ⟨a0, h1, _⟩ := h;simp [World.frozen?, h1]
theorem aH7.put {w : World} {g n k : Nat} {fs : Fs} (h : aH7 w g n k fs) (hk : k < n) : aH7 ((w.setCell ⟨g, k * 2, none⟩ (.string (aC8 fs k))).setCell ⟨g, k * 2 + 1, none⟩ (.string (aH1 fs k))) g n (k + 1) fs := by
 obtain ⟨a0, h1, h2, h3⟩ := h;refine ⟨_, aC2 _ g (k * 2 + 1) _ _ _ _ (aC2 w g (k * 2) _ _ _ _ h1), by simpa using h2, ?_⟩;intro i hi;by_cases e : i = k
 ·subst e;refine ⟨?_, ?_⟩
  ·rw [Array.getElem?_setIfInBounds_ne (by omega), Array.getElem?_setIfInBounds_self_of_lt (by omega)]
  rw [Array.getElem?_setIfInBounds_self_of_lt (by simp; omega)]
 have := h3 i (by omega);refine ⟨?_, ?_⟩
 ·rw [Array.getElem?_setIfInBounds_ne (by omega), Array.getElem?_setIfInBounds_ne (by omega)]; exact this.1
 rw [Array.getElem?_setIfInBounds_ne (by omega), Array.getElem?_setIfInBounds_ne (by omega)]; exact this.2
theorem aH7.owns {w : World} {g n : Nat} {fs : Fs} (h : aH7 w g n n fs) (hl : fs.length = n) (hm : n ≤ maxLen) {base : Nat} (hb : base ≤ g) : w.ownsRow base 184 2 (.slice (some ⟨g, 0, none⟩) n n) n (aE4 fs) :=
 aE5.owns ⟨hl, hb, h.lt, Nat.le_refl _, hm, h⟩
theorem bS6 (B : Nat) (a : Oa) (n cap : Nat) (fs : Fs) (w : World) (harg : ArgF w B a n fs) (hB : B ≤ w.heap.size) (hn : n ≤ 1048576) :
  Calls prog 102 #[.slice a n cap] w fun e w' => ∃ v, e = .returned v ∧ w'.ownsRow w.heap.size 184 2 v n (aE4 fs) ∧ Below w.heap.size w w' := by
 obtain ⟨i0, hi, b0, b1, b2⟩ := info_parts cJ5;obtain ⟨M, hM⟩ : ∃ M, M = madeCells (Value.agg #[.string ⟨#[]⟩, .string ⟨#[]⟩]).cells (((n : Nat) : Int).toNat * i0.size) := ⟨_, rfl⟩
 have b8 : ∀ W : World, (Instr.makeSlice 47 (.int .i64 (n : Int)) (.int .i64 (n : Int))).run prog W = .ok (.slice (some ⟨W.heap.size, 0, none⟩) n n) (W.alloc (.cells M 184)) := fun W => by
  have h := run_make (P := prog) W 47 184 i0 (.agg #[.string ⟨#[]⟩, .string ⟨#[]⟩]) underlying47 hi b0 .i64 .i64 (n : Int) (n : Int) (by omega) (by omega) (by rw [b2]; omega) (by omega)
  rw [← hM] at h
  simpa using h
 have b3 : M.size = n * 2 := by rw [hM, size_madeCells, b1]; simp
 have a2 := harg.len;clear hM;have HP : Hid (aH7 (w.alloc (.cells M 184)) w.heap.size n 0 fs) := ⟨M, heap_alloc_new w _, b3, fun i h => absurd h (by omega)⟩
 go_enter func102, ntmps102;go_wp2
 go_loopw [4] (fun i wr => ∃ k : Nat, k ≤ n ∧ i = .int .i64 (k : Int) ∧ Hid (aH7 wr w.heap.size n k fs) ∧ Bw w wr) (fun i _ => n - (intOf i).toNat)
 case atStart => exact ⟨0, Nat.zero_le _, rfl, HP, (Below.refl _ _).alloc (Nat.le_refl _) _⟩
 case round =>
  obtain ⟨k, hk, rfl, a3, a1⟩ := hrel;by_cases hlt : k < n
  rotate_left
  ·obtain rfl : k = n := by omega
   go_wp2
   go_ret;exact ⟨_, rfl, a3.out.owns a2 (by unfold maxLen; omega) (Nat.le_refl _), a1⟩
  have b4 : (k : Int) < (n : Int) := by omega
  obtain ⟨b, b9, rfl, c0, a8, a9⟩ := (harg.below (a1.mono hB)).get k hlt;obtain ⟨nm, a4⟩ := exq (aC8 fs k);obtain ⟨vl, a5⟩ := exq (aH1 fs k);rw [← a4] at a8;rw [← a5] at a9;have b5 := hid a4;have b6 := hid a5;clear a4 a5;go_wp2_with fail
  refine (bX9 nm vl _).mono ?_;rintro e w1 ⟨rfl, a6⟩;have a0 := a3.out.below a6 a3.out.lt;have b7 : Bw w w1 := a1.trans (a6.mono a1.size);obtain ⟨u0, c1⟩ := a0.cell (k * 2) (by omega);obtain ⟨u1, c2⟩ := a0.cell (k * 2 + 1) (by omega);have f0 := a0.frozen (k * 2);have f1 := a0.frozen (k * 2 + 1);have hput := a0.put hlt;rw [← b5.out, ← b6.out] at hput;have a7 : Hid _ := hput;clear hput a8 a9 a6;go_wp2
  go_roundw
  case rel => exact ⟨k + 1, by omega, by go_num, a7, (b7.setCell (Nat.le_refl _) _).setCell (Nat.le_refl _) _⟩
  case measure => simp [intOf]; omega
theorem bY0 (nm vl : Tx) (w : World) :
  Calls prog 179 #[.agg #[.string nm, .string vl], .agg #[.string nm, .string vl]] w fun e w' => e = .returned (.bool true) ∧ Below w.heap.size w w' := by
 go_enter func179, ntmps179;go_wp2
 go_ret;exact ⟨rfl, ((Below.refl _ _).alloc (Nat.le_refl _) _).alloc (by simp) _⟩
theorem bS7 (v1 v2 : Value) (n b1 b2 : Nat) (fs : Fs) (w : World) (h1 : aB2 w b1 v1 n fs) (h2 : aB2 w b2 v2 n fs) (hn : n ≤ 2000000) :
  Calls prog 116 #[v1, v2] w fun e w' => e = .returned (.bool true) ∧ Below w.heap.size w w' := by
 rcases h1 with ⟨oa, ca, rfl, _, rfl, rfl⟩ | ⟨g1, c1, rfl, hp, r1⟩
 ·rcases h2 with ⟨ob, cb, rfl, _, _, _⟩ | ⟨g2, c2, rfl, a7, _⟩
  ·go_enter func116, ntmps116;go_wp2
   refine wp_loop_rounds 1 ?_;rw [rounds_succ];go_wp2
   go_ret;exact ⟨rfl, Below.refl _ _⟩
  omega
 rcases h2 with ⟨ob, cb, rfl, _, h0, _⟩ | ⟨g2, c2, rfl, a7, r2⟩
 ·omega
 go_enter func116, ntmps116;go_wp2
 go_loopw [5] (fun i wr => ∃ k : Nat, k ≤ n ∧ i = .int .i64 (k : Int) ∧ Bw w wr) (fun i _ => n - (intOf i).toNat)
 case atStart => exact ⟨0, Nat.zero_le _, rfl, Below.refl _ _⟩
 case round =>
  obtain ⟨k, hk, rfl, a0⟩ := hrel;by_cases hlt : k < n
  rotate_left
  ·go_wp2
   go_ret;exact ⟨rfl, a0⟩
  have a8 : (k : Int) < (n : Int) := by omega
  obtain ⟨nm, a5⟩ := exq (aC8 fs k);obtain ⟨vl, a6⟩ := exq (aH1 fs k);have ha := (r1.below a0 r1.lt).name k hlt;have hb := (r1.below a0 r1.lt).val k hlt;have hc := (r2.below a0 r2.lt).name k hlt;have hd := (r2.below a0 r2.lt).val k hlt;rw [← a5] at ha hc;rw [← a6] at hb hd
  have HA : Hid (∀ w0 w1, Below wr.heap.size wr w0 → Below w0.heap.size w0 w1 → (w1.cell? ⟨g1, k * 2, none⟩ = some (.string nm) ∧ w1.cell? ⟨g1, k * 2 + 1, none⟩ = some (.string vl) ∧ w1.cell? ⟨g2, k * 2, none⟩ = some (.string nm) ∧ w1.cell? ⟨g2, k * 2 + 1, none⟩ = some (.string vl)) ∧ Below wr.heap.size wr w1) := fun w0 w1 h h' => by
   have hx := h.trans (h'.mono h.size)
   have hy := a0.trans (hx.mono a0.size)
   have a1 := (r1.below hy r1.lt).name k hlt
   have a2 := (r1.below hy r1.lt).val k hlt
   have a3 := (r2.below hy r2.lt).name k hlt
   have a4 := (r2.below hy r2.lt).val k hlt
   rw [← a5] at a1 a3
   rw [← a6] at a2 a4
   exact ⟨⟨a1, a2, a3, a4⟩, hx⟩
  clear a5 a6;go_wp2
  go_region_held3 (fun w' => w'.cell? ⟨g1, k * 2, none⟩ = some (.string nm) ∧ w'.cell? ⟨g1, k * 2 + 1, none⟩ = some (.string vl) ∧ w'.cell? ⟨g2, k * 2, none⟩ = some (.string nm) ∧ w'.cell? ⟨g2, k * 2 + 1, none⟩ = some (.string vl)) (first | assumption | go_keep) (first | (go_at_call 179; refine (bY0 _ _ _).mono ?_; rintro e w1 ⟨rfl, a9⟩; obtain ⟨b3, b0⟩ := HA.out _ w1 ((Below.refl _ wr).drew) a9))
  go_wp2
  go_roundw
  case rel => exact ⟨k + 1, by omega, by go_num, a0.trans (b0.mono a0.size)⟩
  case measure => simp [intOf]; omega
theorem bL8 (fs : Fs) (k j : Nat) (p : ByteArray × ByteArray) (hk : k < fs.length) : aC8 (fs.set k p) j = (if j = k then p.1 else aC8 fs j) ∧ aH1 (fs.set k p) j = (if j = k then p.2 else aH1 fs j) := by
 unfold aC8 aH1;rw [List.getD_eq_getElem?_getD, List.getD_eq_getElem?_getD];by_cases e : j = k
 rotate_left
 ·rw [if_neg e, if_neg e, List.getElem?_set_ne (by omega)];exact ⟨rfl, rfl⟩
 subst e;rw [if_pos rfl, if_pos rfl, List.getElem?_set_self (by omega)];exact ⟨rfl, rfl⟩
theorem aZ4 {w w' : World} {g : Nat} (h : w'.heap[g]? = w.heap[g]?) (o : Nat) (v : Value) : (w'.setCell ⟨g, o, none⟩ v).heap[g]? = (w.setCell ⟨g, o, none⟩ v).heap[g]? := by
 simp [World.setCell, Array.getElem?_modify, h]
theorem aE5.set {base : Nat} {w : World} {g n cap : Nat} {fs : Fs} (h : aE5 base w g n cap fs) (k : Nat) (hk : k < n) (a b : Tx) (W : World) (hW : W.heap[g]? = ((w.setCell ⟨g, k * 2, none⟩ (.string a)).setCell ⟨g, k * 2 + 1, none⟩ (.string b)).heap[g]?) (hsz : w.heap.size ≤ W.heap.size) : aE5 base W g n cap (fs.set k (a, b)) := by
 have hl := h.len; have a1 := h.le;obtain ⟨a0, h1, h2, h3⟩ := h.heap;have a2 := h.lt;refine ⟨by simp [hl], h.base, by omega, h.le, h.mx, (a0.setIfInBounds (k * 2) (.string a)).setIfInBounds (k * 2 + 1) (.string b), ?_, by simpa using h2, ?_⟩
 ·rw [hW]; exact aC2 _ g (k * 2 + 1) _ _ _ _ (aC2 w g (k * 2) _ _ _ _ h1)
 intro i hi;have hs := bL8 fs k i (a, b) (by omega);rw [hs.1, hs.2];by_cases e : i = k
 ·subst e;rw [if_pos rfl, if_pos rfl];refine ⟨?_, ?_⟩
  ·rw [Array.getElem?_setIfInBounds_ne (by omega), Array.getElem?_setIfInBounds_self_of_lt (by omega)]
  rw [Array.getElem?_setIfInBounds_self_of_lt (by simp; omega)]
 rw [if_neg e, if_neg e];have := h3 i hi;refine ⟨?_, ?_⟩
 ·rw [Array.getElem?_setIfInBounds_ne (by omega), Array.getElem?_setIfInBounds_ne (by omega)]; exact this.1
 rw [Array.getElem?_setIfInBounds_ne (by omega), Array.getElem?_setIfInBounds_ne (by omega)]; exact this.2
theorem aF5 {w : World} {B base : Nat} {e : TypeId} {size : Nat} {v : Value} {n : Nat} {xs : List Value} (h : w.ownsRow base e size v n xs) (hB : B ≤ base) : w.ownsRow B e size v n xs := by
 obtain ⟨hl, hv⟩ := h;refine ⟨hl, ?_⟩;rcases hv with h0 | ⟨g, a0, a1, h1, h2, h3⟩
 ·exact .inl h0
 exact .inr ⟨g, a0, a1, h1, Nat.le_trans hB h2, h3⟩
theorem aA4 {w w' : World} {base : Nat} {e : TypeId} {size : Nat} {v : Value} {n : Nat} {xs : List Value} (h : w.ownsRow base e size v n xs) (hs : ∀ j, v.ownBlock = some j → w'.heap[j]? = w.heap[j]?) : w'.ownsRow base e size v n xs := by
 obtain ⟨hl, hv⟩ := h;refine ⟨hl, ?_⟩;rcases hv with h0 | ⟨g, a0, a1, rfl, h2, h3, h4⟩
 ·exact .inl h0
 exact .inr ⟨g, a0, a1, rfl, h2, by rw [hs g rfl]; exact h3, h4⟩
theorem cJ6 (fs : Fs) (k : Nat) : ∀ d, szTo fs k ≤ szTo fs (k + d) := by
 intro d;induction d with
 | zero => exact Nat.le_refl _
 | succ d ih => rw [show k + (d + 1) = (k + d) + 1 by omega, szTo]; omega
theorem bO7 (fs : Fs) (n i : Nat) (hi : i < n) : (aC8 fs i).size ≤ szTo fs n ∧ (aH1 fs i).size ≤ szTo fs n := by
 have h := cJ6 fs (i + 1) (n - (i + 1));rw [show i + 1 + (n - (i + 1)) = n by omega, szTo] at h;omega
theorem aZ5 (b off y : Nat) : (⟨b, off, none⟩ : Addr).add y = ⟨b, off + y, none⟩ := by
 unfold Addr.add; split <;> simp_all
def txt : Value → ByteArray
 | .string s => s
 | _ => ⟨#[]⟩
theorem bC8 (f g : Nat → ByteArray) (n i : Nat) (hi : i < n) : aC8 ((List.range n).map fun j => (f j, g j)) i = f i ∧ aH1 ((List.range n).map fun j => (f j, g j)) i = g i := by
 unfold aC8 aH1;rw [List.getD_eq_getElem?_getD, List.getElem?_map, List.getElem?_range hi];exact ⟨rfl, rfl⟩
theorem bL9 {H : Type} {enc : TypeId × Value → H} {W : World} {fuel : Nat} {a : Oa} {n cap : Nat} {x : DataW H × List MemPlace} (h : DataW.trod enc prog W 0 (fun _ => true) true fuel 30 [.slice a n cap] = some x) :
  ∃ fs, ArgF W W.heap.size a n fs ∧ n ≤ maxLen ∧ ∀ i, i < n → (aC8 fs i).size ≤ maxLen ∧ (aH1 fs i).size ≤ maxLen := by
 rcases Go.Deep.open_slice_pairs underlying30 underlying176 (by kernel_rfl) rfl rfl (by kernel_rfl) (by kernel_rfl) h with ⟨a0, _⟩ | ⟨ad, a8, c, m, q, V0, V1, D0, D1, P0, P1, a0, _, hl, hm, a3, _, hx⟩
 ·simp at a0
  obtain ⟨rfl, rfl, rfl⟩ := a0;exact ⟨[], ⟨rfl, fun i hi => absurd hi (by omega)⟩, Nat.zero_le _, fun i hi => absurd hi (by omega)⟩
 simp at a0
 obtain ⟨rfl, rfl, rfl⟩ := a0;have a9 : m = cap := by simpa using a3
 have a1 : ∀ i, i < n → V0 i = .string (txt (V0 i)) ∧ V1 i = .string (txt (V1 i)) ∧ (txt (V0 i)).size ≤ maxLen ∧ (txt (V1 i)).size ≤ maxLen := fun i hi => by
  obtain ⟨_, _, h3, h4⟩ := hx i (by omega)
  obtain ⟨s, e1, _, e3⟩ := DataW.trod_string underlying9 h3
  obtain ⟨t, f1, _, f3⟩ := DataW.trod_string underlying9 h4
  have a4 : V0 i = .string s := by simpa using e1
  have a5 : V1 i = .string t := by simpa using f1
  rw [a4, a5]
  exact ⟨rfl, rfl, e3, f3⟩
 refine ⟨(List.range n).map fun j => (txt (V0 j), txt (V1 j)), ⟨by simp, fun i hi => ?_⟩, by omega, fun i hi => ?_⟩
 ·obtain ⟨c1, c2, _, _⟩ := hx i (by omega);obtain ⟨c3, _, _, _⟩ := hx 0 (by omega)
  have a2 : ad.spot = none := by
   have := World.cell?_spot c3
   simpa [Addr.add] using this
  obtain ⟨b, a6, sp⟩ := ad;simp only at a2
  subst a2;rw [aZ5] at c1 c2;obtain ⟨v0, v1, _, _⟩ := a1 i hi;obtain ⟨r0, r1⟩ := bC8 (fun j => txt (V0 j)) (fun j => txt (V1 j)) n i hi
  rw [r0, r1];have a7 := World.block_lt_of_cell? W _ c1;rw [v0] at c1;rw [v1] at c2;exact ⟨b, a6, rfl, a7, c1, c2⟩
 obtain ⟨r0, r1⟩ := bC8 (fun j => txt (V0 j)) (fun j => txt (V1 j)) n i hi
 rw [r0, r1];exact (a1 i hi).2.2
structure Rw where
 T : TypeId
 z : Nat
 v : Value
 n : Nat
 c : List Value
def Rw.own (r : Rw) (w : World) (base : Nat) : Prop := w.ownsRow base r.T r.z r.v r.n r.c
def Rw.ne (a b : Rw) : Prop := ∀ g, a.v.ownBlock = some g → b.v.ownBlock ≠ some g
theorem Rw.ne.symm {a b : Rw} (h : a.ne b) : b.ne a := fun g h1 h2 => h g h2 h1
structure aA2 (w : World) (base : Nat) (rs : List Rw) : Prop where
 own : ∀ r ∈ rs, r.own w base
 apart : rs.Pairwise Rw.ne
theorem jrs {W W' : World} {base q : Nat} {rs : List Rw} {cs : List Value} {T : TypeId} (vs : List (Nat × Value)) (h : aA2 W base rs) (hW : W' = jW W q vs) (hb : W.heap[q]? = some (.cells cs.toArray T)) (hT : ∀ r ∈ rs, T ≠ r.T) : aA2 W' base rs :=
  ⟨fun r hr => jos (h.own r hr) (fun g hg => by
    rw [hW]
    refine jwo q g (fun e => ?_) vs W
    obtain ⟨_, _, cur, hh⟩ := jol (h.own r hr) g hg
    rw [e, hb] at hh
    injection hh with h3
    injection h3 with _ h4
    exact hT r hr h4), h.apart⟩
theorem aA2.nil (w : World) (base : Nat) : aA2 w base [] := ⟨by simp, List.Pairwise.nil⟩
theorem aA2.one {w : World} {base : Nat} {r : Rw} (h : r.own w base) : aA2 w base [r] := ⟨fun x hx => by rw [List.mem_singleton.1 hx]; exact h, List.pairwise_singleton _ _⟩
theorem aA2.ge {w : World} {base : Nat} {rs : List Rw} (h : aA2 w base rs) {r : Rw} (hr : r ∈ rs) {g : Nat} (hg : r.v.ownBlock = some g) : base ≤ g := aB7 (h.own r hr) hg
theorem aA2.lt {w : World} {base : Nat} {rs : List Rw} (h : aA2 w base rs) {r : Rw} (hr : r ∈ rs) {g : Nat} (hg : r.v.ownBlock = some g) : g < w.heap.size := aA5 (h.own r hr) hg
theorem aA2.same {w w' : World} {base : Nat} {rs : List Rw} (h : aA2 w base rs) (hs : ∀ r ∈ rs, ∀ g, r.v.ownBlock = some g → w'.heap[g]? = w.heap[g]?) : aA2 w' base rs :=
 ⟨fun r hr => aA4 (h.own r hr) (hs r hr), h.apart⟩
theorem aA2.below {w w' : World} {base : Nat} {rs : List Rw} (h : aA2 w base rs) (hb : Below w.heap.size w w') : aA2 w' base rs := h.same (fun _ hr g hg => hb.block g (h.lt hr hg))
theorem aA2.wide {w : World} {B base : Nat} {rs : List Rw} (h : aA2 w base rs) (hB : B ≤ base) : aA2 w B rs := ⟨fun r hr => aF5 (h.own r hr) hB, h.apart⟩
theorem aA2.sub {w : World} {base : Nat} {rs rs' : List Rw} (h : aA2 w base rs) (hs : List.Sublist rs' rs) : aA2 w base rs' := ⟨fun r hr => h.own r (hs.subset hr), h.apart.sublist hs⟩
theorem aA2.perm {w : World} {base : Nat} {rs rs' : List Rw} (h : aA2 w base rs) (hp : List.Perm rs rs') : aA2 w base rs' :=
 ⟨fun r hr => h.own r (hp.mem_iff.2 hr), (hp.pairwise_iff (fun hab => Rw.ne.symm hab)).1 h.apart⟩
theorem aA2.more {w w' : World} {base B : Nat} {rs rs' : List Rw} (h : aA2 w base rs) (hb : Below w.heap.size w w') (h' : aA2 w' B rs') (hB : w.heap.size ≤ B) (hB2 : base ≤ B) : aA2 w' base (rs ++ rs') := by
 have h2 := h.below hb;refine ⟨fun r hr => ?_, List.pairwise_append.2 ⟨h2.apart, h'.apart, fun a ha b hb g a0 a1 => ?_⟩⟩
 ·rcases List.mem_append.1 hr with hr | hr
  ·exact h2.own r hr
  exact aF5 (h'.own r hr) hB2
 have e1 := h.lt ha a0;have e2 := h'.ge hb a1;omega
theorem aA2.turn {w w' : World} {base : Nat} {pre post : List Rw} {r r' : Rw} (h : aA2 w base (pre ++ r :: post)) (hv : r'.v = r.v) (h' : r'.own w' base) (hs : ∀ g, g < w.heap.size → r.v.ownBlock ≠ some g → w'.heap[g]? = w.heap[g]?) : aA2 w' base (pre ++ r' :: post) := by
 have hp := h.apart;rw [List.pairwise_append, List.pairwise_cons] at hp;obtain ⟨p1, ⟨p2, p3⟩, p4⟩ := hp;have a0 : ∀ x, x ∈ pre ++ r :: post → x.ne r → x.own w' base := fun x hx a1 => aA4 (h.own x hx) (fun g hg => hs g (h.lt hx hg) (a1 g hg))
 refine ⟨fun x hx => ?_, ?_⟩
 ·rcases List.mem_append.1 hx with hx | hx
  ·exact a0 x (List.mem_append.2 (.inl hx)) (p4 x hx r (by simp))
  rcases List.mem_cons.1 hx with hx | hx
  ·rw [hx]; exact h'
  exact a0 x (by simp [hx]) (p2 x hx).symm
 rw [List.pairwise_append, List.pairwise_cons];refine ⟨p1, ⟨fun b hb => ?_, p3⟩, fun a ha b hb => ?_⟩
 ·unfold Rw.ne;rw [hv];exact p2 b hb
 rcases List.mem_cons.1 hb with hb | hb
 ·rw [hb];unfold Rw.ne;rw [hv];exact p4 a ha r (by simp)
 exact p4 a ha b (by simp [hb])
theorem aA2.grow {w w' : World} {base : Nat} {pre post : List Rw} {r r' : Rw} (h : aA2 w base (pre ++ r :: post)) (hg : w.grownBy w' r.v.ownBlock) (h' : r'.own w' base) (hv : ∀ g, r'.v.ownBlock = some g → r.v.ownBlock = some g ∨ w.heap.size ≤ g) : aA2 w' base (pre ++ r' :: post) := by
 have hp := h.apart;rw [List.pairwise_append, List.pairwise_cons] at hp;obtain ⟨p1, ⟨p2, p3⟩, p4⟩ := hp;have a0 : ∀ x, x ∈ pre ++ r :: post → x.ne r → x.own w' base := fun x hx a1 => aA4 (h.own x hx) (fun g a2 => hg.block g (h.lt hx a2) (fun e => a1 g a2 e.symm))
 have a3 : ∀ x, x ∈ pre ++ r :: post → x.ne r → x.ne r' := fun x hx a1 g h1 h2 => by
  rcases hv g h2 with h3 | h3
  ·exact a1 g h1 h3
  ·have := h.lt hx h1
   omega
 refine ⟨fun x hx => ?_, ?_⟩
 ·rcases List.mem_append.1 hx with hx | hx
  ·exact a0 x (List.mem_append.2 (.inl hx)) (p4 x hx r (by simp))
  rcases List.mem_cons.1 hx with hx | hx
  ·rw [hx]; exact h'
  exact a0 x (by simp [hx]) (p2 x hx).symm
 rw [List.pairwise_append, List.pairwise_cons];refine ⟨p1, ⟨fun b hb => (a3 b (by simp [hb]) (p2 b hb).symm).symm, p3⟩, fun a ha b hb => ?_⟩
 rcases List.mem_cons.1 hb with hb | hb
 ·rw [hb];exact a3 a (List.mem_append.2 (.inl ha)) (p4 a ha r (by simp))
 exact p4 a ha b (by simp [hb])
theorem aP5 {α : Type} (enc : α → List Value) (z : Nat) (hz : ∀ x, (enc x).length = z) : ∀ l : List α, (l.flatMap enc).length = l.length * z
 | [] => by simp
 | x :: l => by rw [List.flatMap_cons, List.length_append, hz, aP5 enc z hz l, List.length_cons, Nat.succ_mul]; omega
theorem cJ7 {α : Type} (enc : α → List Value) (l : List α) (i : Nat) (hi : i < l.length) : l.flatMap enc = (l.take i).flatMap enc ++ (enc (l[i]'hi) ++ (l.drop (i + 1)).flatMap enc) := by
 have e : l = l.take i ++ (l[i]'hi) :: l.drop (i + 1) := by rw [List.getElem_cons_drop, List.take_append_drop]
 conv => lhs; rw [e]
 rw [List.flatMap_append, List.flatMap_cons]
theorem bE7 {α : Type} (enc : α → List Value) (z : Nat) (hz : ∀ x, (enc x).length = z) (l : List α) (i j : Nat) (hi : i < l.length) (hj : j < z) : (l.flatMap enc)[i * z + j]? = (enc (l[i]'hi))[j]? := by
 rw [cJ7 enc l i hi];have e : ((l.take i).flatMap enc).length = i * z := by rw [aP5 enc z hz, List.length_take, Nat.min_eq_left (Nat.le_of_lt hi)]
 rw [List.getElem?_append_right (by omega), e, Nat.add_sub_cancel_left, List.getElem?_append_left (by rw [hz]; exact hj)]
def setW (w : World) (g : Nat) : Nat → List Value → World
 | _, [] => w
 | o, v :: r => setW (w.setCell ⟨g, o, none⟩ v) g (o + 1) r
def setA (cur : Array Value) : Nat → List Value → Array Value
 | _, [] => cur
 | o, v :: r => setA (cur.setIfInBounds o v) (o + 1) r
theorem bS8 : ∀ (l : List Value) (cur : Array Value) (o : Nat), (setA cur o l).size = cur.size
 | [], _, _ => rfl
 | v :: r, cur, o => by rw [setA, bS8 r]; simp
theorem bO8 : ∀ (l : List Value) (cur : Array Value) (o m : Nat), (m < o ∨ o + l.length ≤ m) → (setA cur o l)[m]? = cur[m]?
 | [], _, _, _, _ => rfl
 | v :: r, cur, o, m, h => by
  rw [List.length_cons] at h
  rw [setA, bO8 r _ (o + 1) m (by omega), Array.getElem?_setIfInBounds_ne (by omega)]
theorem cJ8 : ∀ (l : List Value) (cur : Array Value) (o j : Nat), j < l.length → o + l.length ≤ cur.size → (setA cur o l)[o + j]? = l[j]?
 | [], _, _, j, h, _ => absurd h (by simp)
 | v :: r, cur, o, 0, _, hs => by
  rw [List.length_cons] at hs
  rw [setA, bO8 r _ (o + 1) (o + 0) (by omega), Nat.add_zero, Array.getElem?_setIfInBounds_self_of_lt (by omega)]
  rfl
 | v :: r, cur, o, j + 1, h, hs => by
  rw [List.length_cons] at h hs
  rw [setA, show o + (j + 1) = (o + 1) + j by omega, cJ8 r _ (o + 1) j (by omega) (by simp; omega)]
  rfl
theorem bS9 (g : Nat) (T : TypeId) : ∀ (l : List Value) (w : World) (o : Nat) (cur : Array Value), w.heap[g]? = some (.cells cur T (0, 0)) → (setW w g o l).heap[g]? = some (.cells (setA cur o l) T (0, 0))
 | [], _, _, _, h => h
 | v :: r, w, o, cur, h => bS9 g T r _ (o + 1) _ (aC2 w g o cur T (0, 0) v h)
theorem aW7 (g g' : Nat) (hne : g' ≠ g) : ∀ (l : List Value) (w : World) (o : Nat), (setW w g o l).heap[g']? = w.heap[g']?
 | [], _, _ => rfl
 | v :: r, w, o => by rw [setW, aW7 g g' hne r, heap_setCell_other _ _ _ _ hne]
theorem bB1 {base g : Nat} (hg : base ≤ g) : ∀ (l : List Value) (w w' : World) (o : Nat), Below base w w' → Below base w (setW w' g o l)
 | [], _, _, _, h => h
 | v :: r, w, _, o, h => bB1 hg r w _ (o + 1) (h.setCell (p := ⟨g, o, none⟩) hg v)
def aK9 {α : Type} (enc : α → List Value) (z : Nat) (T : TypeId) (w : World) (g n : Nat) (l : List α) : Prop :=
 ∃ cur, w.heap[g]? = some (.cells cur T (0, 0)) ∧ cur.size = n * z ∧ ∀ i (hi : i < l.length) (j : Nat), j < z → cur[i * z + j]? = (enc (l[i]'hi))[j]?
theorem aK9.lt {α : Type} {enc : α → List Value} {z : Nat} {T : TypeId} {w : World} {g n : Nat} {l : List α} (h : aK9 enc z T w g n l) : g < w.heap.size := by
 obtain ⟨a0, h1, _⟩ := h;exact (blt h1)
theorem aK9.below {α : Type} {enc : α → List Value} {z : Nat} {T : TypeId} {w w' : World} {g n : Nat} {l : List α} (h : aK9 enc z T w g n l) (hb : Below w.heap.size w w') : aK9 enc z T w' g n l := by
 have hl := h.lt;obtain ⟨a0, h1, h2⟩ := h;exact ⟨a0, (hb.block g hl).trans h1, h2⟩
theorem aK9.cell {α : Type} {enc : α → List Value} {z : Nat} {T : TypeId} {w : World} {g n : Nat} {l : List α} (h : aK9 enc z T w g n l) (j : Nat) (hj : j < n * z) : ∃ u, w.cell? ⟨g, j, none⟩ = some u := by
 obtain ⟨a0, h1, h2, _⟩ := h;refine ⟨a0[j]'(by omega), ?_⟩;simp only [World.cell?, h1]
 simp [show j < a0.size by omega]
theorem aK9.frozen {α : Type} {enc : α → List Value} {z : Nat} {T : TypeId} {w : World} {g n : Nat} {l : List α} (h : aK9 enc z T w g n l) (j : Nat) : w.frozen? ⟨g, j, none⟩ = false := by
 obtain ⟨a0, h1, _⟩ := h;simp [World.frozen?, h1]
theorem aK9.put {α : Type} {enc : α → List Value} {z : Nat} {T : TypeId} {w : World} {g n : Nat} {l : List α} (hz : ∀ x, (enc x).length = z) (h : aK9 enc z T w g n l) (x : α) (hk : l.length < n) : aK9 enc z T (setW w g (l.length * z) (enc x)) g n (l ++ [x]) := by
 obtain ⟨a1, h1, h2, h3⟩ := h;have hm : (l.length + 1) * z ≤ n * z := Nat.mul_le_mul_right z hk;rw [Nat.add_mul, Nat.one_mul] at hm;refine ⟨_, bS9 g T _ w _ a1 h1, by rw [bS8]; exact h2, fun i hi j hj => ?_⟩
 rw [List.length_append, List.length_singleton] at hi;by_cases e : i = l.length
 ·subst e;rw [cJ8 _ _ _ _ (by rw [hz]; exact hj) (by rw [hz, h2]; exact hm)];simp
 have a0 : i < l.length := by omega
 have a2 : (i + 1) * z ≤ l.length * z := Nat.mul_le_mul_right z a0;rw [Nat.add_mul, Nat.one_mul] at a2;rw [bO8 _ _ _ _ (.inl (by omega)), h3 i a0 j hj, List.getElem_append_left a0]
theorem aK9.owns {α : Type} {enc : α → List Value} {z : Nat} {T : TypeId} {w : World} {g n : Nat} {l : List α} (hz : ∀ x, (enc x).length = z) (hz0 : 0 < z) (h : aK9 enc z T w g n l) (hl : l.length = n) (hm : n ≤ maxLen) {base : Nat} (hb : base ≤ g) : w.ownsRow base T z (.slice (some ⟨g, 0, none⟩) n n) n (l.flatMap enc) := by
 obtain ⟨a1, hg, hs, hc⟩ := h;have a2 : (l.flatMap enc).length = n * z := by rw [aP5 enc z hz, hl]
 refine ⟨a2, .inr ⟨g, n, a1, rfl, hb, hg, Nat.le_refl _, hm, hs, ?_⟩⟩;apply List.ext_getElem?
 intro j;rw [List.getElem?_take];by_cases hj : j < n * z
 rotate_left
 ·rw [if_neg hj, List.getElem?_eq_none (by omega)]
 rw [if_pos hj];have hd : j / z < l.length := by rw [hl]; exact Nat.div_lt_of_lt_mul (by rw [Nat.mul_comm]; exact hj)
 have a0 : j % z < z := Nat.mod_lt _ hz0;have e : j / z * z + j % z = j := by rw [Nat.mul_comm]; exact Nat.div_add_mod j z
 have h1 := bE7 enc z hz l (j / z) (j % z) hd a0;have h2 := hc (j / z) hd (j % z) a0;rw [e] at h1 h2;rw [h1, ← h2];simp
end Go.Proofs.YtejoifianjgefaaGreatDoor
namespace Go.Proofs.YtejoifianjgefaaGreatDoor
open Go.Proofs.Tryz
open Go.RowKit
def aT4 (n : Int) : Prop := 33 ≤ n ∧ n ≤ 126
def aH9 (s : Tx) : Prop := AllB aT4 s ∧ 1 ≤ s.size ∧ s.size ≤ 60 ∧ ∃ h : 0 < s.size, (s[0]'h).toNat = 47
def aM3 (st : Int) (fs : Fs) (body : Tx) : Prop := (100 ≤ st ∧ st ≤ 599) ∧ aK5 fs ∧ body.size ≤ 120
def bG1 : ByteArray := ⟨#[72, 84, 84, 80, 47, 49, 46, 49, 32]⟩
def cJ9 : ByteArray := ⟨#[32, 46, 13, 10]⟩
def cS1 : ByteArray := ⟨#[99, 111, 110, 116, 101, 110, 116, 45, 108, 101, 110, 103, 116, 104, 58, 32]⟩
def lnE2 : ByteArray := ⟨#[13, 10, 13, 10]⟩
def aT5 (st : Int) (fs : Fs) (body : Tx) : ByteArray :=
 bG1 ++ aF1 st.toNat ++ cJ9 ++ aC5 fs ++ cS1 ++ aF1 body.size ++ lnE2 ++ body
def bs (s : Tx) : List UInt8 := s.data.toList
theorem bG2 (a b : Tx) : bs (a ++ b) = bs a ++ bs b := by simp [bs]
theorem bT0 {a b : ByteArray} (h : bs a = bs b) : a = b := by
 apply ByteArray.ext
 exact Array.toList_inj.1 h
theorem aV1 (a : Tx) : (bs a).length = a.size := by simp [bs]
end Go.Proofs.YtejoifianjgefaaGreatDoor
namespace Go.Proofs.YtejoifianjgefaaGreatDoor
open Go.Proofs.Tryz
open Go.RowKit
open Go.Lib hiding intOf
theorem bB2 (s : Tx) (w : World) (hs : s.size ≤ maxLen) :
    Calls prog 93 #[.string s] w fun e w' => aA3 (aH9 s) w e w' := by
  unfold maxLen at hs;go_enter func93, ntmps93;go_wp2
  go_loop [3] (fun i => ∃ k : Nat, k ≤ s.size ∧ i = .int .i64 k ∧ Hid (bK0 aT4 s k)) (fun i => s.size - (intOf i).toNat)
  case atStart => exact ⟨0, Nat.zero_le _, rfl, aO5 _ _⟩
  case round =>
    obtain ⟨k, hk, rfl, a0⟩ := hrel;by_cases hlt : k < s.size
    ·go_wp2
     all_goals first
       | (go_ret
          have a2 : ¬ aT4 ((s[k]'hlt).toNat : Int) := by
            unfold aT4
            omega
          exact aA3.no (fun h => a2 (h.1 k hlt)) (Below.refl _ _))
       | (go_round
          case rel =>
            have hy : aT4 ((s[k]'hlt).toNat : Int) := by
              unfold aT4
              omega
            exact ⟨k + 1, by omega, by go_num, aO6 a0.out hlt hy⟩
          case measure => simp [intOf]; omega)
    have a1 : Hid (AllB aT4 s) := aS0 a0.out hlt;by_cases h1 : (1 : Int) ≤ (s.size : Int)
    rotate_left
    ·go_wp2
     go_ret;exact aA3.no (fun h => by obtain ⟨_, h5, _⟩ := h; omega) (Below.refl _ _)
    have h0 : 0 < s.size := by omega
    by_cases h2 : (s.size : Int) ≤ 60
    rotate_left
    ·go_wp2
     go_ret;exact aA3.no (fun h => by obtain ⟨_, _, h5, _⟩ := h; omega) (Below.refl _ _)
    by_cases h3 : ((s[0]'h0).toNat : Int) = 47
    ·go_wp2
     go_ret;exact aA3.yes ⟨a1.out, by omega, by omega, h0, by omega⟩ (Below.refl _ _)
    have h4 : (((s[0]'h0).toNat : Int) == 47) = false := by rw [beq_eq_false_iff_ne]; exact h3
    go_wp2
    go_ret;exact aA3.no (fun h => by obtain ⟨_, _, _, _, h5⟩ := h; omega) (Below.refl _ _)
def aK2 (n : Nat) (fs : Fs) : Prop := ∀ i, i < n → (aC8 fs i).size ≤ maxLen ∧ (aH1 fs i).size ≤ maxLen
theorem aT6 {w W : World} {o : Obj} (h : Below (w.alloc o).heap.size (w.alloc o) W) : W.heap[w.heap.size]? = some o := by
 rw [h.block _ (by simp)]; exact heap_alloc_new w _
theorem aF8 {w W : World} {o : Obj} (h : Below (w.alloc o).heap.size (w.alloc o) W) : Below w.heap.size w W :=
 ((Below.refl _ w).alloc (Nat.le_refl _) o).trans (h.mono (by simp))
theorem aI3 (x lo hi : Int) (w : World) :
  Calls prog 87 #[.int .i64 x, .int .i64 lo, .int .i64 hi] w fun e w' => e = .returned (.bool (decide (lo ≤ x ∧ x ≤ hi))) ∧ w' = w := by
 by_cases h1 : lo ≤ x
 rotate_left
 ·go_enter func87, ntmps87;go_wp2
  go_ret;exact ⟨by simp; omega, rfl⟩
 by_cases h2 : x ≤ hi
 rotate_left
 ·go_enter func87, ntmps87;go_wp2
  go_ret;exact ⟨by simp [h2], rfl⟩
 go_enter func87, ntmps87;go_wp2
 go_ret;exact ⟨by simp [h1, h2], rfl⟩
theorem aX5 (st : Int) (v : Value) (b : Tx) (n base : Nat) (fs : Fs) (w : World) (hv : aB2 w base v n fs) (hn : n ≤ 1073741824) (hsz : aK2 n fs) (hb : b.size ≤ maxLen) :
  Calls prog 92 #[.agg #[.int .i64 st, v, .string b]] w fun e w' => aA3 (aM3 st fs b) w e w' := by
 obtain ⟨oa, a1, rfl, _⟩ := hv.slice;obtain ⟨r, hr⟩ := exq (w.heap.size)
 have HR : Hid (∀ W, Below (w.alloc (.cells #[.int .i64 st, .slice oa n a1, .string b] 49)).heap.size (w.alloc (.cells #[.int .i64 st, .slice oa n a1, .string b] 49)) W → (W.cell? ⟨r, 1, none⟩ = some (.slice oa n a1) ∧ W.cell? ⟨r, 2, none⟩ = some (.string b)) ∧ aB2 W base (.slice oa n a1) n fs ∧ Bw w W) := fun W h => by
  have hh := aT6 h
  rw [← hr] at hh
  exact ⟨⟨by simp [World.cell?, hh], by simp [World.cell?, hh]⟩, hv.below (aF8 h), aF8 h⟩
 have a8 := hid hsz;unfold maxLen at hb;clear hv hsz;go_enter func92, ntmps92;go_wp2_with fail
 refine (aI3 st 100 599 _).mono ?_;rintro e w1 ⟨rfl, a5⟩;have a3 : Below (w.alloc (.cells #[.int .i64 st, .slice oa n a1, .string b] 49)).heap.size (w.alloc (.cells #[.int .i64 st, .slice oa n a1, .string b] 49)) w1 := by rw [a5]; exact Below.refl _ _
 clear a5;rw [← hr];obtain ⟨⟨c2, c3⟩, a6, a2⟩ := HR.out w1 a3;have a9 := hid a6;clear a6;by_cases hm : 100 ≤ st ∧ st ≤ 599
 rotate_left
 ·have e1 : decide (100 ≤ st ∧ st ≤ 599) = false := by simpa using hm
  have HF : Hid (¬ aM3 st fs b) := fun h => hm h.1
  rw [e1];clear hr hm e1;go_wp2_with fail
  go_ret;exact aA3.no HF.out a2
 have e1 : decide (100 ≤ st ∧ st ≤ 599) = true := by simpa using hm
 have HM := hid hm;rw [e1];clear hr hm e1;go_wp2_with fail
 refine (bD8 _ n base fs _ a9.out hn a8.out).mono ?_;rintro e w3 ⟨b2, rfl, a4, a7⟩;have b0 := a3.trans (a7.mono a3.size);clear c2 c3 a7 a3 a2;obtain ⟨⟨c2, c3⟩, _, a0⟩ := HR.out w3 b0;cases b2
 ·have HF : Hid (¬ aM3 st fs b) := fun h => by have := a4.2 h.2.1; cases this
  clear a4;go_wp2_with fail
  go_ret;exact aA3.no HF.out a0
 have b1 : Hid (aK5 fs) := a4.1 rfl;clear a4;by_cases h120 : (b.size : Int) ≤ 120
 ·have HY : Hid (aM3 st fs b) := ⟨HM.out, b1.out, by omega⟩;go_wp2_with fail
  go_ret;exact aA3.yes HY.out a0
 have HF : Hid (¬ aM3 st fs b) := fun h => by have := h.2.2; omega
 have hd : decide ((b.size : Int) ≤ 120) = false := by simpa using h120
 go_wp2_with fail
 go_ret;exact aA3.no HF.out a0
theorem bE8 {fs : Fs} (h : aK5 fs) : (aC5 fs).size ≤ 672 := by
 have h1 : ∀ k, k ≤ fs.length → (ftTo fs k).size ≤ 84 * k := by
  intro k
  induction k with
  | zero => intro _; exact Nat.le_refl _
  | succ k ih =>
   intro hk
   have h2 := h.2 k (by omega)
   have h3 := h2.1.2.1
   have h4 := h2.2.1.2.1
   have := ih (by omega)
   rw [aZ1]; omega
 have := h1 fs.length (Nat.le_refl _);have := h.1;unfold aC5; omega
theorem cK0 : ∀ (f n : Nat), (dgF f n).length ≤ f
 | 0, n => by simp [dgF]
 | f + 1, n => by
  by_cases h : n = 0
  · rw [h, bE6]; simp
  ·rw [bN6 f n h]
   have := cK0 f (n / 10)
   simp; omega
theorem aE1 (n : Nat) : (aF1 n).size ≤ 8 := by
 have : (aF1 n).size = (numL n).length := by simp [aF1, ByteArray.size]
 rw [this];unfold numL;split
 ·simp
 split
 ·simp
 exact cK0 8 n
theorem aW8 {b : ByteArray} (h : b.size = 0) : b = ⟨#[]⟩ := by
 apply ByteArray.ext
 exact Array.eq_empty_of_size_eq_zero h
def bT1 (p : Prop) (t : Tx) (w : World) (e : Ending) (w' : World) : Prop := ∃ u : ByteArray, e = .returned (.string u) ∧ (p → u = t) ∧ (¬ p → u = ⟨#[]⟩) ∧ Below w.heap.size w w'
theorem bD9 (st : Int) (v : Value) (b : Tx) (n base : Nat) (fs : Fs) (w : World) (hv : aB2 w base v n fs) (hn : n ≤ 1073741824) (hsz : aK2 n fs) (hb : b.size ≤ maxLen) :
  Calls prog 91 #[.agg #[.int .i64 st, v, .string b]] w fun e w' => bT1 (aM3 st fs b) (aT5 st fs b) w e w' := by
 obtain ⟨oa, a0, rfl, _⟩ := hv.slice;obtain ⟨r, hr⟩ := exq (w.heap.size)
 have HR : Hid (∀ W, Below (w.alloc (.cells #[.int .i64 st, .slice oa n a0, .string b] 49)).heap.size (w.alloc (.cells #[.int .i64 st, .slice oa n a0, .string b] 49)) W → (W.cell? ⟨r, 0, none⟩ = some (.int .i64 st) ∧ W.cell? ⟨r, 1, none⟩ = some (.slice oa n a0) ∧ W.cell? ⟨r, 2, none⟩ = some (.string b)) ∧ aB2 W base (.slice oa n a0) n fs ∧ Bw w W) := fun W h => by
  have hh := aT6 h
  rw [← hr] at hh
  exact ⟨⟨by simp [World.cell?, hh], by simp [World.cell?, hh], by simp [World.cell?, hh]⟩, hv.below (aF8 h), aF8 h⟩
 obtain ⟨_, b0, _⟩ := HR.out _ (Below.refl _ _);go_enter func91, ntmps91;go_wp2_with fail
 refine (aX5 st _ b n base fs _ b0 hn hsz hb).mono ?_;rintro e w1 ⟨b1, rfl, a2, a3⟩;rw [← hr];obtain ⟨⟨c0, c1, c2⟩, b2, a1⟩ := HR.out w1 a3;clear hv b0 hsz hb;cases b1
 ·have HF : Hid (¬ aM3 st fs b) := fun h => by have := a2.2 h; cases this
  clear a2 b2 a3 hr;go_wp2_with fail
  go_ret;exact ⟨_, rfl, fun h => absurd h HF.out, fun _ => rfl, a1⟩
 have HY : Hid (aM3 st fs b) := a2.1 rfl;obtain ⟨k, rfl⟩ : ∃ k : Nat, st = (k : Int) := ⟨st.toNat, by have := HY.out.1; omega⟩;have c9 : k ≤ 599 := by have := HY.out.1; omega
 have d0 : b.size ≤ 120 := HY.out.2.2;obtain ⟨nk, a5⟩ := exq (aF1 k);have a6 := aE1 k;rw [← a5] at a6;obtain ⟨nt, a7⟩ := exq (aF1 b.size);have a8 := aE1 b.size;rw [← a7] at a8;obtain ⟨ft, a4⟩ := exq (aC5 fs);have b7 := bE8 HY.out.2.1;rw [← a4] at b7;have HT : Hid ((aC5 fs).size ≤ 1099511627776) := by show _ ≤ _; rw [← a4]; omega
 have b3 : Hid (aC5 fs = ft) := a4.symm;have b4 : Hid (aF1 k = nk) := a5.symm;have b5 : Hid (aF1 b.size = nt) := a7.symm
 have HE : Hid (⟨#[72, 84, 84, 80, 47, 49, 46, 49, 32]⟩ ++ nk ++ ⟨#[32, 46, 13, 10]⟩ ++ ft ++ ⟨#[99, 111, 110, 116, 101, 110, 116, 45, 108, 101, 110, 103, 116, 104, 58, 32]⟩ ++ nt ++ ⟨#[13, 10, 13, 10]⟩ ++ b = aT5 (k : Int) fs b) := by
  show _ = _
  unfold aT5
  rw [b3.out, b5.out, show ((k : Int)).toNat = k by omega, b4.out]; rfl
 clear a2 hr b2 a5 a7 a4;have e1 : (⟨#[72, 84, 84, 80, 47, 49, 46, 49, 32]⟩ : Tx).size = 9 := rfl;have e2 : (⟨#[32, 46, 13, 10]⟩ : Tx).size = 4 := rfl;have e3 : (⟨#[99, 111, 110, 116, 101, 110, 116, 45, 108, 101, 110, 103, 116, 104, 58, 32]⟩ : Tx).size = 16 := rfl;have e4 : (⟨#[13, 10, 13, 10]⟩ : Tx).size = 4 := rfl;have q1 : ¬ 9223372036854775807 < 9 + nk.size := by omega
 have q2 : ¬ 9223372036854775807 < 9 + nk.size + 4 := by omega
 have q3 : ¬ 9223372036854775807 < 9 + nk.size + 4 + ft.size := by omega
 have q4 : ¬ 9223372036854775807 < 9 + nk.size + 4 + ft.size + 16 := by omega
 have q5 : ¬ 9223372036854775807 < 9 + nk.size + 4 + ft.size + 16 + nt.size := by omega
 have q6 : ¬ 9223372036854775807 < 9 + nk.size + 4 + ft.size + 16 + nt.size + 4 := by omega
 have q7 : ¬ 9223372036854775807 < 9 + nk.size + 4 + ft.size + 16 + nt.size + 4 + b.size := by omega
 have HA : Hid (∀ w2 w3, Hid (Below (w.alloc (.cells #[.int .i64 (k : Int), .slice oa n a0, .string b] 49)).heap.size (w.alloc (.cells #[.int .i64 (k : Int), .slice oa n a0, .string b] 49)) w2) → Below w2.heap.size w2 w3 → (w3.cell? ⟨r, 0, none⟩ = some (.int .i64 (k : Int)) ∧ w3.cell? ⟨r, 1, none⟩ = some (.slice oa n a0) ∧ w3.cell? ⟨r, 2, none⟩ = some (.string b)) ∧ aB2 w3 base (.slice oa n a0) n fs ∧ Hid (Below (w.alloc (.cells #[.int .i64 (k : Int), .slice oa n a0, .string b] 49)).heap.size (w.alloc (.cells #[.int .i64 (k : Int), .slice oa n a0, .string b] 49)) w3) ∧ Bw w w3) := fun w2 w3 h2 h => by
  have b6 := h2.out.trans (h.mono h2.out.size)
  obtain ⟨h5, h6, h7⟩ := HR.out w3 b6
  exact ⟨h5, h6, b6, h7⟩
 have b8 : Hid (Below (w.alloc (.cells #[.int .i64 (k : Int), .slice oa n a0, .string b] 49)).heap.size (w.alloc (.cells #[.int .i64 (k : Int), .slice oa n a0, .string b] 49)) w1.drew) := a3.drew;clear a3 a1;go_wp2_with fail
 go_region_held3 (fun W => W.cell? ⟨r, 0, none⟩ = some (.int .i64 (k : Int)) ∧ W.cell? ⟨r, 1, none⟩ = some (.slice oa n a0) ∧ W.cell? ⟨r, 2, none⟩ = some (.string b)) (first | assumption | go_keep) (first | (go_at_call 153; refine (aZ2 _ n base fs _ (by assumption) hn HT.out).mono ?_; rintro e w3 ⟨rfl, b9⟩; rw [b3.out]; obtain ⟨d1, d2, c3, c4⟩ := HA.out w2 w3 c5 b9) | (go_at_call_of 90 (Value.int .i64 (k : Int)); refine (aP3 k _ (by omega)).mono ?_; rintro e w2 ⟨rfl, c6⟩; rw [b4.out]; obtain ⟨d3, d4, c5, c7⟩ := HA.out _ w2 b8 c6) | (go_at_call_of 90 (Value.int .i64 (b.size : Int)); refine (aP3 b.size _ (by omega)).mono ?_; rintro e w4 ⟨rfl, c8⟩; rw [b5.out]; obtain ⟨d5, d6, d7, a9⟩ := HA.out w3 w4 c3 c8))
 go_wp2_with fail
 go_ret;exact ⟨_, rfl, fun _ => HE.out, fun h => absurd HY.out h, a9⟩
end Go.Proofs.YtejoifianjgefaaGreatDoor
namespace Go.Proofs.YtejoifianjgefaaGreatDoor
open Go.Proofs.Tryz
open Go.RowKit
theorem bB3 (s : Tx) (f j : Nat) : bs (s.extract f j) = ((bs s).take j).drop f := by
 simp [bs, List.drop_take]
end Go.Proofs.YtejoifianjgefaaGreatDoor
namespace Go.Proofs.YtejoifianjgefaaGreatDoor
open Go.Proofs.Tryz
open Go.RowKit
open Go.Lib hiding intOf
theorem cO5 (a b : Tx) : ∀ u ∈ [Value.string a, Value.string b], u.oneCell' = true := by
 intro u hu;simp at hu
 rcases hu with rfl | rfl <;> rfl
def RowF (fs : Fs) (w : World) (e : Ending) (w' : World) : Prop :=
 ∃ v, e = .returned v ∧ w'.ownsRow w.heap.size 184 2 v fs.length (aE4 fs) ∧ Below w.heap.size w w'
theorem aE5.cells {base : Nat} {w : World} {g n cap : Nat} {fs : Fs} (h : aE5 base w g n cap fs) : ∀ j u, (aE4 fs)[j]? = some u → w.cell? ((⟨g, 0, none⟩ : Addr).add j) = some u := by
 intro j u hj;have hl := h.len
 have a0 : j < fs.length * 2 := by
  rw [← aS1]
  exact (List.getElem?_eq_some_iff.1 hj).1
 have e0 : (⟨g, 0, none⟩ : Addr).add j = ⟨g, j, none⟩ := by
  unfold Addr.add; split <;> simp_all
 rw [e0];have hf := aZ0 fs (j / 2) (by omega);rcases Nat.mod_two_eq_zero_or_one j with e | e
 ·have e2 : j / 2 * 2 = j := by omega
  have hc := h.name (j / 2) (by omega);rw [e2] at hf hc;rw [hf.1] at hj;cases hj
  exact hc
 have e2 : j / 2 * 2 + 1 = j := by omega
 have hc := h.val (j / 2) (by omega);rw [e2] at hf hc;rw [hf.2] at hj;cases hj
 exact hc
theorem cO6 (fs : Fs) : ∀ u ∈ aE4 fs, u.oneCell' = true := by
 intro u hu;simp only [aE4, List.mem_flatMap] at hu
 obtain ⟨f, _, hf⟩ := hu;exact cO5 f.1 f.2 u hf
theorem aB2.src {w : World} {base n : Nat} {v : Value} {fs : Fs} (h : aB2 w base v n fs) :
  (v = .slice none 0 0 ∧ n = 0 ∧ fs = []) ∨ ∃ ad cap, v = .slice (some ad) n cap ∧ ∀ j u, (aE4 fs)[j]? = some u → w.cell? (ad.add j) = some u := by
 rcases h with ⟨oa, cap, rfl, h0, rfl, rfl⟩ | ⟨g, cap, rfl, _, a0⟩
 ·cases oa with
  | none => exact .inl ⟨by rw [h0 rfl], rfl, rfl⟩
  | some ad => exact .inr ⟨ad, cap, rfl, fun j u hj => by simp [aE4] at hj⟩
 exact .inr ⟨_, cap, rfl, a0.cells⟩
theorem aA0 {w : World} {base : Nat} {t : TypeId} {size : Nat} {v : Value} {n : Nat} {xs : List Value} (h : w.ownsRow base t size v n xs) : ∃ oa cp, v = .slice oa n cp := by
 rcases h.2 with ⟨rfl, rfl⟩ | ⟨g, a0, a1, rfl, _⟩
 ·exact ⟨none, 0, rfl⟩
 exact ⟨_, a0, rfl⟩
theorem aF9 {w w' : World} (hb : Below w.heap.size w w') (row : Option Nat) : w.grownBy w' row := ⟨hb.os, hb.tape, hb.output, hb.size, fun k hk _ => hb.block k hk⟩
theorem aI1 {a w w' : World} {row : Option Nat} (h : a.grownBy w row) (k : w.grownBy w' row) : a.grownBy w' row :=
 ⟨k.os.trans h.os, k.tape.trans h.tape, k.output.trans h.output, Nat.le_trans h.size k.size, fun i hi hne => (k.block i (Nat.lt_of_lt_of_le hi h.size) hne).trans (h.block i hi hne)⟩
theorem cK1 {w : World} {base : Nat} {t : TypeId} {size g n cap : Nat} {xs : List Value} (h : w.ownsRow base t size (.slice (some ⟨g, 0, none⟩) n cap) n xs) (o : Nat) (u : Value) : (w.setCell ⟨g, o, none⟩ u).ownsRow base t size (.slice (some ⟨g, 0, none⟩) n cap) n (xs.set o u) := by
 obtain ⟨hl, hv⟩ := h;refine ⟨by simpa using hl, ?_⟩;rcases hv with ⟨e, _⟩ | ⟨g', a0, a1, e, h1, h2, h3, h4, h5, h6⟩
 ·cases e
 cases e
 refine .inr ⟨g, cap, _, rfl, h1, aC2 w g o a1 t (0, 0) u h2, h3, h4, by simpa using h5, ?_⟩;rw [Array.toList_setIfInBounds, List.take_set, h6]
theorem bB4 {w : World} {base : Nat} {t : TypeId} {size g n cap : Nat} {xs : List Value} (h : w.ownsRow base t size (.slice (some ⟨g, 0, none⟩) n cap) n xs) (o : Nat) (u : Value) (ho : xs[o]? = some u) : w.cell? ⟨g, o, none⟩ = some u ∧ w.frozen? ⟨g, o, none⟩ = false := by
 obtain ⟨hl, hv⟩ := h;rcases hv with ⟨e, _⟩ | ⟨g', a0, a1, e, h1, h2, h3, h4, h5, h6⟩
 ·cases e
 cases e
 refine ⟨?_, by simp [World.frozen?, h2]⟩;rw [← h6, List.getElem?_take] at ho;split at ho
 ·simpa [World.cell?, h2] using ho
 cases ho
theorem aI2 {w : World} {base : Nat} {t : TypeId} {size : Nat} {v : Value} {n : Nat} {xs : List Value} {j : Nat} {cs : Array Value} {T : TypeId} {fr : Nat × Nat} (h : w.ownsRow base t size v n xs) (hT : T ≠ t) (hj : w.heap[j]? = some (.cells cs T fr)) : v.ownBlock ≠ some j := by
 intro e;rcases h.2 with ⟨rfl, _⟩ | ⟨g, a0, a1, rfl, _, h1, _⟩
 ·cases e
 cases e
 rw [h1] at hj;cases hj
 exact hT rfl
theorem cF1 {w : World} {base : Nat} {t : TypeId} {size : Nat} {v : Value} {n : Nat} {xs : List Value} {j : Nat} (h : w.ownsRow base t size v n xs) (hj : v.ownBlock = some j) : ∃ cur, w.heap[j]? = some (.cells cur t (0, 0)) := by
 rcases h.2 with ⟨rfl, _⟩ | ⟨g, a0, cur, rfl, h0, h1, _⟩
 ·cases hj
 cases hj
 exact ⟨cur, h1⟩
theorem bB5 {w : World} {b1 b2 : Nat} {t1 t2 : TypeId} {s1 s2 : Nat} {v1 v2 : Value} {n1 n2 : Nat} {x1 x2 : List Value} {j : Nat} (h1 : w.ownsRow b1 t1 s1 v1 n1 x1) (h2 : w.ownsRow b2 t2 s2 v2 n2 x2) (hT : t1 ≠ t2) (hj : v1.ownBlock = some j) : v2.ownBlock ≠ some j := by
 obtain ⟨a0, hc⟩ := cF1 h1 hj;exact aI2 h2 hT hc
def aD1 (n : Int) : ByteArray := if n < 0 then ⟨#[]⟩ else aF1 n.toNat
theorem aX6 : Lib.decDigits 0 = [48] := by rw [Lib.decDigits, dif_pos (by omega)]; rfl
theorem cR2 : ∀ (f n : Nat), n < 10 ^ f → n ≠ 0 → dgF f n = Lib.decDigits n := by
 intro f;induction f with
 | zero => intro n h h0; simp at h; omega
 | succ f ih =>
  intro n h h0
  rw [bN6 f n h0]
  rw [Nat.pow_succ] at h
  by_cases hs : n < 10
  rotate_left
  ·rw [Lib.decDigits, dif_neg hs, ih (n / 10) (by omega) (by omega)]
  rw [Lib.decDigits, dif_pos hs]
  have e1 : n / 10 = 0 := by omega
  have e2 : n % 10 = n := by omega
  rw [e1, bE6, e2]; rfl
theorem cO7 (n : Int) (h0 : 0 ≤ n) (h1 : n ≤ 1000000) : (⟨(Lib.itoa n).toArray⟩ : Tx) = aD1 n := by
 unfold aD1;rw [if_neg (by omega)];unfold aF1 numL Lib.itoa;rw [if_neg (by omega), if_neg (by omega)];by_cases h : n.toNat = 0
 ·rw [if_pos h, h, aX6]
 rw [if_neg h, cR2 8 n.toNat (by omega) h]
def aI5 (w : World) : Prop := Lib.TabIs prog w "internal/strconv.uint64pow10" .u64 Lib.pow10Tab
theorem gTab : prog.globalNamed "internal/strconv.uint64pow10" = some 1 := by kernel_rfl
theorem aI5.lt {w : World} (h : aI5 w) : 1 < w.heap.size := by
 unfold aI5 Lib.TabIs World.var? at h;rw [gTab] at h;rcases Nat.lt_or_ge 1 w.heap.size with hl | hl
 ·exact hl
 simp [Array.getElem?_eq_none hl] at h
theorem aI5.below {w w' : World} (h : aI5 w) (hb : Below w.heap.size w w') : aI5 w' := var?_below hb gTab h.lt h
theorem aI6 (n : Int) (w : World) (h0 : -9223372036854775808 ≤ n) (h1 : n ≤ 9223372036854775807) (htab : aI5 w) :
  Calls prog 176 #[.int .i64 n] w fun e w' => aD2 (aD1 n) w e w' := by
 by_cases hn : n < 0
 ·have hT : Hid (⟨#[]⟩ = aD1 n) := by show _ = _; unfold aD1; rw [if_pos hn]
  go_enter func176, ntmps176;go_wp2_with fail
  go_ret;exact aD2.of hT.out (Below.refl _ _)
 by_cases hb : 1000000 < n
 ·have hT : Hid (⟨#[]⟩ = aD1 n) := by
   show _ = _
   unfold aD1 aF1 numL; rw [if_neg hn, if_pos (by omega)]
  go_enter func176, ntmps176;go_wp2_with fail
  go_ret;exact aD2.of hT.out (Below.refl _ _)
 have hT : Hid _ := cO7 n (by omega) (by omega);have HT := hid htab;clear htab;go_enter func176, ntmps176;go_wp2_with fail
 refine (Tryz.strconv_Itoa n h0 h1 w HT.out).mono ?_;rintro e w1 ⟨rfl, k, os, rfl⟩;rw [hT.out];have a0 := Lib.below_grow w.heap.size w (Nat.le_refl _) k os;obtain ⟨w1, a1⟩ := exq (Sort.grow (w.drewN k) os);rw [← a1] at a0 ⊢;clear a1;go_wp2_with fail
 go_ret;exact aD2.of rfl a0
theorem aV2 (n : Int) (w : World) (h0 : -9223372036854775808 ≤ n) (h1 : n ≤ 9223372036854775807) :
  Calls prog 90 #[.int .i64 n] w fun e w' => aD2 (aD1 n) w e w' := by
 by_cases hn : n < 0
 ·have hT : Hid (⟨#[]⟩ = aD1 n) := by show _ = _; unfold aD1; rw [if_pos hn]
  have a0 : ¬ 0 ≤ n := by omega
  go_enter func90, ntmps90;go_wp2
  go_ret;exact aD2.of hT.out (Below.refl _ _)
 by_cases hb : 1000000 < n
 rotate_left
 ·obtain ⟨m, rfl⟩ := Int.eq_ofNat_of_zero_le (Int.not_lt.1 hn);have hT : aD1 (m : Int) = aF1 m := by unfold aD1; rw [if_neg hn]; simp
  rw [hT];exact aP3 m w (by omega)
 have hT : Hid (⟨#[]⟩ = aD1 n) := by
  show _ = _
  unfold aD1 aF1 numL; rw [if_neg hn, if_pos (by omega)]
 have hp : 0 ≤ n := by omega
 have a1 : ¬ n ≤ 1000000 := by omega
 have hd : decide (n ≤ 1000000) = false := by simp; omega
 go_enter func90, ntmps90;go_wp2
 go_ret;exact aD2.of hT.out (Below.refl _ _)
end Go.Proofs.YtejoifianjgefaaGreatDoor
namespace Go.Proofs.YtejoifianjgefaaGreatDoor
open Go.Proofs.Tryz
open Go.RowKit
def bY1 (cur : List UInt8) : Ts := if bD6 cur = [] then [] else [⟨(bD6 cur).toArray⟩]
def spA (cur : List UInt8) : List UInt8 → Ts
 | [] => bY1 cur
 | c :: r => if c = 44 then bY1 cur ++ spA [] r else spA (cur ++ [c]) r
theorem cC6 (l : Ts) (s : Tx) : aK8 l (aG8 s) = l ++ bY1 (bs s) := by
 have hs : (aG8 s).size = (bD6 (bs s)).length := by
  show (bD6 s.data.toList).toArray.size = _
  simp [bs]
 unfold aK8 bY1;rw [hs];by_cases h : bD6 (bs s) = []
 ·rw [if_pos h, if_pos (by rw [h]; rfl), List.append_nil]
 rw [if_neg h, if_neg (fun e => h (List.length_eq_zero_iff.1 e))]
 rfl
theorem cC7 (s : Tx) (a k : Nat) : bs (s.extract a k) = ((bs s).take k).drop a := by rw [bB3]
theorem cF2 (s : Tx) : ∀ k, k ≤ s.size → (aD0 s k).1 ++ spA (((bs s).take k).drop (aD0 s k).2) ((bs s).drop k) = spA [] (bs s) := by
 intro k;induction k with
 | zero => intro _; simp [aD0]
 | succ k ih =>
  intro hk
  have a0 : k < s.size := by omega
  have h := ih (by omega)
  have a2 := (bA8 s k).1
  have hd : (bs s).drop k = s[k]'a0 :: (bs s).drop (k + 1) := by
   have hl : k < (bs s).length := by rw [aV1]; exact a0
   rw [List.drop_eq_getElem_cons hl]
   congr 1
  have ht : (bs s).take (k + 1) = (bs s).take k ++ [s[k]'a0] := by
   have hl : k < (bs s).length := by rw [aV1]; exact a0
   rw [List.take_succ_eq_append_getElem hl]
   congr 1
  rw [hd] at h
  by_cases hc : (s[k]'a0).toNat = 44
  ·have a1 : s[k]'a0 = 44 := UInt8.toNat_inj.1 hc
   rw [aT2 s k a0 hc]
   dsimp only
   rw [cC6, cC7]
   rw [spA, if_pos a1] at h
   have hn : ((bs s).take (k + 1)).drop (k + 1) = [] := List.drop_of_length_le (by rw [List.length_take]; omega)
   rw [hn, List.append_assoc]
   exact h
  have a1 : s[k]'a0 ≠ 44 := fun e => hc (by rw [e]; rfl)
  rw [aT3 s k a0 hc]
  rw [spA, if_neg a1] at h
  have hn : ((bs s).take (k + 1)).drop (aD0 s k).2 = ((bs s).take k).drop (aD0 s k).2 ++ [s[k]'a0] := by
   rw [ht, List.drop_append_of_le_length (by rw [List.length_take, aV1]; omega)]
  rw [hn]
  exact h
theorem cK2 (s : Tx) : aO3 s = spA [] (bs s) := by
 have h := cF2 s s.size (Nat.le_refl _);have hd : (bs s).drop s.size = [] := List.drop_of_length_le (by rw [aV1]; exact Nat.le_refl _);rw [hd] at h;unfold aO3;rw [cC6, cC7];exact h
theorem bT2 : ∀ l : List UInt8, (aN1 l).length ≤ l.length := by
 intro l;induction l with
 | nil => simp [aN1]
 | cons c l ih =>
  unfold aN1
  split
  ·simp; omega
  ·exact Nat.le_refl _
theorem cK3 (l : List UInt8) : (bD6 l).length ≤ l.length := by
 have h1 := bT2 l;have h2 := bT2 (aN1 l).reverse;unfold bD6;rw [List.length_reverse];rw [List.length_reverse] at h2;omega
theorem bO9 (cur : List UInt8) : (bY1 cur).length ≤ 1 ∧ ∀ x ∈ bY1 cur, x.size ≤ cur.length := by
 unfold bY1;split
 ·exact ⟨by simp, fun x hx => nomatch hx⟩
 refine ⟨by simp, fun x hx => ?_⟩
 obtain rfl := List.mem_singleton.1 hx;exact cK3 cur
theorem cV4 : ∀ (l cur : List UInt8), (spA cur l).length ≤ l.length + 1 ∧ ∀ x ∈ spA cur l, x.size ≤ cur.length + l.length := by
 intro l;induction l with
 | nil => intro cur; exact ⟨(bO9 cur).1, fun x hx => (bO9 cur).2 x hx⟩
 | cons c l ih =>
  intro cur
  unfold spA
  split
  ·have h1 := bO9 cur
   have h2 := ih []
   refine ⟨by rw [List.length_append, List.length_cons]; omega, fun x hx => ?_⟩
   rw [List.mem_append] at hx
   rw [List.length_cons]
   rcases hx with hx | hx
   ·have := h1.2 x hx; omega
   ·have := h2.2 x hx; rw [List.length_nil] at this; omega
  ·have h2 := ih (cur ++ [c])
   refine ⟨by rw [List.length_cons]; omega, fun x hx => ?_⟩
   have := h2.2 x hx
   rw [List.length_append, List.length_singleton] at this
   rw [List.length_cons]
   omega
theorem bG3 (s : Tx) : (aO3 s).length ≤ s.size + 1 ∧ ∀ x ∈ aO3 s, x.size ≤ s.size := by
 have h := cV4 (bs s) [];rw [← cK2, aV1, List.length_nil, Nat.zero_add] at h;exact h
end Go.Proofs.YtejoifianjgefaaGreatDoor
namespace Go.Proofs.YtejoifianjgefaaGreatDoor
open Go.Proofs.Tryz
open Go.RowKit
open Go.Lib hiding intOf
def aE9 : ByteArray := ⟨#[118, 97, 114, 121]⟩
def bE0 (fs : Fs) : Ts := (aO3 (getV fs aE9)).map aK7
def aB8 (w : World) (oa : Oa) (n : Nat) (xs : Ts) : Prop :=
 xs.length = n ∧ ∀ i, i < n → ∃ g, oa = some ⟨g, 0, none⟩ ∧ g < w.heap.size ∧ w.cell? ⟨g, i, none⟩ = some (.string (aA7 xs i))
theorem aB8.below {w w' : World} {oa : Oa} {n : Nat} {xs : Ts} (h : aB8 w oa n xs) (hb : Below w.heap.size w w') : aB8 w' oa n xs :=
 ⟨h.1, fun i hi => by
  obtain ⟨g, h1, h2, h3⟩ := h.2 i hi
  exact ⟨g, h1, Nat.lt_of_lt_of_le h2 hb.size, by rw [hb.cell (p := ⟨g, i, none⟩) h2]; exact h3⟩⟩
theorem bG4 {w : World} {base n : Nat} {v : Value} {xs : Ts} (h : w.ownsRow base 9 1 v n (xs.map Value.string)) : ∃ oa cap, v = .slice oa n cap ∧ aB8 w oa n xs := by
 have hl : xs.length = n := by have := h.1; simpa using this
 rcases aQ4 h with ⟨oa, ca, rfl, rfl, rfl⟩ | ⟨g, cap, rfl, hp, r⟩
 ·exact ⟨oa, ca, rfl, rfl, fun i hi => absurd hi (by omega)⟩
 exact ⟨_, _, rfl, hl, fun i hi => ⟨g, rfl, r.lt, r.cell i hi⟩⟩
def loTo (xs : Ts) (j : Nat) : Ts := (xs.take j).map aK7 ++ xs.drop j
theorem bT3 (xs : Ts) : loTo xs 0 = xs := by simp [loTo]
theorem bE9 (xs : Ts) (j : Nat) (h : xs.length ≤ j) : loTo xs j = xs.map aK7 := by
 simp [loTo, List.take_of_length_le h, List.drop_of_length_le h]
theorem cK4 (xs : Ts) (j : Nat) : aA7 (loTo xs j) j = aA7 xs j := by
 unfold aA7 loTo;rw [List.getD_eq_getElem?_getD, List.getD_eq_getElem?_getD];by_cases h : j < xs.length
 rotate_left
 ·rw [List.getElem?_eq_none (by simp; omega), List.getElem?_eq_none (by omega)]
 rw [List.getElem?_append_right (by simp; omega), List.length_map, List.length_take, Nat.min_eq_left (by omega), Nat.sub_self, List.getElem?_drop, Nat.add_zero]
theorem bT4 (xs : Ts) (j : Nat) (h : j < xs.length) : (loTo xs j).set j (aK7 (aA7 xs j)) = loTo xs (j + 1) := by
 have e : xs.drop j = aA7 xs j :: xs.drop (j + 1) := by
  rw [List.drop_eq_getElem_cons h]
  congr 1
  unfold aA7
  rw [List.getD_eq_getElem?_getD, List.getElem?_eq_getElem h]
  rfl
 have e2 : xs.take (j + 1) = xs.take j ++ [aA7 xs j] := by
  rw [List.take_add_one, List.getElem?_eq_getElem h]
  unfold aA7
  rw [List.getD_eq_getElem?_getD, List.getElem?_eq_getElem h]
  rfl
 unfold loTo;rw [List.set_append_right _ _ (by simp; omega), List.length_map, List.length_take, Nat.min_eq_left (by omega), Nat.sub_self, e, List.set_cons_zero, e2, List.map_append];simp
theorem bK1 (v : Value) (n base : Nat) (fs : Fs) (w : World) (hv : aB2 w base v n fs) (hn : n ≤ 1073741824) (hsz : (getV fs aE9).size ≤ 1048576) :
  Calls prog 96 #[v] w fun e w' => aY3 w.heap.size (bE0 fs) w e w' := by
 obtain ⟨s, hs⟩ := exq (getV fs aE9);have HS : Hid (getV fs aE9 = s) := hs.symm;have HE : Hid (bE0 fs = (aO3 s).map aK7) := by show _ = _; unfold bE0; rw [HS.out]
 rw [← hs] at hsz;obtain ⟨a3, a1⟩ := bG3 s;clear hs;go_enter func96, ntmps96;go_wp2_with fail
 refine (bG0 v n base fs aE9 _ hv hn).mono ?_;rintro e w1 ⟨rfl, rfl⟩;rw [HS.out];clear hv;go_wp2_with fail
 refine (bO4 s _ hsz).mono ?_;rintro e w2 ⟨V, rfl, O, b2⟩;obtain ⟨xs, a4⟩ := exq (aO3 s);rw [← a4] at a3 a1 O HE;obtain ⟨m, hm⟩ := exq xs.length;rw [← hm] at a3 O;have HM : Hid (xs.length = m) := hm.symm;have H2 := hid a1;clear a4 hm a1;rcases aQ4 O with ⟨oa, ca, rfl, h0, h1⟩ | ⟨g, cap, rfl, hp, r1⟩
 ·subst h0 h1;go_wp2_with fail
  refine wp_loop_rounds 1 ?_;rw [rounds_succ];go_wp2_with fail
  go_ret;exact aY3.of (by rw [HE.out]; rfl) rfl O b2
 clear O;have a6 : Hid (Below w1.heap.size w1 w2) := b2;have a7 : Hid (aF2 w1.heap.size w2 g m cap (loTo xs 0)) := by show aF2 _ _ _ _ _ _; rw [bT3]; exact r1
 clear b2 r1;go_wp2_with fail
 go_loopw [6] (fun i wr => ∃ j : Nat, j ≤ m ∧ i = .int .i64 (j : Int) ∧ Hid (Below w1.heap.size w1 wr) ∧ Hid (aF2 w1.heap.size wr g m cap (loTo xs j))) (fun i _ => m - (intOf i).toNat)
 case atStart => exact ⟨0, Nat.zero_le _, rfl, a6, a7⟩
 case round =>
  obtain ⟨j, hj, rfl, HB, HR⟩ := hrel;by_cases hlt : j < m
  rotate_left
  ·obtain rfl : j = m := by omega
   go_wp2_with fail
   go_ret;exact aY3.of (by rw [HE.out, bE9 xs j (by rw [HM.out]; exact Nat.le_refl _)]) (by rw [bE9 xs j (by rw [HM.out]; exact Nat.le_refl _), List.length_map, HM.out]) HR.out.owns HB.out
  have a8 : (j : Int) < (m : Int) := by omega
  obtain ⟨x, hx⟩ := exq (aA7 xs j);have hc := HR.out.cell j hlt;rw [cK4, ← hx] at hc;have a5 : Hid ((loTo xs j).set j (aK7 x) = loTo xs (j + 1)) := by show _ = _; rw [hx]; exact bT4 xs j (by rw [HM.out]; exact hlt)
  have a9 : x.size ≤ 1048576 := by
   refine Nat.le_trans (H2.out x ?_) hsz
   rw [hx]
   unfold aA7
   rw [List.getD_eq_getElem?_getD, List.getElem?_eq_getElem (by rw [HM.out]; exact hlt)]
   exact List.getElem_mem _
  clear hx;go_wp2_with fail
  refine (bO1 x _ a9).mono ?_;rintro e w3 ⟨rfl, a2⟩;have a0 := HR.out.below a2 HR.out.lt;have b3 := a0.cell j hlt;have b4 := a0.frozen j;have b0 : Hid (Below w1.heap.size w1 (w3.setCell ⟨g, j, none⟩ (.string (aK7 x)))) := (HB.out.trans (a2.mono HB.out.size)).setCell HR.out.base _
  have b1 : Hid (aF2 w1.heap.size (w3.setCell ⟨g, j, none⟩ (.string (aK7 x))) g m cap (loTo xs (j + 1))) := by
   show aF2 _ _ _ _ _ _
   rw [← a5.out]
   exact a0.set j hlt _
  clear a2 a0 HB HR a5 hc;go_wp2_with fail
  go_roundw
  case rel => exact ⟨j + 1, by omega, by go_num, b0, b1⟩
  case measure => simp [intOf]; omega
def Far (v : Value) (w w' : World) : Prop := ∀ j, j < w.heap.size → v.ownBlock ≠ some j → w'.heap[j]? = w.heap[j]?
structure ArgT (w : World) (B : Nat) (a : Oa) (n : Nat) (xs : Ts) : Prop where
 len : xs.length = n
 get : ∀ i, i < n → ∃ b off, a = some ⟨b, off, none⟩ ∧ b < B ∧ w.cell? ⟨b, off + i, none⟩ = some (.string (aA7 xs i))
theorem ArgT.below {w w' : World} {B : Nat} {a : Oa} {n : Nat} {xs : Ts} (h : ArgT w B a n xs) (hb : Below B w w') : ArgT w' B a n xs :=
 ⟨h.len, fun i hi => by
  obtain ⟨b, off, h1, h2, h3⟩ := h.get i hi
  exact ⟨b, off, h1, h2, by rw [hb.cell (p := ⟨b, off + i, none⟩) h2]; exact h3⟩⟩
theorem aV3 {H : Type} {enc : TypeId × Value → H} {W : World} {fuel : Nat} {a : Oa} {n cap : Nat} {x : DataW H × List MemPlace} (h : DataW.trod enc prog W 0 (fun _ => true) true fuel 22 [.slice a n cap] = some x) :
  ∃ xs, ArgT W W.heap.size a n xs ∧ n ≤ maxLen ∧ ∀ i, i < n → (aA7 xs i).size ≤ maxLen := by
 rcases Go.ChangeShapes.open_strings underlying22 underlying9 (by kernel_rfl) h with ⟨a1, _⟩ | ⟨ad, a8, c, ss, a1, _, hl, hm, a3, _, a0, hsz⟩
 ·simp at a1
  obtain ⟨rfl, rfl, rfl⟩ := a1;exact ⟨[], ⟨rfl, fun i hi => absurd hi (by omega)⟩, Nat.zero_le _, fun i hi => absurd hi (by omega)⟩
 simp at a1
 obtain ⟨rfl, rfl, rfl⟩ := a1;have a5 : ss.length = cap := by simpa using a3
 have a6 : ∀ i, i < n → aA7 (ss.take n) i = ss.getD i ByteArray.empty := fun i hi => by
  unfold aA7
  rw [List.getD_eq_getElem?_getD, List.getD_eq_getElem?_getD, List.getElem?_take_of_lt hi]
  rfl
 refine ⟨ss.take n, ⟨by rw [List.length_take]; omega, fun i hi => ?_⟩, by omega, fun i hi => ?_⟩
 ·obtain ⟨b, a7, a4⟩ := ad
  have a2 : a4 = none := by
   have := World.cell?_spot (a0 0 (by omega))
   simpa [Addr.add] using this
  subst a2;have hc := a0 i (by omega);rw [aZ5] at hc;exact ⟨b, a7, rfl, World.block_lt_of_cell? _ _ hc, by rw [a6 i hi]; exact hc⟩
 rw [a6 i hi];refine hsz _ ?_;rw [List.getD_eq_getElem?_getD, List.getElem?_eq_getElem (by omega)];exact List.getElem_mem _
def bG5 (w : World) (g n k : Nat) (xs : Ts) : Prop :=
 ∃ cur, w.heap[g]? = some (.cells cur 9 (0, 0)) ∧ cur.size = n ∧ ∀ i, i < k → cur[i]? = some (.string (aA7 xs i))
theorem bG5.put {w : World} {g n k : Nat} {xs : Ts} (h : bG5 w g n k xs) (hk : k < n) : bG5 (w.setCell ⟨g, k, none⟩ (.string (aA7 xs k))) g n (k + 1) xs := by
 obtain ⟨a0, h1, h2, h3⟩ := h;refine ⟨_, aC2 w g k _ _ _ _ h1, by simpa using h2, fun i hi => ?_⟩
 by_cases e : i = k
 ·subst e;exact Array.getElem?_setIfInBounds_self_of_lt (by omega)
 rw [Array.getElem?_setIfInBounds_ne (fun x => e x.symm)]
 exact h3 i (by omega)
theorem bG5.row {w : World} {g n base : Nat} {xs : Ts} (h : bG5 w g n n xs) (hl : xs.length = n) (hb : base ≤ g) (hn : n ≤ maxLen) : aF2 base w g n n xs := by
 obtain ⟨a0, h1, h2, h3⟩ := h;exact ⟨hl, hb, (blt h1), Nat.le_refl _, hn, a0, h1, h2, h3⟩
theorem aT7 (B : Nat) (a : Oa) (n cap : Nat) (xs : Ts) (w : World) (harg : ArgT w B a n xs) (hB : B ≤ w.heap.size) (hn : n ≤ 1048576) :
  Calls prog 43 #[.slice a n cap] w fun e w' => ∃ v, e = .returned v ∧ w'.ownsRow w.heap.size 9 1 v n (xs.map Value.string) ∧ Below w.heap.size w w' := by
 obtain ⟨i0, hi, a6, a7, a8⟩ := info_parts bS3;obtain ⟨M, hM⟩ : ∃ M, M = madeCells (Value.string ⟨#[]⟩).cells (((n : Nat) : Int).toNat * i0.size) := ⟨_, rfl⟩
 have b2 : ∀ W : World, (Instr.makeSlice 22 (.int .i64 (n : Int)) (.int .i64 (n : Int))).run prog W = .ok (.slice (some ⟨W.heap.size, 0, none⟩) n n) (W.alloc (.cells M 9)) := fun W => by
  have h := run_make (P := prog) W 22 9 i0 (.string ⟨#[]⟩) underlying22 hi a6 .i64 .i64 (n : Int) (n : Int) (by omega) (by omega) (by rw [a8]; omega) (by omega)
  rw [← hM] at h
  simpa using h
 have a9 : M.size = n := by rw [hM, size_madeCells, a7]; simp
 have a1 : Hid (∀ W, Below B w W → ArgT W B a n xs) := fun W h => harg.below h
 have a2 : Hid (xs.length = n) := harg.len;clear hM harg;have HP : Hid (bG5 (w.alloc (.cells M 9)) w.heap.size n 0 xs) := ⟨M, heap_alloc_new w _, a9, fun i h => absurd h (by omega)⟩
 go_enter func43, ntmps43;go_wp2
 go_loopw [4] (fun i wr => ∃ k : Nat, k ≤ n ∧ i = .int .i64 (k : Int) ∧ Hid (bG5 wr w.heap.size n k xs) ∧ Bw w wr) (fun i _ => n - (intOf i).toNat)
 case atStart => exact ⟨0, Nat.zero_le _, rfl, HP, (Below.refl _ _).alloc (Nat.le_refl _) _⟩
 case round =>
  obtain ⟨k, hk, rfl, a3, a4⟩ := hrel;by_cases hlt : k < n
  rotate_left
  ·obtain rfl : k = n := by omega
   go_wp2
   go_ret;exact ⟨_, rfl, (a3.out.row a2.out (Nat.le_refl _) (by unfold maxLen; omega)).owns, a4⟩
  have b0 : (k : Int) < (n : Int) := by omega
  obtain ⟨b, b3, rfl, b4, b1⟩ := (a1.out wr (a4.mono hB)).get k hlt;have a0 : Hid (bG5 (wr.setCell ⟨w.heap.size, k, none⟩ (.string (aA7 xs k))) w.heap.size n (k + 1) xs) := a3.out.put hlt
  obtain ⟨u0, b5, f0⟩ : ∃ u, wr.cell? ⟨w.heap.size, k, none⟩ = some u ∧ wr.frozen? ⟨w.heap.size, k, none⟩ = false := by
   obtain ⟨a5, h1, h2, _⟩ := a3.out
   refine ⟨a5[k]'(by omega), ?_, by simp [World.frozen?, h1]⟩
   simp only [World.cell?, h1]
   simp [show k < a5.size by omega]
  generalize aA7 xs k = z at b1 a0;go_wp2
  go_roundw
  case rel => exact ⟨k + 1, by omega, by go_num, a0, a4.setCell (Nat.le_refl _) _⟩
  case measure => simp [intOf]; omega
theorem aH8 {W : World} {R : Nat} {a b c : Value} {t : TypeId} (h : W.heap[R]? = some (.cells #[a, b, c] t)) :
  (W.cell? ⟨R, 0, none⟩ = some a ∧ W.cell? ⟨R, 1, none⟩ = some b ∧ W.cell? ⟨R, 2, none⟩ = some c) ∧ W.frozen? ⟨R, 0, none⟩ = false ∧ W.frozen? ⟨R, 1, none⟩ = false ∧ W.frozen? ⟨R, 2, none⟩ = false := by
 refine ⟨⟨?_, ?_, ?_⟩, ?_, ?_, ?_⟩ <;> simp [World.cell?, World.frozen?, h]
def aJ1 (w : World) (r : Nat) (a b c : Value) : World := ((w.setCell ⟨r, 0, none⟩ a).setCell ⟨r, 1, none⟩ b).setCell ⟨r, 2, none⟩ c
theorem bT5 {W : World} {R : Nat} {a b c : Value} {t : TypeId} (h : W.heap[R]? = some (.cells #[a, b, c] t)) (a' b' c' : Value) : (aJ1 W R a' b' c').heap[R]? = some (.cells #[a', b', c'] t) := by
 have := aC2 _ R 2 _ _ _ c' (aC2 _ R 1 _ _ _ b' (aC2 W R 0 _ _ _ a' h));simpa [aJ1] using this
theorem bG6 {w W : World} {B R : Nat} {a b c : Value} (h : Below B w W) (hR : B ≤ R) : Below B w (aJ1 W R a b c) :=
 ((h.setCell (p := ⟨R, 0, none⟩) hR _).setCell (p := ⟨R, 1, none⟩) hR _).setCell (p := ⟨R, 2, none⟩) hR _
theorem cF3 (m : Int) (a : Oa) (n cap : Nat) (b : Tx) (fs : Fs) (B : Nat) (w : World) (harg : ArgF w B a n fs) (hB : B ≤ w.heap.size) (hn : n ≤ 1048576) :
  Calls prog 44 #[.agg #[.int .i64 m, .slice a n cap, .string b]] w fun e w' => ∃ v, e = .returned (.agg #[.int .i64 m, v, .string b]) ∧ w'.ownsRow w.heap.size 184 2 v n (aE4 fs) ∧ Below w.heap.size w w' := by
 obtain ⟨w0, a3⟩ := exq ((((w.alloc (.cells #[.int .i64 m, .slice a n cap, .string b] 32)).alloc (.cells #[.int .i64 0, .slice none 0 0, .string ⟨#[]⟩] 49)).alloc (.cells #[.int .i64 m, .slice none 0 0, .string ⟨#[]⟩] 49)));have b8 : w0.heap.size = w.heap.size + 1 + 1 + 1 := by rw [a3]; simp
 have a9 : Bw w w0 := by rw [a3]; exact (((Below.refl _ w).alloc (Nat.le_refl _) _).alloc (by simp) _).alloc (by simp; omega) _
 have x1 : w0.heap[w.heap.size]? = some (.cells #[.int .i64 m, .slice a n cap, .string b] 32) := by
  rw [a3, heap_alloc_old _ _ (by simp; omega), heap_alloc_old _ _ (by simp)]; exact heap_alloc_new w _
 have x2 : w0.heap[w.heap.size + 1]? = some (.cells #[.int .i64 0, .slice none 0 0, .string ⟨#[]⟩] 49) := by
  rw [a3, heap_alloc_old _ _ (by simp)]
  have := heap_alloc_new (w.alloc (.cells #[.int .i64 m, .slice a n cap, .string b] 32)) (.cells #[.int .i64 0, .slice none 0 0, .string ⟨#[]⟩] 49)
  simpa using this
 have x3 : w0.heap[w.heap.size + 1 + 1]? = some (.cells #[.int .i64 m, .slice none 0 0, .string ⟨#[]⟩] 49) := by
  rw [a3]
  have := heap_alloc_new ((w.alloc (.cells #[.int .i64 m, .slice a n cap, .string b] 32)).alloc (.cells #[.int .i64 0, .slice none 0 0, .string ⟨#[]⟩] 49)) (.cells #[.int .i64 m, .slice none 0 0, .string ⟨#[]⟩] 49)
  simpa using this
 go_enter func44, ntmps44;go_wp2_with fail
 rw [← a3];refine (bS6 B a n cap fs _ (harg.below (a9.mono hB)) (by omega) hn).mono ?_;rintro e w1 ⟨v, rfl, hown, b3⟩;obtain ⟨fo, fc, rfl⟩ := aA0 hown;rw [← b3.block _ (by omega)] at x1 x2 x3;obtain ⟨o, ho⟩ := exq (w.heap.size + 1 + 1);obtain ⟨q, hq⟩ := exq (w.heap.size + 1);obtain ⟨c, hc⟩ := exq (w.heap.size);rw [← ho] at x3;rw [← hq] at x2;rw [← hc] at x1;have b4 : q ≠ o := by omega
 have c5 : c ≠ o := by omega
 have c6 : o ≠ q := by omega
 have c7 : o ≠ c := by omega
 have b9 : w.heap.size ≤ q := by omega
 have b5 : w.heap.size ≤ o := by omega
 obtain ⟨⟨a0, a1, a2⟩, _⟩ := aH8 x1;obtain ⟨⟨b0, b1, b2⟩, e0, e1, e2⟩ := aH8 x2;obtain ⟨⟨d0, d1, d2⟩, f0, f1, f2⟩ := aH8 x3;have a6 : Bw w w1 := a9.trans (b3.mono a9.size)
 have a7 : Hid (∀ W : World, W = (w1.setCell ⟨o, 1, none⟩ (.slice fo n fc)).setCell ⟨o, 2, none⟩ (.string b) → ((aJ1 W q (.int .i64 m) (.slice fo n fc) (.string b)).heap[q]? = some (.cells #[.int .i64 m, .slice fo n fc, .string b] 49)) ∧ (aJ1 W q (.int .i64 m) (.slice fo n fc) (.string b)).ownsRow w.heap.size 184 2 (.slice fo n fc) n (aE4 fs) ∧ Bw w (aJ1 W q (.int .i64 m) (.slice fo n fc) (.string b))) := fun W hW => by
  have c0 : W.heap[q]? = some (.cells #[.int .i64 0, .slice none 0 0, .string ⟨#[]⟩] 49) := by rw [hW, heap_setCell_other _ _ q _ (fun e => b4 e), heap_setCell_other _ _ q _ (fun e => b4 e)]; exact x2
  have c1 : Bw w W := by rw [hW]; exact (a6.setCell (p := ⟨o, 1, none⟩) b5 _).setCell (p := ⟨o, 2, none⟩) b5 _
  refine ⟨bT5 c0 _ _ _, ?_, bG6 c1 b9⟩
  have a8 : w1.ownsRow w.heap.size 184 2 (.slice fo n fc) n (aE4 fs) := by
   refine ⟨hown.1, ?_⟩
   rcases hown.2 with h6 | ⟨g6, a4, a5, h7, h8, h9⟩
   ·exact .inl h6
   ·exact .inr ⟨g6, a4, a5, h7, by omega, h9⟩
  refine ⟨a8.1, ?_⟩
  rcases hown.2 with h6 | ⟨g6, a4, a5, h7, h8, h9, c2⟩
  ·exact .inl h6
  ·refine .inr ⟨g6, a4, a5, h7, by omega, ?_, c2⟩
   have n1 : g6 ≠ q := by omega
   have n2 : g6 ≠ o := by omega
   unfold aJ1
   rw [heap_setCell_other _ _ g6 _ (fun e => n1 e), heap_setCell_other _ _ g6 _ (fun e => n1 e), heap_setCell_other _ _ g6 _ (fun e => n1 e), hW, heap_setCell_other _ _ g6 _ (fun e => n2 e), heap_setCell_other _ _ g6 _ (fun e => n2 e)]
   exact h9
 obtain ⟨hh, b6, b7⟩ := a7.out _ rfl;obtain ⟨⟨k0, k1, k2⟩, _⟩ := aH8 hh;have c3 : Hid _ := b6;have c4 : Hid _ := b7;unfold aJ1 at k0 k1 k2;rw [← ho, ← hq, ← hc];clear x1 x2 x3 ho hq hc a3 b8 a9 b3 hown a6 hh b6 b7 harg hB a7 a0 a1;go_wp2_with fail
 exact bodyPost_ret (v := .agg #[.int .i64 m, .slice fo n fc, .string b]) (by simp [results, results44, go_sem, k0, k1, k2]) rfl ⟨_, rfl, c3.out, c4.out⟩
theorem cF4 (m : Int) (v1 v2 : Value) (b : Tx) (n b1 b2 : Nat) (fs : Fs) (w : World) (h1 : aB2 w b1 v1 n fs) (h2 : aB2 w b2 v2 n fs) (hn : n ≤ 2000000) :
  Calls prog 51 #[.agg #[.int .i64 m, v1, .string b], .agg #[.int .i64 m, v2, .string b]] w fun e w' => e = .returned (.bool true) ∧ Below w.heap.size w w' := by
 obtain ⟨oa, ca, rfl, _⟩ := h1.slice;obtain ⟨ob, cb, rfl, _⟩ := h2.slice;have tb : (b.toList == b.toList) = true := by simp
 have tm : (m != m) = false := by simp
 obtain ⟨w0, a0⟩ := exq (((w.alloc (.cells #[.int .i64 m, .slice oa n ca, .string b] 49)).alloc (.cells #[.int .i64 m, .slice ob n cb, .string b] 49)));have a4 : w0.heap.size = w.heap.size + 1 + 1 := by rw [a0]; simp
 have a1 : Bw w w0 := by rw [a0]; exact ((Below.refl _ w).alloc (Nat.le_refl _) _).alloc (by simp) _
 have x1 : w0.heap[w.heap.size]? = some (.cells #[.int .i64 m, .slice oa n ca, .string b] 49) := by
  rw [a0, heap_alloc_old _ _ (by simp)]; exact heap_alloc_new w _
 have x2 : w0.heap[w.heap.size + 1]? = some (.cells #[.int .i64 m, .slice ob n cb, .string b] 49) := by
  rw [a0]
  have := heap_alloc_new (w.alloc (.cells #[.int .i64 m, .slice oa n ca, .string b] 49)) (.cells #[.int .i64 m, .slice ob n cb, .string b] 49)
  simpa using this
 go_enter func51, ntmps51;go_wp2_with fail
 rw [← a0];refine (bS7 _ _ n b1 b2 fs _ (h1.below a1) (h2.below a1) hn).mono ?_;rintro e w1 ⟨rfl, a2⟩;rw [← a2.block _ (by omega)] at x1 x2;obtain ⟨q, hq⟩ := exq (w.heap.size + 1);obtain ⟨c, hc⟩ := exq (w.heap.size);rw [← hq] at x2;rw [← hc] at x1;have y1 : w1.cell? ⟨c, 2, none⟩ = some (.string b) := by simp [World.cell?, x1]
 have y2 : w1.cell? ⟨q, 2, none⟩ = some (.string b) := by simp [World.cell?, x2]
 have a3 : Bw w w1 := a1.trans (a2.mono a1.size);rw [← hq, ← hc];clear x1 x2 hq hc a0 a4 a1 a2 h1 h2;go_wp2
 go_ret;exact ⟨rfl, a3⟩
def SzEx (L : Int) (n : Nat) (fs : Fs) (w : World) (e : Ending) (w' : World) : Prop :=
 ∃ r : Int, e = .returned (.int .i64 r) ∧ r ≤ L ∧ (0 ≤ r → r + (n : Int) + (szTo fs n : Int) = L ∧ n ≤ 1048576 ∧ szTo fs n ≤ 1048576) ∧ Below w.heap.size w w'
theorem bK2 (L : Int) (hL0 : 0 ≤ L) (hL1 : L ≤ 1048576) (B : Nat) (a : Oa) (n cap : Nat) (fs : Fs) (w : World) (harg : ArgF w B a n fs) (hB : B ≤ w.heap.size) (hn : n ≤ maxLen) (hsz : ∀ i, i < n → (aC8 fs i).size ≤ maxLen ∧ (aH1 fs i).size ≤ maxLen) :
  Calls prog 86 #[.slice a n cap, .int .i64 L] w fun e w' => SzEx L n fs w e w' := by
 unfold maxLen at hn;have HS := hid hsz;clear hsz;by_cases c1 : L - (n : Int) < 0
 ·go_enter func86, ntmps86;go_wp2
  go_ret;exact ⟨-1, rfl, by omega, fun h => absurd h (by omega), Below.refl _ _⟩
 go_enter func86, ntmps86;go_wp2
 go_loopw [1, 5] (fun l i wr => ∃ (k : Nat) (x : Int), k ≤ n ∧ i = .int .i64 (k : Int) ∧ l = .int .i64 x ∧ 0 ≤ x ∧ x ≤ L ∧ Hid (x = L - (n : Int) - (szTo fs k : Int)) ∧ Bw w wr) (fun _ i _ => n - (intOf i).toNat)
 case atStart => exact ⟨0, _, Nat.zero_le _, rfl, rfl, by omega, by omega, by show _ = _; simp [szTo], Below.refl _ _⟩
 case round =>
  obtain ⟨k, x, hk, rfl, rfl, a7, a8, hx, a0⟩ := hrel;by_cases hlt : k < n
  rotate_left
  ·have hF : Hid (x + (n : Int) + (szTo fs n : Int) = L ∧ n ≤ 1048576 ∧ szTo fs n ≤ 1048576) := by
    have := hx.out
    obtain rfl : k = n := by omega
    exact ⟨by omega, by omega, by omega⟩
   go_wp2
   go_ret;exact ⟨x, rfl, a8, fun _ => hF.out, a0⟩
  have a9 : (k : Int) < (n : Int) := by omega
  obtain ⟨b, b1, rfl, b2, a4, a5⟩ := (harg.below (a0.mono hB)).get k hlt;obtain ⟨s1, s2⟩ := HS.out k hlt;obtain ⟨nm, a1⟩ := exq (aC8 fs k);obtain ⟨vl, a2⟩ := exq (aH1 fs k);have HZ : Hid (szTo fs (k + 1) = szTo fs k + nm.size + vl.size) := by rw [a1, a2]; rfl
  rw [← a1] at a4 s1;rw [← a2] at a5 s2;clear a1 a2;go_wp2_with fail
  refine (bX8 nm vl x _ a7 (by omega) s1 s2).mono ?_;rintro e w1 ⟨rfl, a6⟩;have a3 : Bw w w1 := a0.trans (a6.mono a0.size);clear a4 a5 a6;by_cases d1 : x - (nm.size : Int) < 0
  ·rw [if_pos d1];go_wp2
   go_ret;exact ⟨-1, rfl, by omega, fun h => absurd h (by omega), a3⟩
  rw [if_neg d1];by_cases d2 : x - (nm.size : Int) - (vl.size : Int) < 0
  ·rw [if_pos d2];go_wp2
   go_ret;exact ⟨-1, rfl, by omega, fun h => absurd h (by omega), a3⟩
  rw [if_neg d2];obtain ⟨y, hy⟩ : ∃ y, y = x - (nm.size : Int) - (vl.size : Int) := ⟨_, rfl⟩;rw [← hy] at d2 ⊢
  have HY : Hid (y = L - (n : Int) - (szTo fs (k + 1) : Int)) := by
   show _ = _
   rw [hy, HZ.out, hx.out]; omega
  have b0 : y ≤ L := by omega
  clear hy d1;go_wp2
  go_roundw
  case rel => exact ⟨k + 1, y, by omega, by go_num, rfl, by omega, b0, HY, a3⟩
  case measure => simp [intOf]; omega
def mkG (k0 : Nat) (fs : Fs) : Nat → Fs
 | 0 => fs
 | k + 1 => (mkG k0 fs k).set k (aB0 (k0 + 2 * k), aB0 (k0 + 2 * k + 1))
theorem bP0 (k0 : Nat) (fs : Fs) : ∀ k, (mkG k0 fs k).length = fs.length
 | 0 => rfl
 | k + 1 => by rw [mkG, List.length_set, bP0 k0 fs k]
theorem cV5 (k0 : Nat) (fs : Fs) (j : Nat) : ∀ k, k ≤ fs.length → j < k → aC8 (mkG k0 fs k) j = aB0 (k0 + 2 * j) ∧ aH1 (mkG k0 fs k) j = aB0 (k0 + 2 * j + 1) := by
 intro k;induction k with
 | zero => intro _ h; omega
 | succ k ih =>
  intro hk h
  have hs := bL8 (mkG k0 fs k) k j (aB0 (k0 + 2 * k), aB0 (k0 + 2 * k + 1)) (by rw [bP0]; omega)
  rw [mkG, hs.1, hs.2]
  by_cases e : j = k
  ·subst e; rw [if_pos rfl, if_pos rfl]; exact ⟨rfl, rfl⟩
  rw [if_neg e, if_neg e]; exact ih (by omega) (by omega)
theorem bC9 (v : Value) (n base : Nat) (fs : Fs) (w : World) (h1 : w.ownsRow base 184 2 v n (aE4 fs)) (hb : base ≤ w.heap.size) (k0 : Nat) (hk0 : 1 ≤ k0) (hn : k0 + 2 * n ≤ 99999999) :
  Calls prog 118 #[v, .int .i64 (k0 : Int)] w fun e w' => e = .returned (.int .i64 ((k0 : Int) + 2 * (n : Int))) ∧ w'.ownsRow base 184 2 v n (aE4 (mkG k0 fs n)) ∧ Below base w w' ∧ Far v w w' := by
 rcases bF9 h1 with ⟨oa, ca, rfl, _, rfl, rfl⟩ | ⟨g, cap, rfl, hp, r1⟩
 ·go_enter func118, ntmps118;go_wp2
  refine wp_loop_rounds 1 ?_;rw [rounds_succ];go_wp2
  go_ret;exact ⟨aR2 (by simp), h1, Below.refl _ _, fun j _ _ => rfl⟩
 clear h1;go_enter func118, ntmps118;go_wp2
 go_loopw [1, 5] (fun q i wr => ∃ k : Nat, k ≤ n ∧ i = .int .i64 (k : Int) ∧ q = .int .i64 ((k0 : Int) + 2 * (k : Int)) ∧ Below base w wr ∧ aE5 base wr g n cap (mkG k0 fs k) ∧ Hid (∀ j, j < w.heap.size → j ≠ g → wr.heap[j]? = w.heap[j]?)) (fun _ i _ => n - (intOf i).toNat)
 case atStart => exact ⟨0, Nat.zero_le _, rfl, by simp, Below.refl _ _, r1, fun j _ _ => rfl⟩
 case round =>
  obtain ⟨k, hk, rfl, rfl, a3, a1, a4⟩ := hrel;by_cases hlt : k < n
  rotate_left
  ·obtain rfl : k = n := by omega
   go_wp2
   go_ret;exact ⟨rfl, a1.owns, a3, fun j hj a2 => a4.out j hj (fun e => a2 (by rw [e]; rfl))⟩
  have b1 : (k : Int) < (n : Int) := by omega
  have b2 := a3.size;go_wp2_with fail
  refine (aE7 _ (k0 + 2 * k) _ (by omega) (by omega) (by omega)).mono ?_;rintro e w1 ⟨rfl, a6⟩;have a0 := a1.below a6 a1.lt;have hc := a0.name k hlt;have hf := a0.frozen (k * 2);have a7 : Below base w w1 := a3.trans (a6.mono (Nat.le_trans hb a3.size));have b3 : Hid (∀ j, j < w.heap.size → j ≠ g → w1.heap[j]? = w.heap[j]?) := fun j hj a2 => by rw [a6.block j (by omega)]; exact a4.out j hj a2
  clear a6 a3;go_wp2_with fail
  refine (aE7 _ (k0 + 2 * k + 1) _ (by omega) (by omega) (by omega)).mono ?_;rintro e w2 ⟨rfl, a5⟩;have a8 : g < (w1.setCell ⟨g, k * 2, none⟩ (.string (aB0 (k0 + 2 * k)))).heap.size := by simpa using a0.lt
  have hblk := a5.block g a8
  have b6 : w2.cell? ⟨g, k * 2 + 1, none⟩ = some (.string (aH1 (mkG k0 fs k) k)) := by
   rw [World.cell?_of_block (w := w1.setCell ⟨g, k * 2, none⟩ (.string (aB0 (k0 + 2 * k)))) hblk, World.cell?_setCell_other (h := fun e => by have := congrArg Addr.off e; simp at this)]
   exact a0.val k hlt
  have b7 : w2.frozen? ⟨g, k * 2 + 1, none⟩ = false := by
   rw [World.frozen?_of_block (w := w1.setCell ⟨g, k * 2, none⟩ (.string (aB0 (k0 + 2 * k)))) hblk, World.frozen?_setCell]; exact a0.frozen _
  have b4 : Below base w w2 := (a7.setCell a1.base _).trans (a5.mono (by have := a7.size; simp; omega));have a9 : w1.heap.size ≤ w2.heap.size := by have := a5.size; simpa using this
  have b5 : Hid (∀ j, j < w.heap.size → j ≠ g → (w2.setCell ⟨g, k * 2 + 1, none⟩ (.string (aB0 (k0 + 2 * k + 1)))).heap[j]? = w.heap[j]?) := fun j hj a2 => by
   have b8 : w.heap.size ≤ w1.heap.size := a7.size
   rw [heap_setCell_other _ _ j _ (fun e => a2 e), a5.block j (by simp; omega), heap_setCell_other _ _ j _ (fun e => a2 e)]
   exact b3.out j hj a2
  clear a5 a7;have b0 : Hid (aE5 base (w2.setCell ⟨g, k * 2 + 1, none⟩ (.string (aB0 (k0 + 2 * k + 1)))) g n cap (mkG k0 fs (k + 1))) := a0.set k hlt _ _ _ (aZ4 hblk _ _) (by simpa using a9);clear hblk hc hf;go_wp2
  go_roundw
  case rel => exact ⟨k + 1, by omega, by go_num, by first | go_num | (congr 1; omega), b4.setCell a1.base _, b0, b5⟩
  case measure => simp [intOf]; omega
theorem bT6 (v : Value) (n base : Nat) (fs : Fs) (w : World) (h1 : w.ownsRow base 184 2 v n (aE4 fs)) (k0 : Nat) (hk0 : 1 ≤ k0) (hn : k0 + 2 * n ≤ 99999999) (hm : ∀ j, j < n → aC8 fs j = aB0 (k0 + 2 * j) ∧ aH1 fs j = aB0 (k0 + 2 * j + 1)) :
  Calls prog 121 #[v, .int .i64 (k0 : Int)] w fun e w' => e = .returned (.int .i64 ((k0 : Int) + 2 * (n : Int))) ∧ Below w.heap.size w w' := by
 rcases bF9 h1 with ⟨oa, ca, rfl, _, rfl, rfl⟩ | ⟨g, b1, rfl, hp, r1⟩
 ·clear hm;go_enter func121, ntmps121;go_wp2
  refine wp_loop_rounds 1 ?_;rw [rounds_succ];go_wp2
  go_ret;exact ⟨aR2 (by simp), Below.refl _ _⟩
 clear h1;have HM := hid hm;clear hm;go_enter func121, ntmps121;go_wp2
 go_loopw [1, 5] (fun q i wr => ∃ k : Nat, k ≤ n ∧ i = .int .i64 (k : Int) ∧ q = .int .i64 ((k0 : Int) + 2 * (k : Int)) ∧ Bw w wr) (fun _ i _ => n - (intOf i).toNat)
 case atStart => exact ⟨0, Nat.zero_le _, rfl, by simp, Below.refl _ _⟩
 case round =>
  obtain ⟨k, hk, rfl, rfl, a0⟩ := hrel;by_cases hlt : k < n
  rotate_left
  ·obtain rfl : k = n := by omega
   go_wp2
   go_ret;exact ⟨rfl, a0⟩
  have a3 : (k : Int) < (n : Int) := by omega
  have HA : Hid (∀ w0 w1, Bw w w0 → Below w0.heap.size w0 w1 → (w1.cell? ⟨g, k * 2, none⟩ = some (.string (aB0 (k0 + 2 * k))) ∧ w1.cell? ⟨g, k * 2 + 1, none⟩ = some (.string (aB0 (k0 + 2 * k + 1)))) ∧ Bw w w1) := fun w0 w1 h h' => by
   have hx := h.trans (h'.mono h.size)
   have a1 := (r1.below hx r1.lt).name k hlt
   have a2 := (r1.below hx r1.lt).val k hlt
   rw [(HM.out k hlt).1] at a1
   rw [(HM.out k hlt).2] at a2
   exact ⟨⟨a1, a2⟩, hx⟩
  obtain ⟨⟨a4, a5⟩, _⟩ := HA.out wr wr a0 (Below.refl _ _);go_wp2
  go_region_held3 (fun w' => w'.cell? ⟨g, k * 2, none⟩ = some (.string (aB0 (k0 + 2 * k)))) (first | assumption | go_keep) (first | (go_at_call 117; refine (aE7 _ (k0 + 2 * k) _ (by omega) (by omega) (by omega)).mono ?_; rintro e w1 ⟨rfl, a6⟩; obtain ⟨⟨a7, b2⟩, a8⟩ := HA.out _ w1 a0.drew a6))
  clear a4 a5 a7;go_wp2
  go_region_held3 (fun w' => w'.cell? ⟨g, k * 2 + 1, none⟩ = some (.string (aB0 (k0 + 2 * k + 1)))) (first | assumption | go_keep) (first | (go_at_call 117; refine (aE7 _ (k0 + 2 * k + 1) _ (by omega) (by omega) (by omega)).mono ?_; rintro e w2 ⟨rfl, a9⟩; obtain ⟨⟨b3, b4⟩, b0⟩ := HA.out _ w2 a8.drew a9))
  go_wp2
  go_roundw
  case rel => exact ⟨k + 1, by omega, by go_num, by first | go_num | (congr 1; omega), b0⟩
  case measure => simp [intOf]; omega
def cO8 (L : Int) (n : Nat) (fs : Fs) (b : Tx) (w : World) (e : Ending) (w' : World) : Prop :=
 ∃ r : Int, e = .returned (.int .i64 r) ∧ r ≤ L ∧ (0 ≤ r → r + (n : Int) ≤ L ∧ b.size ≤ 1048576 ∧ n ≤ 1048576 ∧ szTo fs n ≤ 1048576) ∧ Below w.heap.size w w'
theorem bY2 (L : Int) (hL0 : 0 ≤ L) (hL1 : L ≤ 1048576) (m : Int) (a : Oa) (n cap : Nat) (b : Tx) (fs : Fs) (w : World) (harg : ArgF w w.heap.size a n fs) (hn : n ≤ maxLen) (hsz : aK2 n fs) (hb : b.size ≤ maxLen) :
  Calls prog 30 #[.agg #[.int .i64 m, .slice a n cap, .string b], .int .i64 L] w fun e w' => cO8 L n fs b w e w' := by
 unfold maxLen at hb;obtain ⟨r, hr⟩ := exq (w.heap.size)
 have HR : Hid (∀ W, Below (w.alloc (.cells #[.int .i64 m, .slice a n cap, .string b] 32)).heap.size (w.alloc (.cells #[.int .i64 m, .slice a n cap, .string b] 32)) W → (W.cell? ⟨r, 1, none⟩ = some (.slice a n cap) ∧ W.cell? ⟨r, 2, none⟩ = some (.string b)) ∧ ArgF W w.heap.size a n fs ∧ w.heap.size ≤ W.heap.size ∧ Bw w W) := fun W h => by
  have hh := aT6 h
  rw [← hr] at hh
  exact ⟨⟨by simp [World.cell?, hh], by simp [World.cell?, hh]⟩, harg.below (aF8 h), (aF8 h).size, aF8 h⟩
 obtain ⟨⟨c2, c3⟩, a0, a5, _⟩ := HR.out _ (Below.refl _ _);have a6 := hid hsz;have HN := hid hn;have a2 := hid a0;clear harg hsz a0 hn;go_enter func30, ntmps30;rw [hr] at c2;go_wp2_with fail
 refine (bK2 L (by omega) (by omega) w.heap.size a n cap fs _ a2.out a5 HN.out a6.out).mono ?_;rintro e w1 ⟨x, rfl, a7, a3, a4⟩;clear c2 c3;obtain ⟨⟨c2, c3⟩, _, _, a1⟩ := HR.out w1 a4;rw [← hr];clear a4 hr;by_cases hx0 : x < 0
 ·clear a3;go_wp2_with fail
  go_ret;exact ⟨-1, rfl, by omega, fun h => absurd h (by omega), a1⟩
 obtain ⟨h0, h1, h2⟩ := a3 (by omega);by_cases d2 : x - (b.size : Int) < 0
 ·go_wp2_with fail
  go_ret;exact ⟨-1, rfl, by omega, fun h => absurd h (by omega), a1⟩
 go_wp2_with fail
 go_ret;exact ⟨_, rfl, by omega, fun _ => ⟨by omega, by omega, h1, h2⟩, a1⟩
theorem bE1 (m : Int) (v : Value) (b : Tx) (n base : Nat) (fs : Fs) (w : World) (h1 : w.ownsRow base 184 2 v n (aE4 fs)) (hb : base ≤ w.heap.size) (k0 : Nat) (hk0 : 1 ≤ k0) (hn : k0 + 2 * n ≤ 99999999) :
  Calls prog 55 #[.agg #[.int .i64 m, v, .string b], .int .i64 (k0 : Int)] w fun e w' => e = .returned (.int .i64 ((k0 : Int) + 2 * (n : Int))) ∧ w'.ownsRow base 184 2 v n (aE4 (mkG k0 fs n)) ∧ Below base w w' ∧ Far v w w' := by
 obtain ⟨oa, ca, rfl⟩ := aA0 h1;have h2 := h1.alloc (.cells #[.int .i64 m, .slice oa n ca, .string b] 49);have a1 : Below base w (w.alloc (.cells #[.int .i64 m, .slice oa n ca, .string b] 49)) := (Below.refl _ w).alloc hb _;have hs : base ≤ (w.alloc (.cells #[.int .i64 m, .slice oa n ca, .string b] 49)).heap.size := by simp; omega
 go_enter func55, ntmps55;go_wp2_with fail
 refine (bC9 _ n base fs _ h2 hs k0 hk0 hn).mono ?_;rintro e w1 ⟨rfl, ho, a2, a0⟩;have a3 := a1.trans a2;have HO : Hid _ := ho;have HF : Hid (Far (.slice oa n ca) w w1) := fun j hj a4 => (a0 j (by simp; omega) a4).trans (heap_alloc_old w _ hj)
 clear h1 h2 a1 hs a2 ho a0;go_wp2_with fail
 go_ret;exact ⟨rfl, HO.out, a3, HF.out⟩
theorem aA6 {W W' : World} {r : Nat} {o : Obj} (h : W.heap[r]? = some o) (b : Below W.heap.size W W') : W'.heap[r]? = some o := by
 rw [b.block r (blt h)]; exact h
theorem aJ7 {W : World} {r : Nat} {o : Obj} (h : W.heap[r]? = some o) (x : Obj) : (W.alloc x).heap[r]? = some o := by
 rw [Below.heap_alloc _ _ _ (blt h)]; exact h
theorem aA8 {W : World} {r : Nat} {cs : Array Value} {T t : TypeId} {base size n : Nat} {v : Value} {xs : List Value} (ho : W.ownsRow base t size v n xs) (h : W.heap[r]? = some (.cells cs T)) (hT : T ≠ t) (j : Nat) (hj : v.ownBlock = some j) : j ≠ r := fun e => by
 subst e
 rcases ho.2 with ⟨rfl, _⟩ | ⟨g, cap, cur, rfl, _, h1, _⟩
 · cases hj
 ·cases hj
  rw [h] at h1
  cases h1
  exact hT rfl
theorem bG7 {W W' : World} {r : Nat} {cs : Array Value} {T t : TypeId} {base size n : Nat} {v : Value} {xs : List Value} (h : W.heap[r]? = some (.cells cs T)) (far : Far v W W') (ho : W.ownsRow base t size v n xs) (hT : T ≠ t) : W'.heap[r]? = some (.cells cs T) := by
 rw [far r (blt h) (fun e => ?_)]
 ·exact h
 rcases ho.2 with ⟨rfl, _⟩ | ⟨g, a0, a1, rfl, _, h1, _⟩
 ·cases e
 cases e
 rw [h] at h1;cases h1
 exact hT rfl
theorem aA9 {W : World} {R : Nat} {cs : Array Value} {t : TypeId} (h : W.heap[R]? = some (.cells cs t)) (i : Nat) : W.cell? ⟨R, i, none⟩ = cs[i]? := by simp [World.cell?, h]
theorem aD3 {W : World} {R : Nat} {cs : Array Value} {t : TypeId} (h : W.heap[R]? = some (.cells cs t)) (i : Nat) : W.frozen? ⟨R, i, none⟩ = false := by simp [World.frozen?, h]
theorem aB3 {W : World} {b1 b2 z1 z2 n1 n2 : Nat} {t1 t2 : TypeId} {v1 v2 : Value} {xs ys : List Value} (h1 : W.ownsRow b1 t1 z1 v1 n1 xs) (h2 : W.ownsRow b2 t2 z2 v2 n2 ys) (ht : t1 ≠ t2) (j : Nat) (hj : v1.ownBlock = some j) : v2.ownBlock ≠ some j := fun e => by
 rcases h1.2 with ⟨rfl, _⟩ | ⟨g, cap, cur, rfl, _, k1, _⟩
 · cases hj
 ·cases hj
  rcases h2.2 with ⟨rfl, _⟩ | ⟨g2, cap2, cur2, rfl, _, k2, _⟩
  · cases e
  ·cases e
   rw [k1] at k2
   cases k2
   exact ht rfl
def SzTx (L : Int) (n : Nat) (xs : Ts) (w : World) (e : Ending) (w' : World) : Prop :=
 ∃ r : Int, e = .returned (.int .i64 r) ∧ r ≤ L ∧ (0 ≤ r → r + (n : Int) ≤ L ∧ n ≤ 1048576 ∧ ∀ i, i < n → (aA7 xs i).size ≤ 1048576) ∧ Below w.heap.size w w'
theorem aP6 (L : Int) (hL0 : 0 ≤ L) (hL1 : L ≤ 1048576) (B : Nat) (a : Oa) (n cap : Nat) (xs : Ts) (w : World) (harg : ArgT w B a n xs) (hB : B ≤ w.heap.size) (hn : n ≤ maxLen) (hsz : ∀ i, i < n → (aA7 xs i).size ≤ maxLen) :
  Calls prog 29 #[.slice a n cap, .int .i64 L] w fun e w' => SzTx L n xs w e w' := by
 unfold maxLen at hn;have HS := hid hsz;have HA : Hid (∀ W, Bw w W → ArgT W B a n xs) := fun W h => harg.below (h.mono hB)
 clear hsz harg;by_cases c1 : L - (n : Int) < 0
 ·go_enter func29, ntmps29;go_wp2
  go_ret;exact ⟨-1, rfl, by omega, fun h => absurd h (by omega), Below.refl _ _⟩
 go_enter func29, ntmps29;go_wp2
 go_loopw [1, 5] (fun l i wr => ∃ (k : Nat) (x : Int), k ≤ n ∧ i = .int .i64 (k : Int) ∧ l = .int .i64 x ∧ 0 ≤ x ∧ x + (n : Int) ≤ L ∧ Hid (∀ j, j < k → (aA7 xs j).size ≤ 1048576) ∧ Bw w wr) (fun _ i _ => n - (intOf i).toNat)
 case atStart => exact ⟨0, _, Nat.zero_le _, rfl, rfl, by omega, by omega, fun j hj => absurd hj (by omega), Below.refl _ _⟩
 case round =>
  obtain ⟨k, x, hk, rfl, rfl, a5, a1, HX, a0⟩ := hrel;by_cases hlt : k < n
  rotate_left
  ·have hF : Hid (n ≤ 1048576 ∧ ∀ i, i < n → (aA7 xs i).size ≤ 1048576) := ⟨by omega, fun i hi => HX.out i (by omega)⟩
   go_wp2
   go_ret;exact ⟨x, rfl, by omega, fun _ => ⟨a1, hF.out⟩, a0⟩
  have a2 : (k : Int) < (n : Int) := by omega
  obtain ⟨b, a6, rfl, a7, a3⟩ := (HA.out wr a0).get k hlt;have s1 := HS.out k hlt;obtain ⟨t, ht⟩ := exq (aA7 xs k);rw [← ht] at a3 s1;unfold maxLen at s1;by_cases d1 : x - (t.size : Int) < 0
  ·clear ht;go_wp2
   go_ret;exact ⟨-1, rfl, by omega, fun h => absurd h (by omega), a0⟩
  have a4 : Hid (∀ j, j < k + 1 → (aA7 xs j).size ≤ 1048576) := by
   intro j hj
   by_cases e : j = k
   ·rw [e, ← ht]; omega
   ·exact HX.out j (by omega)
  clear ht;go_wp2
  go_roundw
  case rel => exact ⟨k + 1, x - (t.size : Int), by omega, by go_num, by go_num, by omega, by omega, a4, a0⟩
  case measure => simp [intOf]; omega
theorem aJ8 {w : World} {B base : Nat} {e : TypeId} {size : Nat} {v : Value} {n : Nat} {xs : List Value} (h : w.ownsRow base e size v n xs) (hB : ∀ g, v.ownBlock = some g → B ≤ g) : w.ownsRow B e size v n xs := by
 refine ⟨h.1, ?_⟩;rcases h.2 with h0 | ⟨g, a0, a1, rfl, _, h1⟩
 ·exact .inl h0
 exact .inr ⟨g, a0, a1, rfl, hB g rfl, h1⟩
def mkT (k0 : Nat) (xs : Ts) : Nat → Ts
 | 0 => xs
 | i + 1 => (mkT k0 xs i).set i (aB0 (k0 + i))
theorem bG8 (k0 : Nat) (xs : Ts) : ∀ i, (mkT k0 xs i).length = xs.length
 | 0 => rfl
 | i + 1 => by rw [mkT, List.length_set, bG8 k0 xs i]
theorem cK5 (k0 : Nat) (xs : Ts) (j : Nat) (hj : j < xs.length) : ∀ i, j < i → aA7 (mkT k0 xs i) j = aB0 (k0 + j) := by
 intro i;induction i with
 | zero => intro h; omega
 | succ i ih =>
  intro h
  unfold aA7
  rw [mkT]
  by_cases e : i = j
  ·subst e
   rw [List.getD_eq_getElem?_getD, List.getElem?_set_self (by rw [bG8]; exact hj)]
   rfl
  rw [List.getD_eq_getElem?_getD, List.getElem?_set_ne (by exact e), ← List.getD_eq_getElem?_getD]
  exact ih (by omega)
theorem aL0 (v : Value) (n base : Nat) (xs : Ts) (w : World) (h1 : w.ownsRow base 9 1 v n (xs.map Value.string)) (hb : base ≤ w.heap.size) (k0 : Nat) (hk0 : 1 ≤ k0) (hn : k0 + n ≤ 99999998) :
  Calls prog 54 #[v, .int .i64 (k0 : Int)] w fun e w' => e = .returned (.int .i64 ((k0 : Int) + (n : Int))) ∧ w'.ownsRow base 9 1 v n ((mkT k0 xs n).map Value.string) ∧ Below base w w' ∧ Far v w w' := by
 rcases aQ4 h1 with ⟨oa, ca, rfl, rfl, rfl⟩ | ⟨g, cap, rfl, hp, r1⟩
 ·go_enter func54, ntmps54;go_wp2
  refine wp_loop_rounds 1 ?_;rw [rounds_succ];go_wp2
  go_ret;exact ⟨by simp, h1, Below.refl _ _, fun _ _ _ => rfl⟩
 clear h1;have a3 : Hid (aF2 base w g n cap xs) := r1;clear r1;go_enter func54, ntmps54;go_wp2
 go_loopw [1, 5] (fun k i wr => ∃ j : Nat, j ≤ n ∧ i = .int .i64 (j : Int) ∧ k = .int .i64 ((k0 : Int) + (j : Int)) ∧ Hid (w.grownBy wr (some g)) ∧ Hid (aF2 base wr g n cap (mkT k0 xs j))) (fun _ i _ => n - (intOf i).toNat)
 case atStart => exact ⟨0, Nat.zero_le _, rfl, by simp, World.grownBy.refl _ _, a3⟩
 case round =>
  obtain ⟨j, hj, rfl, rfl, HG, HR⟩ := hrel;by_cases hlt : j < n
  rotate_left
  ·obtain rfl : j = n := by omega
   go_wp2
   go_ret;have hg := HG.out;exact ⟨rfl, HR.out.owns, ⟨hg.os, hg.tape, hg.output, hg.size, fun i hi => hg.block i (Nat.lt_of_lt_of_le hi hb) (fun e => by have := HR.out.base; cases e; omega)⟩, fun i hi a2 => hg.block i hi (fun e => a2 e.symm)⟩
  have a4 : (j : Int) < (n : Int) := by omega
  go_wp2_with fail
  refine (aE7 _ (k0 + j) _ (by omega) (by omega) (by omega)).mono ?_;rintro e w1 ⟨rfl, a1⟩;have a0 := HR.out.below a1 HR.out.lt;have hc := a0.cell j hlt;have hf := a0.frozen j
  have a5 : Hid (w.grownBy (w1.setCell ⟨g, j, none⟩ (.string (aB0 (k0 + j)))) (some g)) := by
   have h0 := HG.out
   refine ⟨a1.os.trans h0.os, a1.tape.trans h0.tape, a1.output.trans h0.output, by rw [World.size_setCell]; exact Nat.le_trans h0.size a1.size, fun i hi a2 => ?_⟩
   rw [heap_setCell_other _ _ i _ (fun e => a2 (by rw [e]))]
   exact (a1.block i (Nat.lt_of_lt_of_le hi h0.size)).trans (h0.block i hi a2)
  have a6 : Hid (aF2 base (w1.setCell ⟨g, j, none⟩ (.string (aB0 (k0 + j)))) g n cap (mkT k0 xs (j + 1))) := a0.set j hlt _;clear a1 HG HR a0;go_wp2
  go_roundw
  case rel => exact ⟨j + 1, by omega, by go_num, by go_num, a5, a6⟩
  case measure => simp [intOf]; omega
theorem aT8 (v : Value) (n base : Nat) (xs : Ts) (w : World) (h1 : w.ownsRow base 9 1 v n (xs.map Value.string)) (k0 : Nat) (hk0 : 1 ≤ k0) (hn : k0 + n ≤ 99999998) (hm : ∀ j, j < n → aA7 xs j = aB0 (k0 + j)) :
  Calls prog 119 #[v, .int .i64 (k0 : Int)] w fun e w' => e = .returned (.int .i64 ((k0 : Int) + (n : Int))) ∧ Below w.heap.size w w' := by
 rcases aQ4 h1 with ⟨oa, ca, rfl, rfl, rfl⟩ | ⟨g, a4, rfl, hp, r1⟩
 ·clear hm;go_enter func119, ntmps119;go_wp2
  refine wp_loop_rounds 1 ?_;rw [rounds_succ];go_wp2
  go_ret;exact ⟨by simp, Below.refl _ _⟩
 clear h1;have HM := hid hm;clear hm;go_enter func119, ntmps119;go_wp2
 go_loopw [1, 5] (fun k i wr => ∃ j : Nat, j ≤ n ∧ i = .int .i64 (j : Int) ∧ k = .int .i64 ((k0 : Int) + (j : Int)) ∧ Bw w wr) (fun _ i _ => n - (intOf i).toNat)
 case atStart => exact ⟨0, Nat.zero_le _, rfl, by simp, Below.refl _ _⟩
 case round =>
  obtain ⟨j, hj, rfl, rfl, a0⟩ := hrel;by_cases hlt : j < n
  rotate_left
  ·obtain rfl : j = n := by omega
   go_wp2
   go_ret;exact ⟨rfl, a0⟩
  have a3 : (j : Int) < (n : Int) := by omega
  have hc : wr.cell? ⟨g, j, none⟩ = some (.string (aB0 (k0 + j))) := by
   rw [← HM.out j hlt]; exact (r1.below a0 r1.lt).cell j hlt
  have a1 : ∀ w1, Below wr.heap.size wr w1 → w1.cell? ⟨g, j, none⟩ = some (.string (aB0 (k0 + j))) := fun w1 h => by
   rw [h.cell (p := ⟨g, j, none⟩) (by have := a0.size; have := r1.lt; show g < _; omega)]; exact hc
  have HA : Hid _ := a1;clear a1;go_wp2
  go_region_with (go_at_call 117; refine (aE7 _ (k0 + j) _ (by omega) (by omega) (by omega)).mono ?_; rintro e w1 ⟨rfl, a2⟩; have a5 := HA.out w1 (((Below.refl _ wr).drew).trans a2))
  all_goals
   go_wp2
   go_roundw
   case rel => exact ⟨j + 1, by omega, by go_num, by go_num, (a0.drew).trans (a2.mono a0.size)⟩
   case measure => simp [intOf]; omega
structure KpD where
 p : ByteArray
 xs : Ts
 ys : Ts
 st : Int
 fs : Fs
 b : ByteArray
 t : Int
 a : Int
 q : Int
abbrev Ks := List (KpD × Value × Value × Value)
def kpC (x : KpD × Value × Value × Value) : List Value := [.string x.1.p, x.2.1, x.2.2.1, .int .i64 x.1.st, x.2.2.2, .string x.1.b, .int .i64 x.1.t, .int .i64 x.1.a, .int .i64 x.1.q]
theorem aV4 (x : KpD × Value × Value × Value) : (kpC x).length = 9 := rfl
def kpN (x : KpD × Value × Value × Value) : Rw := ⟨9, 1, x.2.1, x.1.xs.length, x.1.xs.map Value.string⟩
def kpV (x : KpD × Value × Value × Value) : Rw := ⟨9, 1, x.2.2.1, x.1.ys.length, x.1.ys.map Value.string⟩
def kpF (x : KpD × Value × Value × Value) : Rw := ⟨184, 2, x.2.2.2, x.1.fs.length, aE4 x.1.fs⟩
def kpR (x : KpD × Value × Value × Value) : List Rw := [kpN x, kpV x, kpF x]
def aH2 (V : Value) (kv : Ks) : Rw := ⟨82, 9, V, kv.length, kv.flatMap kpC⟩
def aC9 (V : Value) (kv : Ks) : List Rw := aH2 V kv :: kv.flatMap kpR
def aB9 (w : World) (base : Nat) (V : Value) (kv : Ks) : Prop := aA2 w base (aC9 V kv)
theorem aB9.row {w : World} {base : Nat} {V : Value} {kv : Ks} (h : aB9 w base V kv) : w.ownsRow base 82 9 V kv.length (kv.flatMap kpC) := h.own (aH2 V kv) (by simp [aC9])
theorem aB9.names {w : World} {base : Nat} {V : Value} {kv : Ks} (h : aB9 w base V kv) {x : KpD × Value × Value × Value} (hx : x ∈ kv) : w.ownsRow base 9 1 x.2.1 x.1.xs.length (x.1.xs.map Value.string) := h.own (kpN x) (List.mem_cons_of_mem _ (List.mem_flatMap.2 ⟨x, hx, by simp [kpR]⟩))
theorem aB9.vals {w : World} {base : Nat} {V : Value} {kv : Ks} (h : aB9 w base V kv) {x : KpD × Value × Value × Value} (hx : x ∈ kv) : w.ownsRow base 9 1 x.2.2.1 x.1.ys.length (x.1.ys.map Value.string) := h.own (kpV x) (List.mem_cons_of_mem _ (List.mem_flatMap.2 ⟨x, hx, by simp [kpR]⟩))
theorem aB9.flds {w : World} {base : Nat} {V : Value} {kv : Ks} (h : aB9 w base V kv) {x : KpD × Value × Value × Value} (hx : x ∈ kv) : w.ownsRow base 184 2 x.2.2.2 x.1.fs.length (aE4 x.1.fs) := h.own (kpF x) (List.mem_cons_of_mem _ (List.mem_flatMap.2 ⟨x, hx, by simp [kpR]⟩))
theorem aB9.below {w w' : World} {base : Nat} {V : Value} {kv : Ks} (h : aB9 w base V kv) (hb : Below w.heap.size w w') : aB9 w' base V kv := aA2.below h hb
structure KpAt (w : World) (g i : Nat) (x : KpD × Value × Value × Value) : Prop where
 c0 : w.cell? ⟨g, i * 9, none⟩ = some (.string x.1.p)
 c1 : w.cell? ⟨g, i * 9 + 1, none⟩ = some x.2.1
 c2 : w.cell? ⟨g, i * 9 + 2, none⟩ = some x.2.2.1
 c3 : w.cell? ⟨g, i * 9 + 3, none⟩ = some (.int .i64 x.1.st)
 c4 : w.cell? ⟨g, i * 9 + 4, none⟩ = some x.2.2.2
 c5 : w.cell? ⟨g, i * 9 + 5, none⟩ = some (.string x.1.b)
 c6 : w.cell? ⟨g, i * 9 + 6, none⟩ = some (.int .i64 x.1.t)
 c7 : w.cell? ⟨g, i * 9 + 7, none⟩ = some (.int .i64 x.1.a)
 c8 : w.cell? ⟨g, i * 9 + 8, none⟩ = some (.int .i64 x.1.q)
theorem aB9.at {w : World} {base : Nat} {V : Value} {kv : Ks} (h : aB9 w base V kv) (i : Nat) (hi : i < kv.length) : ∃ g cap, V = .slice (some ⟨g, 0, none⟩) kv.length cap ∧ g < w.heap.size ∧ KpAt w g i (kv[i]'hi) := by
 have hr := h.row;rcases hr.2 with ⟨_, h0⟩ | ⟨g, cap, a1, rfl, _, h1, _⟩
 ·omega
 have a0 : ∀ j, j < 9 → ∀ u, (kpC (kv[i]'hi))[j]? = some u → w.cell? ⟨g, i * 9 + j, none⟩ = some u := fun j hj u hu => (bB4 hr (i * 9 + j) u (by rw [bE7 kpC 9 aV4 kv i j hi hj]; exact hu)).1
 exact ⟨g, cap, rfl, (blt h1), ⟨a0 0 (by decide) _ rfl, a0 1 (by decide) _ rfl, a0 2 (by decide) _ rfl, a0 3 (by decide) _ rfl, a0 4 (by decide) _ rfl, a0 5 (by decide) _ rfl, a0 6 (by decide) _ rfl, a0 7 (by decide) _ rfl, a0 8 (by decide) _ rfl⟩⟩
theorem aB9.len {w : World} {base : Nat} {V : Value} {kv : Ks} (h : aB9 w base V kv) : ∃ oa cp, V = .slice oa kv.length cp := aA0 h.row
theorem bY3 (y0 : Int) (y1 : Tx) (w : World) :
  Calls prog 135 #[.agg #[.int .i64 y0, .string y1]] w fun e w' => e = .returned (.agg #[.int .i64 y0, .string y1]) ∧ Below w.heap.size w w' := by
 have K0 := jnil w;go_enter func135, ntmps135;go_upto_region 1 with fail
 obtain ⟨q1, a5⟩ := exq (w.heap.size);obtain ⟨w1, a0⟩ := exq (w.alloc (.cells #[.int .i64 y0, .string y1] 154));have a6 := a5.symm;rw [← a0]; try rw [← a5];have b7 := hsa a0 a6;have bw := bal a0;have K1 := ja K0 a0 a6;clear bw a0 a6 K0;obtain ⟨q2, a7⟩ := exq (q1 + 1);obtain ⟨w2, a1⟩ := exq (w1.alloc (.cells #[.int .i64 0, .string ⟨#[]⟩] 155));have a8 : w1.heap.size = q2 := by rw [a7]; exact b7
 rw [← a1]; try rw [← a7];have b8 := hsa a1 a8;have bw := bal a1;have K2 := ja K1 a1 a8;clear bw a1 a8 K1;clear b8 a7 b7 a5;go_upto_region 2 with fail
 obtain ⟨q3, a9⟩ := exq (w2.heap.size);obtain ⟨w3, a2⟩ := exq (w2.alloc (.cells #[.int .i64 0, .string ⟨#[]⟩] 155));have b0 := a9.symm;rw [← a2]; try rw [← a9];have b9 := hsa a2 b0;have bw := bal a2;have K3 := ja K2 a2 b0;clear bw a2 b0 K2;clear b9 a9;have b1 := c2c (jb K3 2 rfl);have a3 := c2f (jb K3 0 rfl);go_upto_region 3 with fail
 obtain ⟨w4, b2⟩ := exq (w3.setCell ⟨q3, 0, none⟩ (.int .i64 y0));rw [← b2];have K4 := js K3 0 b2;clear b2 K3;clear b1 a3;have b3 := c2c (jb K4 2 rfl);have b4 := c2f (jb K4 0 rfl);go_upto_region 4 with fail
 obtain ⟨w5, b5⟩ := exq (w4.setCell ⟨q3, 1, none⟩ (.string y1));rw [← b5];have K5 := js K4 0 b5;clear b5 K4;clear b3 b4;have c0 := c2f (jb K5 1 rfl);have a3 := c2c (jb K5 0 rfl);go_wp2_with fail
 obtain ⟨w7, b6⟩ := exq ((w5.setCell ⟨q2, 0, none⟩ (.int .i64 y0)).setCell ⟨q2, 1, none⟩ (.string y1));rw [← b6];have K7 := jss K5 1 [(0, _), (1, _)] b6;clear b6 K5;have a4 := c2c (jb K7 1 rfl);refine bodyPost_ret (v := .agg #[.int .i64 y0, .string y1]) (by simp [results, results135, go_sem, a4]) rfl ?_;exact ⟨rfl, K7.hb⟩
def cS2 (L : Int) (y1 : Tx) (w : World) (e : Ending) (w' : World) : Prop := ∃ r : Int, e = .returned (.int .i64 r) ∧ r ≤ L ∧ (0 ≤ r → y1.size ≤ 1048576) ∧ Below w.heap.size w w'
theorem bY4 (L : Int) (hL0 : 0 ≤ L) (hL1 : L ≤ 1048576) (y0 : Int) (y1 : Tx) (w : World) (hy1 : y1.size ≤ maxLen) :
  Calls prog 128 #[.agg #[.int .i64 y0, .string y1], .int .i64 L] w fun e w' => cS2 L y1 w e w' := by
 unfold maxLen at hy1;have K0 := jnil w;go_enter func128, ntmps128;go_upto_region 1 with fail
 obtain ⟨q1, a1⟩ := exq (w.heap.size);obtain ⟨w1, a0⟩ := exq (w.alloc (.cells #[.int .i64 y0, .string y1] 154));have a2 := a1.symm;rw [← a0]; try rw [← a1];have a3 := hsa a0 a2;have bw := bal a0;have K1 := ja K0 a0 a2;clear bw a0 a2 K0;clear a3 a1;have a4 := c2c (jb K1 0 rfl);by_cases hc1 : (L - (y1.size : Int)) < 0
 rotate_left
 ·go_wp2_with fail
  go_ret;exact ⟨_, rfl, by omega, fun _ => (by omega), K1.hb⟩
 go_wp2_with fail
 go_ret;exact ⟨-1, rfl, by omega, fun h => absurd h (by omega), K1.hb⟩
theorem bY5 (y0 : Int) (y1 : Tx) (w : World) :
  Calls prog 151 #[.agg #[.int .i64 y0, .string y1], .agg #[.int .i64 y0, .string y1]] w fun e w' => e = .returned (.bool true) ∧ Below w.heap.size w w' := by
 have a7 : (y0 != y0) = false := by simp
 have a8 : (y1.toList != y1.toList) = false := by simp
 have K0 := jnil w;go_enter func151, ntmps151;go_upto_region 1 with fail
 obtain ⟨q1, a2⟩ := exq (w.heap.size);obtain ⟨w1, a0⟩ := exq (w.alloc (.cells #[.int .i64 y0, .string y1] 155));have a3 := a2.symm;rw [← a0]; try rw [← a2];have a6 := hsa a0 a3;have bw := bal a0;have K1 := ja K0 a0 a3;clear bw a0 a3 K0;obtain ⟨q2, a4⟩ := exq (q1 + 1);obtain ⟨w2, a1⟩ := exq (w1.alloc (.cells #[.int .i64 y0, .string y1] 155));have a5 : w1.heap.size = q2 := by rw [a4]; exact a6
 rw [← a1]; try rw [← a4];have a9 := hsa a1 a5;have bw := bal a1;have K2 := ja K1 a1 a5;clear bw a1 a5 K1;clear a9 a4 a6 a2;have b0 := c2c (jb K2 1 rfl);have b1 := c2c (jb K2 0 rfl);go_wp2_with fail
 go_ret;exact ⟨rfl, K2.hb⟩
theorem aT9 {w : World} {base : Nat} {t : TypeId} {size g n cap : Nat} {xs : List Value} (h : w.ownsRow base t size (.slice (some ⟨g, 0, none⟩) n cap) n xs) (o : Nat) (u : Value) : (w.setCell ⟨g, o, none⟩ u).ownsRow base t size (.slice (some ⟨g, 0, none⟩) n cap) n (xs.set o u) := by
 obtain ⟨hl, hv⟩ := h;refine ⟨by simpa using hl, ?_⟩;rcases hv with ⟨e, _⟩ | ⟨g', a0, a1, e, h1, h2, h3, h4, h5, h6⟩
 ·cases e
 cases e
 refine .inr ⟨g, cap, _, rfl, h1, aC2 w g o a1 t (0, 0) u h2, h3, h4, by simpa using h5, ?_⟩;rw [Array.toList_setIfInBounds, List.take_set, h6]
theorem aY5 {w : World} {base : Nat} {t : TypeId} {size g n cap : Nat} {xs : List Value} (h : w.ownsRow base t size (.slice (some ⟨g, 0, none⟩) n cap) n xs) (o : Nat) (u : Value) (ho : xs[o]? = some u) : w.cell? ⟨g, o, none⟩ = some u ∧ w.frozen? ⟨g, o, none⟩ = false := by
 obtain ⟨hl, hv⟩ := h;rcases hv with ⟨e, _⟩ | ⟨g', a0, a1, e, h1, h2, h3, h4, h5, h6⟩
 ·cases e
 cases e
 refine ⟨?_, by simp [World.frozen?, h2]⟩;rw [← h6, List.getElem?_take] at ho;split at ho
 ·simpa [World.cell?, h2] using ho
 cases ho
theorem aJ9 {w : World} {base : Nat} {t : TypeId} {size n cap : Nat} {oa : Oa} {xs : List Value} (h : w.ownsRow base t size (.slice oa n cap) n xs) (hn : 0 < n) : ∃ g, oa = some ⟨g, 0, none⟩ := by
 rcases h.2 with ⟨e, h0⟩ | ⟨g, a0, a1, e, _⟩
 ·omega
 cases e; exact ⟨g, rfl⟩
def aC6 (l : List (Int × ByteArray)) (i : Nat) : (Int × ByteArray) := l.getD i (0, ⟨#[]⟩)
def aL1 (x : (Int × ByteArray)) : List Value := [.int .i64 x.1, .string x.2]
def aA1 (l : List (Int × ByteArray)) : List Value := l.flatMap aL1
theorem aL2 (l : List (Int × ByteArray)) : (aA1 l).length = l.length * 2 := by
 induction l with
 | nil => rfl
 | cons f r ih => simp only [aA1, aL1, List.flatMap_cons, List.length_append, List.length_cons, List.length_nil] at ih ⊢; omega
theorem aL3 : ∀ (l : List (Int × ByteArray)) (i : Nat), i < l.length → (aA1 l)[i * 2]? = some (.int .i64 ((aC6 l i).1)) ∧ (aA1 l)[i * 2 + 1]? = some (.string ((aC6 l i).2))
 | [], i, h => by simp at h
 | f :: r, 0, _ => by simp [aA1, aL1, aC6]
 | f :: r, i + 1, h => by
  have ih := aL3 r i (by simpa using h)
  have e : aA1 (f :: r) = aL1 f ++ aA1 r := rfl
  have hl : (aL1 f).length = 2 := rfl
  have h2 : aC6 (f :: r) (i + 1) = aC6 r i := by simp [aC6]
  have key : ∀ j, (aA1 (f :: r))[i * 2 + 2 + j]? = (aA1 r)[i * 2 + j]? := fun j => by
   rw [e, List.getElem?_append_right (by rw [hl]; omega), hl]; congr 1; omega
  rw [h2]
  refine ⟨(by rw [show (i + 1) * 2 = i * 2 + 2 + 0 by omega, key]; exact ih.1), (by rw [show (i + 1) * 2 + 1 = i * 2 + 2 + 1 by omega, key]; exact ih.2)⟩
theorem aI7 (l : List (Int × ByteArray)) (i : Nat) (h : i < l.length) : aC6 l i ∈ l := by
 unfold aC6;rw [List.getD_eq_getElem?_getD, List.getElem?_eq_getElem h];exact List.getElem_mem h
theorem aQ5 (l : List (Int × ByteArray)) (i : Nat) (h : i < l.length) : l.take (i + 1) = l.take i ++ [aC6 l i] := by
 unfold aC6;rw [List.getD_eq_getElem?_getD, List.getElem?_eq_getElem h, List.take_succ_eq_append_getElem h];rfl
theorem aU9 (a b : List (Int × ByteArray)) : aA1 (a ++ b) = aA1 a ++ aA1 b := by simp [aA1]
theorem aR3 (l : List (Int × ByteArray)) : ∀ u ∈ aA1 l, u.oneCell' = true := by
 intro u hu;obtain ⟨x, _, hx⟩ := List.mem_flatMap.1 hu;simp only [aL1, List.mem_cons, List.not_mem_nil, or_false] at hx
 rcases hx with rfl | rfl <;> rfl
theorem aZ6 (x : (Int × ByteArray)) : aA1 [x] = aL1 x := by simp [aA1]
def aP7 (w : World) (oa : Oa) (n : Nat) (l : List (Int × ByteArray)) : Prop :=
 l.length = n ∧ ∀ i, i < n → ∃ g, oa = some ⟨g, 0, none⟩ ∧ g < w.heap.size ∧ w.cell? ⟨g, i * 2, none⟩ = some (.int .i64 ((aC6 l i).1)) ∧ w.cell? ⟨g, i * 2 + 1, none⟩ = some (.string ((aC6 l i).2))
theorem aP7.below {w W : World} {oa : Oa} {n : Nat} {l : List (Int × ByteArray)} (h : aP7 w oa n l) (hb : Below w.heap.size w W) : aP7 W oa n l :=
 ⟨h.1, fun i hi => by
  obtain ⟨g, h1, h2, r0, r1⟩ := h.2 i hi
  exact ⟨g, h1, Nat.lt_of_lt_of_le h2 hb.size, by rw [hb.cell (p := ⟨g, i * 2, none⟩) h2]; exact r0, by rw [hb.cell (p := ⟨g, i * 2 + 1, none⟩) h2]; exact r1⟩⟩
def aG9 (w : World) (B : Nat) (a : Oa) (n : Nat) (l : List (Int × ByteArray)) : Prop :=
 l.length = n ∧ ∀ i, i < n → ∃ b off, a = some ⟨b, off, none⟩ ∧ b < B ∧ w.cell? ⟨b, off + i * 2, none⟩ = some (.int .i64 ((aC6 l i).1)) ∧ w.cell? ⟨b, off + i * 2 + 1, none⟩ = some (.string ((aC6 l i).2))
theorem aG9.below {w w' : World} {B : Nat} {a : Oa} {n : Nat} {l : List (Int × ByteArray)} (h : aG9 w B a n l) (hb : Below B w w') : aG9 w' B a n l :=
 ⟨h.1, fun i hi => by
  obtain ⟨b, off, h1, h2, r0, r1⟩ := h.2 i hi
  exact ⟨b, off, h1, h2, by rw [hb.cell (p := ⟨b, off + i * 2, none⟩) h2]; exact r0, by rw [hb.cell (p := ⟨b, off + i * 2 + 1, none⟩) h2]; exact r1⟩⟩
def aE2 (w : World) (g n k : Nat) (l : List (Int × ByteArray)) : Prop :=
 ∃ cur, w.heap[g]? = some (.cells cur 155 (0, 0)) ∧ cur.size = n * 2 ∧ ∀ i, i < k → cur[i * 2]? = some (.int .i64 ((aC6 l i).1)) ∧ cur[i * 2 + 1]? = some (.string ((aC6 l i).2))
theorem aE2.below {w w' : World} {g n k B : Nat} {l : List (Int × ByteArray)} (h : aE2 w g n k l) (hb : Below B w w') (hB : g < B) : aE2 w' g n k l := by
 obtain ⟨a0, h1, h2⟩ := h;exact ⟨a0, by rw [hb.block g hB]; exact h1, h2⟩
theorem aE2.lt {w : World} {g n k : Nat} {l : List (Int × ByteArray)} (h : aE2 w g n k l) : g < w.heap.size := by
 obtain ⟨a0, h1, _⟩ := h;exact (blt h1)
theorem aE2.cell {w : World} {g n k : Nat} {l : List (Int × ByteArray)} (h : aE2 w g n k l) (j : Nat) (hj : j < n * 2) : ∃ u, w.cell? ⟨g, j, none⟩ = some u := by
 obtain ⟨a0, h1, h2, _⟩ := h;refine ⟨a0[j]'(by omega), ?_⟩;simp only [World.cell?, h1]
 simp [show j < a0.size by omega]
theorem aE2.frozen {w : World} {g n k : Nat} {l : List (Int × ByteArray)} (h : aE2 w g n k l) (j : Nat) : w.frozen? ⟨g, j, none⟩ = false := by
 obtain ⟨a0, h1, _⟩ := h;simp [World.frozen?, h1]
theorem aE2.put {w : World} {g n k : Nat} {l : List (Int × ByteArray)} (h : aE2 w g n k l) (hk : k < n) : aE2 ((w.setCell ⟨g, k * 2, none⟩ (.int .i64 (aC6 l k).1)).setCell ⟨g, k * 2 + 1, none⟩ (.string (aC6 l k).2)) g n (k + 1) l := by
 obtain ⟨a0, h1, h2, h3⟩ := h;refine ⟨_, aC2 _ g (k * 2 + 1) _ _ _ _ (aC2 _ g (k * 2) _ _ _ _ h1), by simpa using h2, ?_⟩;intro i hi;by_cases e : i = k
 ·subst e;exact ⟨by rw [Array.getElem?_setIfInBounds_ne (by omega), Array.getElem?_setIfInBounds_self_of_lt (by first | omega | (simp; omega))], by rw [Array.getElem?_setIfInBounds_self_of_lt (by first | omega | (simp; omega))]⟩
 have := h3 i (by omega);exact ⟨by rw [Array.getElem?_setIfInBounds_ne (by omega), Array.getElem?_setIfInBounds_ne (by omega)]; exact this.1, by rw [Array.getElem?_setIfInBounds_ne (by omega), Array.getElem?_setIfInBounds_ne (by omega)]; exact this.2⟩
theorem aE2.owns {w : World} {g n : Nat} {l : List (Int × ByteArray)} (h : aE2 w g n n l) (hl : l.length = n) (hm : n ≤ maxLen) {base : Nat} (hb : base ≤ g) : w.ownsRow base 155 2 (.slice (some ⟨g, 0, none⟩) n n) n (aA1 l) := by
 obtain ⟨a1, hg, hs, hc⟩ := h;refine ⟨by rw [aL2, hl], .inr ⟨g, n, a1, rfl, hb, hg, Nat.le_refl _, hm, hs, ?_⟩⟩;apply List.ext_getElem?
 intro j;rw [List.getElem?_take];by_cases hj : j < n * 2
 rotate_left
 ·rw [if_neg hj, List.getElem?_eq_none (by rw [aL2]; omega)]
 rw [if_pos hj];have hf := aL3 l (j / 2) (by omega);have a0 := hc (j / 2) (by omega);have hr : j = (j / 2) * 2 ∨ j = (j / 2) * 2 + 1 := by omega
 rcases hr with e | e
 ·have e2 := hf.1;have e3 := a0.1;rw [← e] at e2 e3;rw [e2]; simpa using e3
 have e2 := hf.2;have e3 := a0.2;rw [← e] at e2 e3;rw [e2]; simpa using e3
theorem aG3 {w : World} {base n cap : Nat} {oa : Oa} {l : List (Int × ByteArray)} (h : w.ownsRow base 155 2 (.slice oa n cap) n (aA1 l)) : aP7 w oa n l := by
 obtain ⟨hl, hv⟩ := h;rw [aL2] at hl;refine ⟨by omega, fun i hi => ?_⟩
 rcases hv with ⟨e, h0⟩ | ⟨g, cap, a1, e, hb, hg, hn, hm, a2, a0⟩
 ·omega
 cases e
 have hf := aL3 l i (by omega);rw [← a0] at hf;simp only [List.getElem?_take] at hf
 rw [if_pos (by omega), if_pos (by omega)] at hf;refine ⟨g, rfl, (blt hg), by simp only [World.cell?, hg]; simpa using hf.1, by simp only [World.cell?, hg]; simpa using hf.2⟩
theorem aN4 {w : World} {base n : Nat} {v : Value} {l : List (Int × ByteArray)} (h : w.ownsRow base 155 2 v n (aA1 l)) : l.length = n := by
 have := h.1;rw [aL2] at this;omega
theorem aV5 : (prog.info? 155).map (fun i => (i.zero, i.size, i.bytes)) = some (some (.agg #[.int .i64 0, .string ⟨#[]⟩]), 2, 24) := by kernel_rfl
def cO9 (L : Int) (n : Nat) (l : List (Int × ByteArray)) (w : World) (e : Ending) (w' : World) : Prop :=
 ∃ r : Int, e = .returned (.int .i64 r) ∧ r ≤ L ∧ (0 ≤ r → r + (n : Int) ≤ L ∧ n ≤ 1048576 ∧ ∀ x ∈ l, (x.2).size ≤ 1048576) ∧ Below w.heap.size w w'
theorem bP1 (L : Int) (hL0 : 0 ≤ L) (hL1 : L ≤ 1048576) (B : Nat) (a : Oa) (n cap : Nat) (l : List (Int × ByteArray)) (w : World) (harg : aG9 w B a n l) (hB : B ≤ w.heap.size) (hn : n ≤ maxLen) (hsz : ∀ x ∈ l, (x.2).size ≤ maxLen) :
  Calls prog 64 #[.slice a n cap, .int .i64 L] w fun e w' => cO9 L n l w e w' := by
 unfold maxLen at hn;have HS := hid hsz;have a1 : Hid (l.length = n) := harg.1;have HA : Hid (∀ W, Bw w W → aG9 W B a n l) := fun W h => harg.below (h.mono hB)
 clear hsz harg;by_cases c1 : L - (n : Int) < 0
 ·go_enter func64, ntmps64;go_wp2
  go_ret;exact ⟨-1, rfl, by omega, fun h => absurd h (by omega), Below.refl _ _⟩
 go_enter func64, ntmps64;go_wp2
 go_loopw [1, 5] (fun lf i wr => ∃ (k : Nat) (x : Int), k ≤ n ∧ i = .int .i64 (k : Int) ∧ lf = .int .i64 x ∧ 0 ≤ x ∧ x + (n : Int) ≤ L ∧ Hid (∀ x ∈ l.take k, (x.2).size ≤ 1048576) ∧ Hid (Bw w wr)) (fun _ i _ => n - (intOf i).toNat)
 case atStart => exact ⟨0, _, Nat.zero_le _, rfl, rfl, by omega, by omega, fun x hx => by simp at hx, Below.refl _ _⟩
 case round =>
  obtain ⟨k, x, hk, rfl, rfl, a4, a8, HX, a0⟩ := hrel;by_cases hlt : k < n
  rotate_left
  ·have HF : Hid (n ≤ 1048576 ∧ ∀ x ∈ l, (x.2).size ≤ 1048576) := ⟨by omega, fun x hx => HX.out x (by rw [List.take_of_length_le (by rw [a1.out]; omega)]; exact hx)⟩
   go_wp2
   go_ret;exact ⟨x, rfl, by omega, fun _ => ⟨by omega, HF.out⟩, a0.out⟩
  have a5 : (k : Int) < (n : Int) := by omega
  obtain ⟨b, a9, rfl, b0, r0, r1⟩ := (HA.out wr a0.out).2 k hlt;obtain ⟨y, hy⟩ := exq (aC6 l k);have HM : Hid (y ∈ l) := by show _ ∈ _; rw [hy]; exact aI7 l k (by rw [a1.out]; exact hlt)
  have a6 : Hid (l.take (k + 1) = l.take k ++ [y]) := by show _ = _; rw [hy]; exact aQ5 l k (by rw [a1.out]; exact hlt)
  have s1 := HS.out y HM.out;rw [← hy] at r0 r1;clear hy;obtain ⟨y0, y1⟩ := y;go_wp2_with fail
  refine (bY4 x a4 (by omega) y0 y1 _ s1).mono ?_;rintro e w1 ⟨r, rfl, b1, a2, bw⟩;have a3 : Hid (Bw w w1) := a0.out.trans (bw.mono a0.out.size);clear r0 r1 bw;by_cases d1 : r < 0
  ·clear a2;go_wp2
   go_ret;exact ⟨-1, rfl, by omega, fun h => absurd h (by omega), a3.out⟩
  have a7 : Hid (∀ x ∈ l.take (k + 1), (x.2).size ≤ 1048576) := fun x hx => by
   rw [a6.out] at hx
   rcases List.mem_append.1 hx with hx | hx
   ·exact HX.out x hx
   ·rw [List.mem_singleton.1 hx]; exact a2 (by omega)
  clear a2;go_wp2
  go_roundw
  case rel => exact ⟨k + 1, r, by omega, by go_num, rfl, by omega, by omega, a7, a3⟩
  case measure => simp [intOf]; omega
theorem bT7 (B : Nat) (a : Oa) (n cap : Nat) (l : List (Int × ByteArray)) (w : World) (harg : aG9 w B a n l) (hB : B ≤ w.heap.size) (hn : n ≤ 1048576) :
  Calls prog 74 #[.slice a n cap] w fun e w' => ∃ v, e = .returned v ∧ w'.ownsRow w.heap.size 155 2 v n (aA1 l) ∧ Below w.heap.size w w' := by
 obtain ⟨i0, hi, a4, a5, a6⟩ := info_parts aV5;obtain ⟨M, hM⟩ : ∃ M, M = madeCells (Value.agg #[.int .i64 0, .string ⟨#[]⟩]).cells (((n : Nat) : Int).toNat * i0.size) := ⟨_, rfl⟩
 have b1 : ∀ W : World, (Instr.makeSlice 37 (.int .i64 (n : Int)) (.int .i64 (n : Int))).run prog W = .ok (.slice (some ⟨W.heap.size, 0, none⟩) n n) (W.alloc (.cells M 155)) := fun W => by
  have h := run_make (P := prog) W 37 155 i0 (.agg #[.int .i64 0, .string ⟨#[]⟩]) underlying37 hi a4 .i64 .i64 (n : Int) (n : Int) (by omega) (by omega) (by rw [a6]; omega) (by omega)
  rw [← hM] at h
  simpa using h
 have a7 : M.size = n * 2 := by rw [hM, size_madeCells, a5]; simp
 have a8 : Hid (l.length = n) := harg.1;have HA : Hid (∀ W, Bw w W → aG9 W B a n l) := fun W h => harg.below (h.mono hB)
 clear hM harg;have HP : Hid (aE2 (w.alloc (.cells M 155)) w.heap.size n 0 l) := ⟨M, heap_alloc_new w _, a7, fun i h => absurd h (by omega)⟩
 go_enter func74, ntmps74;go_wp2
 go_loopw [4] (fun i wr => ∃ k : Nat, k ≤ n ∧ i = .int .i64 (k : Int) ∧ Hid (aE2 wr w.heap.size n k l) ∧ Hid (Bw w wr)) (fun i _ => n - (intOf i).toNat)
 case atStart => exact ⟨0, Nat.zero_le _, rfl, HP, (Below.refl _ _).alloc (Nat.le_refl _) _⟩
 case round =>
  obtain ⟨k, hk, rfl, a2, a1⟩ := hrel;by_cases hlt : k < n
  rotate_left
  ·obtain rfl : k = n := by omega
   go_wp2
   go_ret;exact ⟨_, rfl, a2.out.owns a8.out (by unfold maxLen; omega) (Nat.le_refl _), a1.out⟩
  have a9 : (k : Int) < (n : Int) := by omega
  obtain ⟨b, b2, rfl, b3, r0, r1⟩ := (HA.out wr a1.out).2 k hlt;obtain ⟨y, hy⟩ := exq (aC6 l k);rw [← hy] at r0 r1;have HY : Hid (aC6 l k = y) := hy.symm;clear hy;obtain ⟨y0, y1⟩ := y;go_wp2_with fail
  refine (bY3 y0 y1 _).mono ?_;rintro e w1 ⟨rfl, bw⟩;have a0 := a2.out.below bw a2.out.lt;have b0 : Hid (Bw w w1) := a1.out.trans (bw.mono a1.out.size);obtain ⟨u0, b4⟩ := a0.cell (k * 2) (by omega);have f0 := a0.frozen (k * 2);obtain ⟨u1, b5⟩ := a0.cell (k * 2 + 1) (by omega);have f1 := a0.frozen (k * 2 + 1);have hput := a0.put hlt;rw [HY.out] at hput;have a3 : Hid _ := hput;clear hput r0 r1 bw;go_wp2
  go_roundw
  case rel => exact ⟨k + 1, by omega, by go_num, a3, (b0.out.setCell (Nat.le_refl _) _).setCell (Nat.le_refl _) _⟩
  case measure => simp [intOf]; omega
theorem bT8 (o1 o2 : Oa) (n c1 c2 : Nat) (l : List (Int × ByteArray)) (w : World) (h1 : aP7 w o1 n l) (h2 : aP7 w o2 n l) (hn : n ≤ 2000000) :
  Calls prog 83 #[.slice o1 n c1, .slice o2 n c2] w fun e w' => e = .returned (.bool true) ∧ Below w.heap.size w w' := by
 have H1 : Hid (∀ W, Bw w W → aP7 W o1 n l) := fun W h => h1.below h
 have H2 : Hid (∀ W, Bw w W → aP7 W o2 n l) := fun W h => h2.below h
 clear h1 h2;go_enter func83, ntmps83;go_wp2
 go_loopw [5] (fun i wr => ∃ k : Nat, k ≤ n ∧ i = .int .i64 (k : Int) ∧ Hid (Bw w wr)) (fun i _ => n - (intOf i).toNat)
 case atStart => exact ⟨0, Nat.zero_le _, rfl, Below.refl _ _⟩
 case round =>
  obtain ⟨k, hk, rfl, a2⟩ := hrel;by_cases hlt : k < n
  rotate_left
  ·go_wp2
   go_ret;exact ⟨rfl, a2.out⟩
  have a5 : (k : Int) < (n : Int) := by omega
  obtain ⟨y, hy⟩ := exq (aC6 l k);obtain ⟨g1, rfl, a3, a0, a1⟩ := (H1.out wr a2.out).2 k hlt;obtain ⟨g2, rfl, a4, b0, b1⟩ := (H2.out wr a2.out).2 k hlt;rw [← hy] at a0 b0 a1 b1;clear hy;obtain ⟨y0, y1⟩ := y
  have HA : Hid (∀ w0 w1, Below wr.heap.size wr w0 → Below w0.heap.size w0 w1 → (w1.cell? ⟨g1, k * 2, none⟩ = some (.int .i64 y0) ∧ w1.cell? ⟨g1, k * 2 + 1, none⟩ = some (.string y1) ∧ w1.cell? ⟨g2, k * 2, none⟩ = some (.int .i64 y0) ∧ w1.cell? ⟨g2, k * 2 + 1, none⟩ = some (.string y1)) ∧ Below wr.heap.size wr w1) := fun w0 w1 h h' => by
   have hx := h.trans (h'.mono h.size)
   exact ⟨⟨by rw [hx.cell (p := ⟨g1, k * 2, none⟩) a3]; exact a0, by rw [hx.cell (p := ⟨g1, k * 2 + 1, none⟩) a3]; exact a1, by rw [hx.cell (p := ⟨g2, k * 2, none⟩) a4]; exact b0, by rw [hx.cell (p := ⟨g2, k * 2 + 1, none⟩) a4]; exact b1⟩, hx⟩
  go_wp2
  go_region_held3 (fun w' => w'.cell? ⟨g1, k * 2, none⟩ = some (.int .i64 y0) ∧ w'.cell? ⟨g1, k * 2 + 1, none⟩ = some (.string y1) ∧ w'.cell? ⟨g2, k * 2, none⟩ = some (.int .i64 y0) ∧ w'.cell? ⟨g2, k * 2 + 1, none⟩ = some (.string y1)) (first | assumption | go_keep) (first | (go_at_call 151; refine (bY5 _ _ _).mono ?_; rintro e w1 ⟨rfl, a6⟩; obtain ⟨a8, a7⟩ := HA.out _ w1 ((Below.refl _ wr).drew) a6))
  go_wp2
  go_roundw
  case rel => exact ⟨k + 1, by omega, by go_num, a2.out.trans (a7.mono a2.out.size)⟩
  case measure => simp [intOf]; omega
theorem aZ7 : ∀ (l : List (Int × ByteArray)) (i : Nat) (x : (Int × ByteArray)), i < l.length → aA1 (l.set i x) = ((aA1 l).set (i * 2) (.int .i64 x.1)).set (i * 2 + 1) (.string x.2)
 | [], i, x, h => by simp at h
 | f :: r, 0, x, _ => rfl
 | f :: r, i + 1, x, h => by
  have ih := aZ7 r i x (by simpa using h)
  have e : ∀ (m : List Value) (o : Nat) (u : Value), (aL1 f ++ m).set (2 + o) u = aL1 f ++ m.set o u := fun m o u => by rw [Nat.add_comm]; rfl
  have e0 : aA1 (f :: r) = aL1 f ++ aA1 r := rfl
  have e1 : aA1 ((f :: r).set (i + 1) x) = aL1 f ++ aA1 (r.set i x) := rfl
  rw [e1, ih, e0, show (i + 1) * 2 = 2 + i * 2 by omega, show 2 + i * 2 + 1 = 2 + (i * 2 + 1) by omega, e, e]
theorem bY6 (l : List (Int × ByteArray)) (k j : Nat) (x : (Int × ByteArray)) (hk : k < l.length) : aC6 (l.set k x) j = if j = k then x else aC6 l j := by
 unfold aC6;rw [List.getD_eq_getElem?_getD, List.getElem?_set, List.getD_eq_getElem?_getD];by_cases h : j = k
 ·subst h; simp [hk]
 rw [if_neg h, if_neg (fun e => h e.symm)]
def aE6 (k0 : Nat) (l : List (Int × ByteArray)) : Nat → List (Int × ByteArray)
 | 0 => l
 | k + 1 => (aE6 k0 l k).set k (((k0 + 2 * k + 0 : Nat) : Int), (aB0 (k0 + 2 * k + 1)))
theorem aP8 (k0 : Nat) (l : List (Int × ByteArray)) : ∀ k, (aE6 k0 l k).length = l.length
 | 0 => rfl
 | k + 1 => by rw [aE6, List.length_set, aP8 k0 l k]
theorem cF5 (k0 : Nat) (l : List (Int × ByteArray)) (j : Nat) : ∀ k, k ≤ l.length → j < k → aC6 (aE6 k0 l k) j = (((k0 + 2 * j + 0 : Nat) : Int), (aB0 (k0 + 2 * j + 1))) := by
 intro k;induction k with
 | zero => intro _ h; omega
 | succ k ih =>
  intro hk h
  rw [aE6, bY6 _ _ _ _ (by rw [aP8]; omega)]
  by_cases e : j = k
  ·subst e; rw [if_pos rfl]
  rw [if_neg e]; exact ih (by omega) (by omega)
theorem bK3 (oa : Oa) (n cap base : Nat) (l : List (Int × ByteArray)) (w : World) (h1 : w.ownsRow base 155 2 (.slice oa n cap) n (aA1 l)) (hb : base ≤ w.heap.size) (k0 : Nat) (hk0 : 1 ≤ k0) (hn : k0 + 2 * n ≤ 99999999) :
  Calls prog 84 #[.slice oa n cap, .int .i64 (k0 : Int)] w fun e w' => e = .returned (.int .i64 ((k0 : Int) + 2 * (n : Int))) ∧ w'.ownsRow base 155 2 (.slice oa n cap) n (aA1 (aE6 k0 l n)) ∧ Below base w w' ∧ Far (.slice oa n cap) w w' := by
 have a4 : Hid (l.length = n) := aN4 h1;have H1 := hid h1;clear h1;go_enter func84, ntmps84;go_wp2
 go_loopw [1, 5] (fun q i wr => ∃ k : Nat, k ≤ n ∧ i = .int .i64 (k : Int) ∧ q = .int .i64 ((k0 : Int) + 2 * (k : Int)) ∧ Hid (Below base w wr) ∧ Hid (wr.ownsRow base 155 2 (.slice oa n cap) n (aA1 (aE6 k0 l k))) ∧ Hid (∀ j, j < w.heap.size → (Value.slice oa n cap).ownBlock ≠ some j → wr.heap[j]? = w.heap[j]?)) (fun _ i _ => n - (intOf i).toNat)
 case atStart => exact ⟨0, Nat.zero_le _, rfl, by simp, Below.refl _ _, H1, fun j _ _ => rfl⟩
 case round =>
  obtain ⟨k, hk, rfl, rfl, HB, HO, HF⟩ := hrel;by_cases hlt : k < n
  rotate_left
  ·obtain rfl : k = n := by omega
   go_wp2
   go_ret;exact ⟨rfl, HO.out, HB.out, HF.out⟩
  have a9 : (k : Int) < (n : Int) := by omega
  obtain ⟨g, rfl⟩ := aJ9 H1.out (by omega);have HG : Hid (base ≤ g) := aB7 H1.out rfl;have q0 := (aL3 (aE6 k0 l k) k (by rw [aP8, a4.out]; exact hlt)).1;have b0 : Hid _ := q0;clear q0;have q1 := (aL3 (aE6 k0 l k) k (by rw [aP8, a4.out]; exact hlt)).2;have b1 : Hid _ := q1;clear q1;obtain ⟨c0, f0⟩ := aY5 HO.out (k * 2) _ (by exact b0.out);have a1 : (k0 : Int) + 2 * (k : Int) = ((k0 + 2 * k + 0 : Nat) : Int) := by omega
  rw [a1];clear a1;have b2 : Hid (((wr.setCell ⟨g, k * 2, none⟩ (.int .i64 ((k0 + 2 * k + 0 : Nat) : Int)))).ownsRow base 155 2 (.slice (some ⟨g, 0, none⟩) n cap) n ((aA1 (aE6 k0 l k)).set (k * 2) (.int .i64 ((k0 + 2 * k + 0 : Nat) : Int)))) := aT9 HO.out _ _;have a5 : Hid (Below base w (wr.setCell ⟨g, k * 2, none⟩ (.int .i64 ((k0 + 2 * k + 0 : Nat) : Int)))) := HB.out.setCell (p := ⟨g, k * 2, none⟩) HG.out _;have b3 : Hid (∀ j, j < w.heap.size → (Value.slice (some ⟨g, 0, none⟩) n cap).ownBlock ≠ some j → ((wr.setCell ⟨g, k * 2, none⟩ (.int .i64 ((k0 + 2 * k + 0 : Nat) : Int)))).heap[j]? = w.heap[j]?) := fun j hj a0 => (heap_setCell_other _ _ j _ (fun e => a0 (by rw [e]; rfl))).trans (HF.out j hj a0)
  go_wp2_with fail
  refine (aE7 _ (k0 + 2 * k + 1) _ (by omega) (by omega) (by omega)).mono ?_;rintro e u1 ⟨rfl, a3⟩;have a2 := hown b2 a3;have a6 : Hid (Below base w u1) := a5.out.trans (a3.mono (Nat.le_trans hb a5.out.size));have a7 : Hid (∀ j, j < w.heap.size → (Value.slice (some ⟨g, 0, none⟩) n cap).ownBlock ≠ some j → (u1).heap[j]? = w.heap[j]?) := fun j hj a0 => (a3.block j (Nat.lt_of_lt_of_le hj a5.out.size)).trans (b3.out j hj a0)
  clear a3 c0 f0;obtain ⟨c1, f1⟩ := aY5 a2.out (k * 2 + 1) _ (by rw [List.getElem?_set_ne (by omega)]; exact b1.out);have b4 : Hid ((((u1).setCell ⟨g, k * 2 + 1, none⟩ (.string (aB0 (k0 + 2 * k + 1))))).ownsRow base 155 2 (.slice (some ⟨g, 0, none⟩) n cap) n (((aA1 (aE6 k0 l k)).set (k * 2) (.int .i64 ((k0 + 2 * k + 0 : Nat) : Int))).set (k * 2 + 1) (.string (aB0 (k0 + 2 * k + 1))))) := aT9 a2.out _ _;have b5 : Hid (Below base w ((u1).setCell ⟨g, k * 2 + 1, none⟩ (.string (aB0 (k0 + 2 * k + 1))))) := a6.out.setCell (p := ⟨g, k * 2 + 1, none⟩) HG.out _;have b6 : Hid (∀ j, j < w.heap.size → (Value.slice (some ⟨g, 0, none⟩) n cap).ownBlock ≠ some j → (((u1).setCell ⟨g, k * 2 + 1, none⟩ (.string (aB0 (k0 + 2 * k + 1))))).heap[j]? = w.heap[j]?) := fun j hj a0 => (heap_setCell_other _ _ j _ (fun e => a0 (by rw [e]; rfl))).trans (a7.out j hj a0)
  have a8 : Hid (aA1 (aE6 k0 l (k + 1)) = ((aA1 (aE6 k0 l k)).set (k * 2) (.int .i64 ((k0 + 2 * k + 0 : Nat) : Int))).set (k * 2 + 1) (.string (aB0 (k0 + 2 * k + 1)))) := by
   show _ = _
   rw [aE6, aZ7 _ _ _ (by rw [aP8, a4.out]; exact hlt)]
  go_wp2
  go_roundw
  case rel => exact ⟨k + 1, by omega, by go_num, by first | go_num | (congr 1; omega), b5.out, by show World.ownsRow _ _ _ _ _ _ _; rw [a8.out]; exact b4.out, b6.out⟩
  case measure => simp [intOf]; omega
theorem bK4 (oa : Oa) (n cap base : Nat) (l : List (Int × ByteArray)) (w : World) (h1 : w.ownsRow base 155 2 (.slice oa n cap) n (aA1 l)) (k0 : Nat) (hk0 : 1 ≤ k0) (hn : k0 + 2 * n ≤ 99999999) (hm : ∀ j, j < n → (aC6 l j).1 = ((k0 + 2 * j + 0 : Nat) : Int) ∧ (aC6 l j).2 = (aB0 (k0 + 2 * j + 1))) :
  Calls prog 120 #[.slice oa n cap, .int .i64 (k0 : Int)] w fun e w' => e = .returned (.int .i64 ((k0 : Int) + 2 * (n : Int))) ∧ Below w.heap.size w w' := by
 have H1 : Hid (∀ W, Bw w W → W.ownsRow base 155 2 (.slice oa n cap) n (aA1 l)) := fun W h => aC1 h1 h (fun g hg => aA5 h1 hg)
 have HM := hid hm;clear h1 hm;go_enter func120, ntmps120;go_wp2
 go_loopw [1, 5] (fun q i wr => ∃ k : Nat, k ≤ n ∧ i = .int .i64 (k : Int) ∧ q = .int .i64 ((k0 : Int) + 2 * (k : Int)) ∧ Hid (Bw w wr)) (fun _ i _ => n - (intOf i).toNat)
 case atStart => exact ⟨0, Nat.zero_le _, rfl, by simp, Below.refl _ _⟩
 case round =>
  obtain ⟨k, hk, rfl, rfl, HB⟩ := hrel;by_cases hlt : k < n
  rotate_left
  ·obtain rfl : k = n := by omega
   go_wp2
   go_ret;exact ⟨rfl, HB.out⟩
  have a4 : (k : Int) < (n : Int) := by omega
  obtain ⟨g, rfl⟩ := aJ9 (H1.out w (Below.refl _ _)) (by omega)
  have HA : Hid (∀ w0 w1, Bw w w0 → Below w0.heap.size w0 w1 → (w1.cell? ⟨g, k * 2, none⟩ = some (.int .i64 ((k0 + 2 * k + 0 : Nat) : Int)) ∧ w1.cell? ⟨g, k * 2 + 1, none⟩ = some (.string (aB0 (k0 + 2 * k + 1)))) ∧ Bw w w1) := fun w0 w1 h h' => by
   have hx := h.trans (h'.mono h.size)
   obtain ⟨g', e, _, a0, a1⟩ := (aG3 (H1.out w1 hx)).2 k hlt
   cases e
   obtain ⟨m0, m1⟩ := HM.out k hlt
   rw [m0] at a0
   rw [m1] at a1
   exact ⟨⟨a0, a1⟩, hx⟩
  obtain ⟨⟨e0, e1⟩, _⟩ := HA.out wr wr HB.out (Below.refl _ _);have a5 : ((((k0 + 2 * k + 0 : Nat) : Int)) != ((k0 : Int) + 2 * (k : Int))) = false := by first | (simp; done) | (simp; omega)
  go_wp2
  go_region_held3 (fun w' => w'.cell? ⟨g, k * 2 + 1, none⟩ = some (.string (aB0 (k0 + 2 * k + 1)))) (first | assumption | go_keep) (first | (go_at_call 117; refine (aE7 _ (k0 + 2 * k + 1) _ (by omega) (by omega) (by omega)).mono ?_; rintro e u1 ⟨rfl, a6⟩; obtain ⟨⟨e0, e1⟩, a2⟩ := HA.out _ u1 (HB.out).drew a6))
  have a3 := hid a2;clear a2;go_wp2
  go_roundw
  case rel => exact ⟨k + 1, by omega, by go_num, by first | go_num | (congr 1; omega), a3⟩
  case measure => simp [intOf]; omega
theorem cF6 {H : Type} {enc : TypeId × Value → H} {W : World} {fuel : Nat} {a : Oa} {n cap : Nat} {x : DataW H × List MemPlace} (h : DataW.trod enc prog W 0 (fun _ => true) true fuel 23 [.slice a n cap] = some x) :
  ∃ l, aG9 W W.heap.size a n l ∧ n ≤ maxLen ∧ ∀ x ∈ l, (x.2).size ≤ maxLen := by
 rcases Go.Deep.open_slice underlying23 h with ⟨a1, _⟩ | ⟨ad, b1, c, m, q, Dd, Pl, a1, _, hl, hm, a5, _, hx⟩
 ·simp at a1
  obtain ⟨rfl, rfl, rfl⟩ := a1;exact ⟨[], ⟨rfl, fun i hi => absurd hi (by omega)⟩, Nat.zero_le _, fun x hx => by simp at hx⟩
 simp at a1
 obtain ⟨rfl, rfl, rfl⟩ := a1;have b2 : m = cap := by simpa using a5
 have ce : prog.cellsOf 154 = 2 := by kernel_rfl
 have ci : prog.cellsOf 3 = 1 := by kernel_rfl
 have cs : prog.cellsOf 9 = 1 := by kernel_rfl
 have a2 : ∀ i, i < n → ∃ y : (Int × ByteArray), (W.cell? (ad.add (i * 2 + 0)) = some (.int .i64 (y.1)) ∧ W.cell? (ad.add (i * 2 + 1)) = some (.string (y.2))) ∧ (y.2).size ≤ maxLen := by
  intro i hi
  obtain ⟨a6, h1, h2⟩ := hx i (by omega)
  rw [ce] at h1
  obtain ⟨_, a3, a0⟩ := World.cells?_some h1
  obtain ⟨xs, k, hk, b3, _, a7, hf⟩ := DataW.trod_struct underlying154 h2
  match xs, a7, a6, a3 with
  | [x0, x1], _, [v0, v1], _ =>
   have g0 := hf 0 _ rfl
   have g1 := hf 1 _ rfl
   simp [ci, cs] at g0 g1
   obtain ⟨s0, e0, _, _⟩ := DataW.trod_int underlying3 g0
   obtain ⟨s1, e1, _, z1⟩ := DataW.trod_string underlying9 g1
   simp only [List.cons.injEq, and_true] at e0 e1
   subst e0 e1
   have c0 := a0 0 (by omega)
   have c1 := a0 1 (by omega)
   rw [Go.Deep.add_add] at c0 c1
   exact ⟨(s0, s1), ⟨by simpa using c0, by simpa using c1⟩, z1⟩
 obtain ⟨q, hq⟩ := Go.Deep.choose_lt a2
 have a8 : ∀ i, i < n → aC6 ((List.range n).map q) i = q i := fun i hi => by
  unfold aC6
  rw [List.getD_eq_getElem?_getD, List.getElem?_map, List.getElem?_range hi]
  rfl
 refine ⟨(List.range n).map q, ⟨by simp, fun i hi => ?_⟩, by omega, fun x hx => ?_⟩
 ·obtain ⟨c0, _⟩ := hq i hi;obtain ⟨c3, _⟩ := hq 0 (by omega)
  have a4 : ad.spot = none := by
   have := World.cell?_spot c3.1
   simpa [Addr.add] using this
  clear c3;obtain ⟨b, a9, sp⟩ := ad;simp only at a4
  subst a4;simp only [aZ5] at c0
  rw [a8 i hi];have b0 := World.block_lt_of_cell? W _ c0.1;exact ⟨b, a9, rfl, b0, by simpa [Nat.add_assoc] using c0.1, by simpa [Nat.add_assoc] using c0.2⟩
 obtain ⟨i, hi, rfl⟩ := List.mem_map.1 hx;exact (hq i (List.mem_range.1 hi)).2
end Go.Proofs.YtejoifianjgefaaGreatDoor
