/- What the proof of FnExactMount leans on: contracts of the program's and the specification's functions, and plain facts (part 2 of 12). -/
import Derived.Test.YtiobfnpmidjijaaGreatDoorFnExactMountA
set_option maxHeartbeats 16000000
set_option maxRecDepth 100000
namespace Go.Proofs.YtiobfnpmidjijaaGreatDoor
open Go.Proofs.Tryz
open Go.RowKit
open Go.Lib hiding intOf
def aD0 (fs : Fs) (i : Nat) : ByteArray := (fs.getD i (⟨#[]⟩, ⟨#[]⟩)).1
def aH7 (fs : Fs) (i : Nat) : ByteArray := (fs.getD i (⟨#[]⟩, ⟨#[]⟩)).2
def aE5 (fs : Fs) : List Value := fs.flatMap (fun f => [Value.string f.1, Value.string f.2])
theorem bO0 (fs : Fs) : (aE5 fs).length = fs.length * 2 := by
 induction fs with
 | nil => rfl
 | cons f r ih => simp only [aE5, List.flatMap_cons, List.length_append, List.length_cons, List.length_nil] at ih ⊢; omega
theorem bO1 : ∀ (fs : Fs) (i : Nat), i < fs.length → (aE5 fs)[i * 2]? = some (.string (aD0 fs i)) ∧ (aE5 fs)[i * 2 + 1]? = some (.string (aH7 fs i))
 | [], i, h => by simp at h
 | f :: r, 0, _ => by simp [aE5, aD0, aH7]
 | f :: r, i + 1, h => by
  have ih := bO1 r i (by simpa using h)
  have e : aE5 (f :: r) = Value.string f.1 :: Value.string f.2 :: aE5 r := rfl
  rw [e, show (i + 1) * 2 = i * 2 + 2 by omega, show i * 2 + 2 + 1 = (i * 2 + 1) + 2 by omega]
  simp only [List.getElem?_cons_succ]
  exact ih
structure aF6 (base : Nat) (w : World) (g n cap : Nat) (fs : Fs) : Prop where
 len : fs.length = n
 base : base ≤ g
 lt : g < w.heap.size
 le : n ≤ cap
 mx : cap ≤ maxLen
 heap : ∃ cur, w.heap[g]? = some (.cells cur 232 (0, 0)) ∧ cur.size = cap * 2 ∧ ∀ i, i < n → cur[i * 2]? = some (.string (aD0 fs i)) ∧ cur[i * 2 + 1]? = some (.string (aH7 fs i))
theorem aF6.name {base : Nat} {w : World} {g n cap : Nat} {fs : Fs} (h : aF6 base w g n cap fs) (i : Nat) (hi : i < n) : w.cell? ⟨g, i * 2, none⟩ = some (.string (aD0 fs i)) := by
 obtain ⟨a0, hg, _, hc⟩ := h.heap;simp only [World.cell?, hg]
 simpa using (hc i hi).1
theorem aF6.val {base : Nat} {w : World} {g n cap : Nat} {fs : Fs} (h : aF6 base w g n cap fs) (i : Nat) (hi : i < n) : w.cell? ⟨g, i * 2 + 1, none⟩ = some (.string (aH7 fs i)) := by
 obtain ⟨a0, hg, _, hc⟩ := h.heap;simp only [World.cell?, hg]
 simpa using (hc i hi).2
theorem aF6.frozen {base : Nat} {w : World} {g n cap : Nat} {fs : Fs} (h : aF6 base w g n cap fs) (i : Nat) : w.frozen? ⟨g, i, none⟩ = false := by
 obtain ⟨a0, hg, _⟩ := h.heap;simp [World.frozen?, hg]
theorem aF6.below {base B : Nat} {w w' : World} {g n cap : Nat} {fs : Fs} (h : aF6 base w g n cap fs) (hb : Below B w w') (hB : g < B) : aF6 base w' g n cap fs := by
 obtain ⟨a0, hg, hc⟩ := h.heap;have := hb.size; have := h.lt;exact ⟨h.len, h.base, by omega, h.le, h.mx, a0, by rw [hb.block g hB]; exact hg, hc⟩
theorem bO2 {w : World} {base n : Nat} {v : Value} {fs : Fs} (h : w.ownsRow base 232 2 v n (aE5 fs)) :
  (∃ oa cap, v = .slice oa 0 cap ∧ (oa = none → cap = 0) ∧ n = 0 ∧ fs = []) ∨ ∃ g cap, v = .slice (some ⟨g, 0, none⟩) n cap ∧ 0 < n ∧ aF6 base w g n cap fs := by
 obtain ⟨hl, hv⟩ := h;rw [bO0] at hl;rcases hv with ⟨rfl, h0⟩ | ⟨g, cap, a0, rfl, hb, hg, hn, hm, a1, a2⟩
 ·exact .inl ⟨none, 0, rfl, fun _ => rfl, h0, List.length_eq_zero_iff.1 (by omega)⟩
 by_cases h0 : n = 0
 ·subst h0;exact .inl ⟨_, _, rfl, (fun h => by cases h), rfl, List.length_eq_zero_iff.1 (by omega)⟩
 refine .inr ⟨g, cap, rfl, by omega, by omega, hb, (blt hg), hn, hm, a0, hg, a1, ?_⟩;intro i hi;have hf := bO1 fs i (by omega);rw [← a2, List.getElem?_take, List.getElem?_take, if_pos (by omega), if_pos (by omega)] at hf;simpa using hf
theorem aF6.owns {base : Nat} {w : World} {g n cap : Nat} {fs : Fs} (h : aF6 base w g n cap fs) : w.ownsRow base 232 2 (.slice (some ⟨g, 0, none⟩) n cap) n (aE5 fs) := by
 obtain ⟨a1, hg, hs, hc⟩ := h.heap;have hl := h.len; have a2 := h.le;refine ⟨by rw [bO0, hl], .inr ⟨g, cap, a1, rfl, h.base, hg, h.le, h.mx, hs, ?_⟩⟩;apply List.ext_getElem?
 intro j;rw [List.getElem?_take];by_cases hj : j < n * 2
 rotate_left
 ·rw [if_neg hj, List.getElem?_eq_none (by rw [bO0]; omega)]
 rw [if_pos hj];have hf := bO1 fs (j / 2) (by omega);have a0 := hc (j / 2) (by omega);rcases Nat.mod_two_eq_zero_or_one j with e | e
 ·have e2 : j / 2 * 2 = j := by omega
  rw [e2] at hf a0;rw [hf.1]; simpa using a0.1
 have e2 : j / 2 * 2 + 1 = j := by omega
 rw [e2] at hf a0;rw [hf.2]; simpa using a0.2
def aB4 (w : World) (base : Nat) (v : Value) (n : Nat) (fs : Fs) : Prop :=
 (∃ oa cap, v = .slice oa 0 cap ∧ (oa = none → cap = 0) ∧ n = 0 ∧ fs = []) ∨ ∃ g cap, v = .slice (some ⟨g, 0, none⟩) n cap ∧ 0 < n ∧ aF6 base w g n cap fs
def atF : Fs → ByteArray → Nat
 | [], _ => 0
 | f :: r, name => if f.1 = name then 0 else atF r name + 1
theorem dA0 : ∀ (fs : Fs) (name : Tx), atF fs name ≤ fs.length
 | [], _ => Nat.le_refl _
 | f :: r, name => by
  rw [atF]
  split
  · exact Nat.zero_le _
  · have := dA0 r name; simp; omega
theorem bH9 : ∀ (fs : Fs) (name : Tx) (j : Nat), j < atF fs name → aD0 fs j ≠ name
 | [], _, j, h => by simp [atF] at h
 | f :: r, name, j, h => by
  rw [atF] at h
  split at h
  · omega
  ·rename_i hne
   cases j with
   | zero => simpa [aD0] using hne
   | succ j => have := bH9 r name j (by omega); simpa [aD0] using this
theorem cB8 : ∀ (fs : Fs) (name : Tx), atF fs name < fs.length → aD0 fs (atF fs name) = name
 | [], _, h => by simp [atF] at h
 | f :: r, name, h => by
  rw [atF] at h ⊢
  split
  · rename_i he; simpa [aD0] using he
  ·rename_i hne
   rw [if_neg hne] at h
   have := cB8 r name (by simpa using h)
   simpa [aD0] using this
theorem cQ9 {fs : Fs} {name : ByteArray} {k : Nat} (hk : k < fs.length) (hb : ∀ j, j < k → aD0 fs j ≠ name) (he : aD0 fs k = name) : atF fs name = k := by
 rcases Nat.lt_trichotomy (atF fs name) k with h | h | h
 ·exact absurd (cB8 fs name (by omega)) (hb _ h)
 ·exact h
 exact absurd he (bH9 fs name k h)
theorem cR0 {fs : Fs} {name : ByteArray} (hb : ∀ j, j < fs.length → aD0 fs j ≠ name) : atF fs name = fs.length := by
 rcases Nat.lt_or_ge (atF fs name) fs.length with h | h
 ·exact absurd (cB8 fs name h) (hb _ h)
 have := dA0 fs name; omega
def atI (fs : Fs) (name : Tx) : Int := if atF fs name < fs.length then (atF fs name : Int) else -1
theorem cB9 (v : Value) (n base : Nat) (fs : Fs) (name : Tx) (w : World) (hv : aB4 w base v n fs) (hn : n ≤ 1073741824) :
  Calls prog 191 #[v, .string name] w fun e w' => e = .returned (.int .i64 (atI fs name)) ∧ w' = w := by
 rcases hv with ⟨oa, ca, rfl, _, rfl, rfl⟩ | ⟨g, a2, rfl, hp, a0⟩
 ·have hT : Hid (atI [] name = -1) := rfl;go_enter func191, ntmps191;go_wp2
  refine wp_loop_rounds 1 ?_;rw [rounds_succ];go_wp2
  go_ret;exact ⟨by rw [hT.out]; rfl, rfl⟩
 have hl := a0.len;go_enter func191, ntmps191;go_wp2
 go_loop [5] (fun i => ∃ k : Nat, k ≤ n ∧ i = .int .i64 (k : Int) ∧ Hid (∀ j, j < k → aD0 fs j ≠ name)) (fun i => n - (intOf i).toNat)
 case atStart => exact ⟨0, Nat.zero_le _, rfl, fun j h => absurd h (by omega)⟩
 case round =>
  obtain ⟨k, hk, rfl, hb⟩ := hrel;by_cases hlt : k < n
  rotate_left
  ·have hT : Hid (atI fs name = -1) := by
    have := cR0 (fs := fs) (name := name) (fun j hj => hb.out j (by omega))
    show _ = _
    unfold atI; rw [this, if_neg (by omega)]
   go_wp2
   go_ret;exact ⟨by rw [hT.out]; rfl, rfl⟩
  have hc := a0.name k hlt;have a1 : (k : Int) < (n : Int) := by omega
  by_cases he : aD0 fs k = name
  ·have hT : Hid (atI fs name = (k : Int)) := by
    have := cQ9 (by omega) hb.out he
    show _ = _
    unfold atI; rw [this, if_pos (by omega)]
   have ht : ((aD0 fs k).toList == name.toList) = true := (aD3 _ _).2 he;clear he;go_wp2
   go_ret;exact ⟨by rw [hT.out]; rfl, rfl⟩
  have ht : ((aD0 fs k).toList == name.toList) = false := by
   rcases Bool.eq_false_or_eq_true ((aD0 fs k).toList == name.toList) with h | h
   ·exact absurd ((aD3 _ _).1 h) he
   ·exact h
  have HE := hid he;clear he;go_wp2
  go_round
  case rel =>
   refine ⟨k + 1, by omega, by go_num, ?_⟩;intro j hj;by_cases e : j = k
   ·subst e; exact HE.out
   exact hb.out j (by omega)
  case measure => simp [intOf]; omega
theorem aB4.of_owns {w : World} {base n : Nat} {v : Value} {fs : Fs} (h : w.ownsRow base 232 2 v n (aE5 fs)) : aB4 w base v n fs := bO2 h
theorem aB4.below {w w' : World} {base n : Nat} {v : Value} {fs : Fs} (h : aB4 w base v n fs) (hb : Below w.heap.size w w') : aB4 w' base v n fs := by
 rcases h with h | ⟨g, a0, h1, h2, h3⟩
 ·exact .inl h
 exact .inr ⟨g, a0, h1, h2, h3.below hb h3.lt⟩
theorem aB4.len {w : World} {base n : Nat} {v : Value} {fs : Fs} (h : aB4 w base v n fs) : fs.length = n := by
 rcases h with ⟨_, _, _, _, rfl, rfl⟩ | ⟨_, _, _, _, h⟩
 ·rfl
 exact h.len
theorem aB4.slice {w : World} {base n : Nat} {v : Value} {fs : Fs} (h : aB4 w base v n fs) :
  ∃ oa cap, v = .slice oa n cap ∧ ∀ k, k < n → ∃ g, oa = some ⟨g, 0, none⟩ ∧ aF6 base w g n cap fs := by
 rcases h with ⟨oa, ca, rfl, _, rfl, rfl⟩ | ⟨g, cap, rfl, hp, a0⟩
 ·exact ⟨oa, ca, rfl, fun k hk => absurd hk (by omega)⟩
 exact ⟨_, cap, rfl, fun k _ => ⟨g, rfl, a0⟩⟩
def getV (fs : Fs) (name : Tx) : ByteArray := if atF fs name < fs.length then aH7 fs (atF fs name) else ⟨#[]⟩
def getB (fs : Fs) (name : Tx) : Bool := decide (atF fs name < fs.length)
theorem bO3 (v : Value) (n base : Nat) (fs : Fs) (name : Tx) (w : World) (hv : aB4 w base v n fs) (hn : n ≤ 1073741824) :
  Calls prog 239 #[v, .string name] w fun e w' => e = .returned (.tuple #[.string (getV fs name), .bool (getB fs name)]) ∧ w' = w := by
 have hl := hv.len;by_cases hin : atF fs name < fs.length
 rotate_left
 ·have hI : Hid (atI fs name = -1) := by show _ = _; unfold atI; rw [if_neg hin]
  have hV : Hid (getV fs name = ⟨#[]⟩) := by show _ = _; unfold getV; rw [if_neg hin]
  have hB : Hid (getB fs name = false) := by show _ = _; unfold getB; simpa using hin
  go_enter func239, ntmps239;go_wp2_with fail
  refine (cB9 v n base fs name _ hv hn).mono ?_;rintro e w1 ⟨rfl, rfl⟩;rw [hI.out];clear hv;go_wp2
  go_ret2
  exact ⟨by rw [hV.out, hB.out]; rfl, rfl⟩
 have hI : Hid (atI fs name = (atF fs name : Int)) := by show _ = _; unfold atI; rw [if_pos hin]
 have hV : Hid (getV fs name = aH7 fs (atF fs name)) := by show _ = _; unfold getV; rw [if_pos hin]
 have hB : Hid (getB fs name = true) := by show _ = _; unfold getB; simpa using hin
 have a0 := hv;rcases a0 with ⟨oa, ca, rfl, _, rfl, rfl⟩ | ⟨g, a2, rfl, hp, a1⟩
 ·simp at hin
 obtain ⟨k, hk⟩ := exq (atF fs name);rw [← hk] at hI hV hin;have hc := a1.val k (by omega);have a3 : (k : Int) < (n : Int) := by omega
 clear hk;go_enter func239, ntmps239;go_wp2_with fail
 refine (cB9 _ n base fs name _ hv hn).mono ?_;rintro e w1 ⟨rfl, rfl⟩;rw [hI.out];clear hv;go_wp2
 go_ret2
 exact ⟨by rw [hV.out, hB.out]; rfl, rfl⟩
def ftTo (fs : Fs) : Nat → ByteArray
 | 0 => ⟨#[]⟩
 | k + 1 => ftTo fs k ++ aD0 fs k ++ ⟨#[58, 32]⟩ ++ aH7 fs k ++ ⟨#[13, 10]⟩
def aC7 (fs : Fs) : ByteArray := ftTo fs fs.length
theorem bE4 (fs : Fs) (k : Nat) : (ftTo fs (k + 1)).size = (ftTo fs k).size + (aD0 fs k).size + (aH7 fs k).size + 4 := by
 rw [ftTo, ByteArray.size_append, ByteArray.size_append, ByteArray.size_append, ByteArray.size_append];have h1 : (⟨#[58, 32]⟩ : Tx).size = 2 := rfl;have h2 : (⟨#[13, 10]⟩ : Tx).size = 2 := rfl;omega
theorem cG4 (fs : Fs) (k : Nat) : ∀ d, (ftTo fs k).size ≤ (ftTo fs (k + d)).size := by
 intro d;induction d with
 | zero => exact Nat.le_refl _
 | succ d ih => have := bE4 fs (k + d); rw [show k + (d + 1) = (k + d) + 1 by omega]; omega
theorem bE5 (v : Value) (n base : Nat) (fs : Fs) (w : World) (hv : aB4 w base v n fs) (hn : n ≤ 1073741824) (hsz : (aC7 fs).size ≤ 1099511627776) :
  Calls prog 237 #[v] w fun e w' => aD5 (aC7 fs) w e w' := by
 have hl := hv.len;rcases hv with ⟨oa, ca, rfl, _, rfl, rfl⟩ | ⟨g, a9, rfl, hp, a5⟩
 ·have hT : Hid (aC7 [] = ⟨#[]⟩) := rfl;clear hsz;go_enter func237, ntmps237;go_wp2
  refine wp_loop_rounds 1 ?_;rw [rounds_succ];go_wp2
  go_ret;exact aD5.of hT.out.symm (Below.refl _ _)
 have HZ : Hid (∀ k, k < n → (ftTo fs (k + 1)).size ≤ 1099511627776) := fun k hk => by
  have := cG4 fs (k + 1) (fs.length - (k + 1))
  rw [show k + 1 + (fs.length - (k + 1)) = fs.length by omega] at this
  exact Nat.le_trans this hsz
 have HF : Hid (aC7 fs = ftTo fs n) := by show _ = _; unfold aC7; rw [hl]
 clear hsz;go_enter func237, ntmps237;go_wp2
 go_loopw [3, 4] (fun o i wr => ∃ (k : Nat) (out : Tx), k ≤ n ∧ i = .int .i64 (k : Int) ∧ o = .string out ∧ Hid (out = ftTo fs k) ∧ Bw w wr) (fun _ i _ => n - (intOf i).toNat)
 case atStart => exact ⟨0, _, Nat.zero_le _, rfl, rfl, rfl, Below.refl _ _⟩
 case round =>
  obtain ⟨k, out, hk, rfl, rfl, a0, a3⟩ := hrel;by_cases hlt : k < n
  rotate_left
  ·have hT : Hid (out = aC7 fs) := by
    obtain rfl : k = n := by omega
    show _ = _; rw [a0.out, HF.out]
   go_wp2
   go_ret;exact aD5.of hT.out a3
  have a4 := a5.below a3 a5.lt;obtain ⟨nm, a1⟩ := exq (aD0 fs k);obtain ⟨vl, a2⟩ := exq (aH7 fs k);have a6 := a4.name k hlt;have a7 := a4.val k hlt;have hz := HZ.out k hlt;rw [bE4] at hz
  have HN : Hid (out ++ nm ++ ⟨#[58, 32]⟩ ++ vl ++ ⟨#[13, 10]⟩ = ftTo fs (k + 1)) := by
   show _ = _
   rw [ftTo, ← a0.out, a1, a2]
  rw [← a0.out, ← a1, ← a2] at hz;rw [← a1] at a6;rw [← a2] at a7;have a8 : (k : Int) < (n : Int) := by omega
  have e1 : (⟨#[58, 32]⟩ : Tx).size = 2 := rfl;have e2 : (⟨#[13, 10]⟩ : Tx).size = 2 := rfl;have q1 : ¬ 9223372036854775807 < out.size + nm.size := by omega
  have q2 : ¬ 9223372036854775807 < (out ++ nm).size + 2 := by rw [ByteArray.size_append]; omega
  have q3 : ¬ 9223372036854775807 < (out ++ nm ++ ⟨#[58, 32]⟩).size + vl.size := by rw [ByteArray.size_append, ByteArray.size_append]; omega
  have q4 : ¬ 9223372036854775807 < (out ++ nm ++ ⟨#[58, 32]⟩ ++ vl).size + 2 := by rw [ByteArray.size_append, ByteArray.size_append, ByteArray.size_append]; omega
  clear a1 a2 hz a4;go_wp2
  go_quiet (fail)
  go_wp2
  go_roundw
  case rel => exact ⟨k + 1, _, by omega, by go_num, rfl, HN, below_drewN a3 _⟩
  case measure => simp [intOf]; omega
def aG5 (fs : Fs) : Prop :=
 fs.length ≤ 8 ∧ ∀ i, i < fs.length → aK6 (aD0 fs i) ∧ aK7 (aH7 fs i) ∧ atF fs (aD0 fs i) = i ∧ aD0 fs i ≠ ⟨#[99, 111, 110, 116, 101, 110, 116, 45, 108, 101, 110, 103, 116, 104]⟩
def clen : ByteArray := ⟨#[99, 111, 110, 116, 101, 110, 116, 45, 108, 101, 110, 103, 116, 104]⟩
def bL3 (fs : Fs) (i : Nat) : Prop := aK6 (aD0 fs i) ∧ aK7 (aH7 fs i) ∧ atF fs (aD0 fs i) = i ∧ aD0 fs i ≠ clen
theorem aQ6 : clen.toList = [99, 111, 110, 116, 101, 110, 116, 45, 108, 101, 110, 103, 116, 104] := by rw [ByteArray.toList_eq]; rfl
theorem aB8 {a b : ByteArray} (h : a ≠ b) : (a.toList == b.toList) = false := by
 rcases Bool.eq_false_or_eq_true (a.toList == b.toList) with h1 | h1
 ·exact absurd ((aD3 _ _).1 h1) h
 exact h1
theorem bL4 (v : Value) (n base : Nat) (fs : Fs) (w : World) (hv : aB4 w base v n fs) (hn : n ≤ 1073741824) (hsz : ∀ i, i < n → (aD0 fs i).size ≤ maxLen ∧ (aH7 fs i).size ≤ maxLen) :
  Calls prog 238 #[v] w fun e w' => aA5 (aG5 fs) w e w' := by
 have hl := hv.len;have HV := hid hv;have HS := hid hsz;clear hsz;rcases hv with ⟨oa, ca, rfl, _, rfl, rfl⟩ | ⟨g, c5, rfl, hp, a4⟩
 ·have hT : Hid (aG5 []) := ⟨by simp, fun i hi => absurd hi (by simp)⟩
  clear HV HS;go_enter func238, ntmps238;go_wp2
  refine wp_loop_rounds 1 ?_;rw [rounds_succ];go_wp2
  go_ret;exact aA5.yes hT.out (Below.refl _ _)
 go_enter func238, ntmps238;go_wp2
 go_loopw [3] (fun i wr => ∃ k : Nat, k ≤ n ∧ i = .int .i64 (k : Int) ∧ Hid (∀ j, j < k → bL3 fs j) ∧ Bw w wr) (fun i _ => n - (intOf i).toNat)
 case atStart => exact ⟨0, Nat.zero_le _, rfl, fun j h => absurd h (by omega), Below.refl _ _⟩
 case round =>
  obtain ⟨k, hk, rfl, a1, a2⟩ := hrel;by_cases hlt : k < n
  rotate_left
  ·by_cases h8 : (n : Int) ≤ 8
   rotate_left
   ·have HF : Hid (¬ aG5 fs) := fun h => by have := h.1; omega
    go_wp2
    go_ret;exact aA5.no HF.out a2
   have HF : Hid (aG5 fs) := ⟨by omega, fun i hi => a1.out i (by omega)⟩
   go_wp2
   go_ret;exact aA5.yes HF.out a2
  have b9 : (k : Int) < (n : Int) := by omega
  obtain ⟨b4, b5⟩ := HS.out k hlt;obtain ⟨nm, a3⟩ := exq (aD0 fs k);obtain ⟨vl, a5⟩ := exq (aH7 fs k)
  have HR : Hid (∀ W, Bw w W → W.cell? ⟨g, k * 2, none⟩ = some (.string nm) ∧ W.cell? ⟨g, k * 2 + 1, none⟩ = some (.string vl)) := fun W h => by
   rw [a3, a5]; exact ⟨(a4.below h a4.lt).name k hlt, (a4.below h a4.lt).val k hlt⟩
  have HO : Hid (bL3 fs k ↔ aK6 nm ∧ aK7 vl ∧ atF fs nm = k ∧ nm ≠ clen) := by rw [a3, a5]; exact Iff.rfl
  have a6 : Hid (¬ (aK6 nm ∧ aK7 vl ∧ atF fs nm = k ∧ nm ≠ clen) → ¬ aG5 fs) := fun h hf => h (HO.out.1 (hf.2 k (by omega)))
  have b6 : atF fs nm ≤ k := by
   rcases Nat.lt_or_ge k (atF fs nm) with h | h
   ·exact absurd a3.symm (bH9 fs nm k h)
   ·exact h
  have hI : Hid (atI fs nm = (atF fs nm : Int)) := by show _ = _; unfold atI; rw [if_pos (by omega)]
  rw [← a3] at b4;rw [← a5] at b5;obtain ⟨c1, c2⟩ := HR.out wr a2;clear a3 a5;go_wp2_with fail
  refine (aS6 nm _ b4).mono ?_;rintro e w1 ⟨b1, rfl, a7, b0⟩;have a8 : Bw w w1 := a2.trans (b0.mono a2.size);obtain ⟨b7, b8⟩ := HR.out w1 a8;cases b1
  ·have HF : Hid (¬ aG5 fs) := a6.out (fun h => by have := a7.2 h.1; cases this)
   clear a7 c1 c2 b0;go_wp2_with fail
   go_ret;exact aA5.no HF.out a8
  have HT : Hid (aK6 nm) := a7.1 rfl;clear a7 c1 c2 b0;go_wp2_with fail
  refine (aS8 vl _ b5).mono ?_;rintro e w2 ⟨b2, rfl, a9, b3⟩;have a0 : Bw w w2 := a8.trans (b3.mono a8.size);obtain ⟨c6, c7⟩ := HR.out w2 a0;cases b2
  ·have HF : Hid (¬ aG5 fs) := a6.out (fun h => by have := a9.2 h.2.1; cases this)
   clear a9 b7 b8 b3;go_wp2_with fail
   go_ret;exact aA5.no HF.out a0
  have c0 : Hid (aK7 vl) := a9.1 rfl;clear a9 b7 b8 b3;go_wp2_with fail
  refine (cB9 _ n base fs nm _ (HV.out.below a0) hn).mono ?_;rintro e w3 ⟨rfl, rfl⟩;rw [hI.out];by_cases hat : atF fs nm = k
  rotate_left
  ·have c3 : ((atF fs nm : Int) != (k : Int)) = true := by rw [bne_iff_ne]; omega
   have HF : Hid (¬ aG5 fs) := a6.out (fun h => hat h.2.2.1)
   clear hat;go_wp2
   go_ret;exact aA5.no HF.out a0
  have c3 : ((atF fs nm : Int) != (k : Int)) = false := by rw [bne_eq_false_iff_eq]; omega
  have c4 := hid hat;clear hat;by_cases hcl : nm = clen
  ·have ht := (aD3 _ _).2 hcl;rw [aQ6] at ht;have HF : Hid (¬ aG5 fs) := a6.out (fun h => h.2.2.2 hcl)
   clear hcl;go_wp2
   go_ret;exact aA5.no HF.out a0
  have ht := aB8 hcl;rw [aQ6] at ht;have HY : Hid (bL3 fs k) := HO.out.2 ⟨HT.out, c0.out, c4.out, hcl⟩;clear hcl;go_wp2
  go_roundw
  case rel =>
   refine ⟨k + 1, by omega, by go_num, ?_, a0⟩;intro j hj;by_cases e : j = k
   ·subst e; exact HY.out
   exact a1.out j (by omega)
  case measure => simp [intOf]; omega
attribute [local go_sem ↓] Go.wp_at_zero Go.wp_at_succ
def szTo (fs : Fs) : Nat → Nat
 | 0 => 0
 | k + 1 => szTo fs k + (aD0 fs k).size + (aH7 fs k).size
theorem dA1 : (prog.info? 232).map (fun i => (i.zero, i.size, i.bytes)) = some (some (.agg #[.string ⟨#[]⟩, .string ⟨#[]⟩]), 2, 32) := by kernel_rfl
theorem aA3 (w : World) (c o : Nat) (cs : Array Value) (t : TypeId) (fz : Nat × Nat) (v : Value) (h : w.heap[c]? = some (.cells cs t fz)) : (w.setCell ⟨c, o, none⟩ v).heap[c]? = some (.cells (cs.setIfInBounds o v) t fz) := by
 simp [World.setCell, Array.getElem?_modify, h]
theorem hput {W W' : World} {q i : Nat} {T : TypeId} {v : Value} {l l' : List Value} (hW : W' = W.setCell ⟨q, i, none⟩ v) (h : Hid (W.heap[q]? = some (.cells l.toArray T))) (hl : l.set i v = l' := by simp only [List.set_cons_zero, List.set_cons_succ]; rfl) : Hid (W'.heap[q]? = some (.cells l'.toArray T)) := by
  show _ = _
  rw [hW, ← hl]
  have h2 := aA3 _ q i _ _ _ v h.out
  simpa using h2
def aL2 (w : World) (g n k : Nat) (fs : Fs) : Prop :=
 ∃ cur, w.heap[g]? = some (.cells cur 232 (0, 0)) ∧ cur.size = n * 2 ∧ ∀ i, i < k → cur[i * 2]? = some (.string (aD0 fs i)) ∧ cur[i * 2 + 1]? = some (.string (aH7 fs i))
theorem aL2.below {w w' : World} {g n k B : Nat} {fs : Fs} (h : aL2 w g n k fs) (hb : Below B w w') (hB : g < B) : aL2 w' g n k fs := by
 obtain ⟨a0, h1, h2⟩ := h;exact ⟨a0, by rw [hb.block g hB]; exact h1, h2⟩
theorem aL2.lt {w : World} {g n k : Nat} {fs : Fs} (h : aL2 w g n k fs) : g < w.heap.size := by
 obtain ⟨a0, h1, _⟩ := h;exact (blt h1)
theorem aL2.cell {w : World} {g n k : Nat} {fs : Fs} (h : aL2 w g n k fs) (j : Nat) (hj : j < n * 2) : ∃ u, w.cell? ⟨g, j, none⟩ = some u := by
 obtain ⟨a0, h1, h2, _⟩ := h;refine ⟨a0[j]'(by omega), ?_⟩;simp only [World.cell?, h1]
 simp [show j < a0.size by omega]
theorem aL2.frozen {w : World} {g n k : Nat} {fs : Fs} (h : aL2 w g n k fs) (j : Nat) : w.frozen? ⟨g, j, none⟩ = false := by
 obtain ⟨a0, h1, _⟩ := h;simp [World.frozen?, h1]
theorem aL2.put {w : World} {g n k : Nat} {fs : Fs} (h : aL2 w g n k fs) (hk : k < n) : aL2 ((w.setCell ⟨g, k * 2, none⟩ (.string (aD0 fs k))).setCell ⟨g, k * 2 + 1, none⟩ (.string (aH7 fs k))) g n (k + 1) fs := by
 obtain ⟨a0, h1, h2, h3⟩ := h;refine ⟨_, aA3 _ g (k * 2 + 1) _ _ _ _ (aA3 w g (k * 2) _ _ _ _ h1), by simpa using h2, ?_⟩;intro i hi;by_cases e : i = k
 ·subst e;refine ⟨?_, ?_⟩
  ·rw [Array.getElem?_setIfInBounds_ne (by omega), Array.getElem?_setIfInBounds_self_of_lt (by omega)]
  rw [Array.getElem?_setIfInBounds_self_of_lt (by simp; omega)]
 have := h3 i (by omega);refine ⟨?_, ?_⟩
 ·rw [Array.getElem?_setIfInBounds_ne (by omega), Array.getElem?_setIfInBounds_ne (by omega)]; exact this.1
 rw [Array.getElem?_setIfInBounds_ne (by omega), Array.getElem?_setIfInBounds_ne (by omega)]; exact this.2
theorem aL2.owns {w : World} {g n : Nat} {fs : Fs} (h : aL2 w g n n fs) (hl : fs.length = n) (hm : n ≤ maxLen) {base : Nat} (hb : base ≤ g) : w.ownsRow base 232 2 (.slice (some ⟨g, 0, none⟩) n n) n (aE5 fs) :=
 aF6.owns ⟨hl, hb, h.lt, Nat.le_refl _, hm, h⟩
theorem cM0 (nm vl : Tx) (w : World) :
  Calls prog 273 #[.agg #[.string nm, .string vl], .agg #[.string nm, .string vl]] w fun e w' => e = .returned (.bool true) ∧ Below w.heap.size w w' := by
 go_enter func273, ntmps273;go_wp2
 go_ret;exact ⟨rfl, ((Below.refl _ _).alloc (Nat.le_refl _) _).alloc (by simp) _⟩
theorem cG5 (v1 v2 : Value) (n b1 b2 : Nat) (fs : Fs) (w : World) (h1 : aB4 w b1 v1 n fs) (h2 : aB4 w b2 v2 n fs) (hn : n ≤ 2000000) :
  Calls prog 223 #[v1, v2] w fun e w' => e = .returned (.bool true) ∧ Below w.heap.size w w' := by
 rcases h1 with ⟨oa, ca, rfl, _, rfl, rfl⟩ | ⟨g1, c1, rfl, hp, r1⟩
 ·rcases h2 with ⟨ob, cb, rfl, _, _, _⟩ | ⟨g2, c2, rfl, a7, _⟩
  ·go_enter func223, ntmps223;go_wp2
   refine wp_loop_rounds 1 ?_;rw [rounds_succ];go_wp2
   go_ret;exact ⟨rfl, Below.refl _ _⟩
  omega
 rcases h2 with ⟨ob, cb, rfl, _, h0, _⟩ | ⟨g2, c2, rfl, a7, r2⟩
 ·omega
 go_enter func223, ntmps223;go_wp2
 go_loopw [5] (fun i wr => ∃ k : Nat, k ≤ n ∧ i = .int .i64 (k : Int) ∧ Bw w wr) (fun i _ => n - (intOf i).toNat)
 case atStart => exact ⟨0, Nat.zero_le _, rfl, Below.refl _ _⟩
 case round =>
  obtain ⟨k, hk, rfl, a0⟩ := hrel;by_cases hlt : k < n
  rotate_left
  ·go_wp2
   go_ret;exact ⟨rfl, a0⟩
  have a8 : (k : Int) < (n : Int) := by omega
  obtain ⟨nm, a5⟩ := exq (aD0 fs k);obtain ⟨vl, a6⟩ := exq (aH7 fs k);have ha := (r1.below a0 r1.lt).name k hlt;have hb := (r1.below a0 r1.lt).val k hlt;have hc := (r2.below a0 r2.lt).name k hlt;have hd := (r2.below a0 r2.lt).val k hlt;rw [← a5] at ha hc;rw [← a6] at hb hd
  have HA : Hid (∀ w0 w1, Below wr.heap.size wr w0 → Below w0.heap.size w0 w1 → (w1.cell? ⟨g1, k * 2, none⟩ = some (.string nm) ∧ w1.cell? ⟨g1, k * 2 + 1, none⟩ = some (.string vl) ∧ w1.cell? ⟨g2, k * 2, none⟩ = some (.string nm) ∧ w1.cell? ⟨g2, k * 2 + 1, none⟩ = some (.string vl)) ∧ Below wr.heap.size wr w1) := fun w0 w1 h h' => by
   have hx := h.trans (h'.mono h.size)
   have hy := a0.trans (hx.mono a0.size)
   have a1 := (r1.below hy r1.lt).name k hlt
   have a2 := (r1.below hy r1.lt).val k hlt
   have a3 := (r2.below hy r2.lt).name k hlt
   have a4 := (r2.below hy r2.lt).val k hlt
   rw [← a5] at a1 a3
   rw [← a6] at a2 a4
   exact ⟨⟨a1, a2, a3, a4⟩, hx⟩
  clear a5 a6;go_wp2
  go_region_held3 (fun w' => w'.cell? ⟨g1, k * 2, none⟩ = some (.string nm) ∧ w'.cell? ⟨g1, k * 2 + 1, none⟩ = some (.string vl) ∧ w'.cell? ⟨g2, k * 2, none⟩ = some (.string nm) ∧ w'.cell? ⟨g2, k * 2 + 1, none⟩ = some (.string vl)) (first | assumption | go_keep) (first | (go_at_call 273; refine (cM0 _ _ _).mono ?_; rintro e w1 ⟨rfl, a9⟩; obtain ⟨b3, b0⟩ := HA.out _ w1 ((Below.refl _ wr).drew) a9))
  go_wp2
  go_roundw
  case rel => exact ⟨k + 1, by omega, by go_num, a0.trans (b0.mono a0.size)⟩
  case measure => simp [intOf]; omega
theorem bX0 (fs : Fs) (k j : Nat) (p : ByteArray × ByteArray) (hk : k < fs.length) : aD0 (fs.set k p) j = (if j = k then p.1 else aD0 fs j) ∧ aH7 (fs.set k p) j = (if j = k then p.2 else aH7 fs j) := by
 unfold aD0 aH7;rw [List.getD_eq_getElem?_getD, List.getD_eq_getElem?_getD];by_cases e : j = k
 rotate_left
 ·rw [if_neg e, if_neg e, List.getElem?_set_ne (by omega)];exact ⟨rfl, rfl⟩
 subst e;rw [if_pos rfl, if_pos rfl, List.getElem?_set_self (by omega)];exact ⟨rfl, rfl⟩
theorem bE6 {w w' : World} {g : Nat} (h : w'.heap[g]? = w.heap[g]?) (o : Nat) (v : Value) : (w'.setCell ⟨g, o, none⟩ v).heap[g]? = (w.setCell ⟨g, o, none⟩ v).heap[g]? := by
 simp [World.setCell, Array.getElem?_modify, h]
theorem aF6.set {base : Nat} {w : World} {g n cap : Nat} {fs : Fs} (h : aF6 base w g n cap fs) (k : Nat) (hk : k < n) (a b : Tx) (W : World) (hW : W.heap[g]? = ((w.setCell ⟨g, k * 2, none⟩ (.string a)).setCell ⟨g, k * 2 + 1, none⟩ (.string b)).heap[g]?) (hsz : w.heap.size ≤ W.heap.size) : aF6 base W g n cap (fs.set k (a, b)) := by
 have hl := h.len; have a1 := h.le;obtain ⟨a0, h1, h2, h3⟩ := h.heap;have a2 := h.lt;refine ⟨by simp [hl], h.base, by omega, h.le, h.mx, (a0.setIfInBounds (k * 2) (.string a)).setIfInBounds (k * 2 + 1) (.string b), ?_, by simpa using h2, ?_⟩
 ·rw [hW]; exact aA3 _ g (k * 2 + 1) _ _ _ _ (aA3 w g (k * 2) _ _ _ _ h1)
 intro i hi;have hs := bX0 fs k i (a, b) (by omega);rw [hs.1, hs.2];by_cases e : i = k
 ·subst e;rw [if_pos rfl, if_pos rfl];refine ⟨?_, ?_⟩
  ·rw [Array.getElem?_setIfInBounds_ne (by omega), Array.getElem?_setIfInBounds_self_of_lt (by omega)]
  rw [Array.getElem?_setIfInBounds_self_of_lt (by simp; omega)]
 rw [if_neg e, if_neg e];have := h3 i hi;refine ⟨?_, ?_⟩
 ·rw [Array.getElem?_setIfInBounds_ne (by omega), Array.getElem?_setIfInBounds_ne (by omega)]; exact this.1
 rw [Array.getElem?_setIfInBounds_ne (by omega), Array.getElem?_setIfInBounds_ne (by omega)]; exact this.2
theorem aF5 {w : World} {B base : Nat} {e : TypeId} {size : Nat} {v : Value} {n : Nat} {xs : List Value} (h : w.ownsRow base e size v n xs) (hB : B ≤ base) : w.ownsRow B e size v n xs := by
 obtain ⟨hl, hv⟩ := h;refine ⟨hl, ?_⟩;rcases hv with h0 | ⟨g, a0, a1, h1, h2, h3⟩
 ·exact .inl h0
 exact .inr ⟨g, a0, a1, h1, Nat.le_trans hB h2, h3⟩
theorem aA9 {w w' : World} {base : Nat} {e : TypeId} {size : Nat} {v : Value} {n : Nat} {xs : List Value} (h : w.ownsRow base e size v n xs) (hs : ∀ j, v.ownBlock = some j → w'.heap[j]? = w.heap[j]?) : w'.ownsRow base e size v n xs := by
 obtain ⟨hl, hv⟩ := h;refine ⟨hl, ?_⟩;rcases hv with h0 | ⟨g, a0, a1, rfl, h2, h3, h4⟩
 ·exact .inl h0
 exact .inr ⟨g, a0, a1, rfl, h2, by rw [hs g rfl]; exact h3, h4⟩
theorem dA2 (fs : Fs) (k : Nat) : ∀ d, szTo fs k ≤ szTo fs (k + d) := by
 intro d;induction d with
 | zero => exact Nat.le_refl _
 | succ d ih => rw [show k + (d + 1) = (k + d) + 1 by omega, szTo]; omega
theorem cC0 (fs : Fs) (n i : Nat) (hi : i < n) : (aD0 fs i).size ≤ szTo fs n ∧ (aH7 fs i).size ≤ szTo fs n := by
 have h := dA2 fs (i + 1) (n - (i + 1));rw [show i + 1 + (n - (i + 1)) = n by omega, szTo] at h;omega
theorem cR1 (b off y : Nat) : (⟨b, off, none⟩ : Addr).add y = ⟨b, off + y, none⟩ := by
 unfold Addr.add; split <;> simp_all
structure Rw where
 T : TypeId
 z : Nat
 v : Value
 n : Nat
 c : List Value
def Rw.own (r : Rw) (w : World) (base : Nat) : Prop := w.ownsRow base r.T r.z r.v r.n r.c
def Rw.ne (a b : Rw) : Prop := ∀ g, a.v.ownBlock = some g → b.v.ownBlock ≠ some g
theorem Rw.ne.symm {a b : Rw} (h : a.ne b) : b.ne a := fun g h1 h2 => h g h2 h1
structure aB2 (w : World) (base : Nat) (rs : List Rw) : Prop where
 own : ∀ r ∈ rs, r.own w base
 apart : rs.Pairwise Rw.ne
theorem jrs {W W' : World} {base q : Nat} {rs : List Rw} {cs : List Value} {T : TypeId} (vs : List (Nat × Value)) (h : aB2 W base rs) (hW : W' = jW W q vs) (hb : W.heap[q]? = some (.cells cs.toArray T)) (hT : ∀ r ∈ rs, T ≠ r.T) : aB2 W' base rs :=
  ⟨fun r hr => jos (h.own r hr) (fun g hg => by
    rw [hW]
    refine jwo q g (fun e => ?_) vs W
    obtain ⟨_, _, cur, hh⟩ := jol (h.own r hr) g hg
    rw [e, hb] at hh
    injection hh with h3
    injection h3 with _ h4
    exact hT r hr h4), h.apart⟩
theorem aB2.nil (w : World) (base : Nat) : aB2 w base [] := ⟨by simp, List.Pairwise.nil⟩
theorem aB2.one {w : World} {base : Nat} {r : Rw} (h : r.own w base) : aB2 w base [r] := ⟨fun x hx => by rw [List.mem_singleton.1 hx]; exact h, List.pairwise_singleton _ _⟩
theorem aB2.ge {w : World} {base : Nat} {rs : List Rw} (h : aB2 w base rs) {r : Rw} (hr : r ∈ rs) {g : Nat} (hg : r.v.ownBlock = some g) : base ≤ g := aC8 (h.own r hr) hg
theorem aB2.lt {w : World} {base : Nat} {rs : List Rw} (h : aB2 w base rs) {r : Rw} (hr : r ∈ rs) {g : Nat} (hg : r.v.ownBlock = some g) : g < w.heap.size := aB0 (h.own r hr) hg
theorem aB2.same {w w' : World} {base : Nat} {rs : List Rw} (h : aB2 w base rs) (hs : ∀ r ∈ rs, ∀ g, r.v.ownBlock = some g → w'.heap[g]? = w.heap[g]?) : aB2 w' base rs :=
 ⟨fun r hr => aA9 (h.own r hr) (hs r hr), h.apart⟩
theorem aB2.below {w w' : World} {base : Nat} {rs : List Rw} (h : aB2 w base rs) (hb : Below w.heap.size w w') : aB2 w' base rs := h.same (fun _ hr g hg => hb.block g (h.lt hr hg))
theorem aB2.wide {w : World} {B base : Nat} {rs : List Rw} (h : aB2 w base rs) (hB : B ≤ base) : aB2 w B rs := ⟨fun r hr => aF5 (h.own r hr) hB, h.apart⟩
theorem aB2.sub {w : World} {base : Nat} {rs rs' : List Rw} (h : aB2 w base rs) (hs : List.Sublist rs' rs) : aB2 w base rs' := ⟨fun r hr => h.own r (hs.subset hr), h.apart.sublist hs⟩
theorem aB2.perm {w : World} {base : Nat} {rs rs' : List Rw} (h : aB2 w base rs) (hp : List.Perm rs rs') : aB2 w base rs' :=
 ⟨fun r hr => h.own r (hp.mem_iff.2 hr), (hp.pairwise_iff (fun hab => Rw.ne.symm hab)).1 h.apart⟩
theorem aB2.more {w w' : World} {base B : Nat} {rs rs' : List Rw} (h : aB2 w base rs) (hb : Below w.heap.size w w') (h' : aB2 w' B rs') (hB : w.heap.size ≤ B) (hB2 : base ≤ B) : aB2 w' base (rs ++ rs') := by
 have h2 := h.below hb;refine ⟨fun r hr => ?_, List.pairwise_append.2 ⟨h2.apart, h'.apart, fun a ha b hb g a0 a1 => ?_⟩⟩
 ·rcases List.mem_append.1 hr with hr | hr
  ·exact h2.own r hr
  exact aF5 (h'.own r hr) hB2
 have e1 := h.lt ha a0;have e2 := h'.ge hb a1;omega
theorem aB2.turn {w w' : World} {base : Nat} {pre post : List Rw} {r r' : Rw} (h : aB2 w base (pre ++ r :: post)) (hv : r'.v = r.v) (h' : r'.own w' base) (hs : ∀ g, g < w.heap.size → r.v.ownBlock ≠ some g → w'.heap[g]? = w.heap[g]?) : aB2 w' base (pre ++ r' :: post) := by
 have hp := h.apart;rw [List.pairwise_append, List.pairwise_cons] at hp;obtain ⟨p1, ⟨p2, p3⟩, p4⟩ := hp;have a0 : ∀ x, x ∈ pre ++ r :: post → x.ne r → x.own w' base := fun x hx a1 => aA9 (h.own x hx) (fun g hg => hs g (h.lt hx hg) (a1 g hg))
 refine ⟨fun x hx => ?_, ?_⟩
 ·rcases List.mem_append.1 hx with hx | hx
  ·exact a0 x (List.mem_append.2 (.inl hx)) (p4 x hx r (by simp))
  rcases List.mem_cons.1 hx with hx | hx
  ·rw [hx]; exact h'
  exact a0 x (by simp [hx]) (p2 x hx).symm
 rw [List.pairwise_append, List.pairwise_cons];refine ⟨p1, ⟨fun b hb => ?_, p3⟩, fun a ha b hb => ?_⟩
 ·unfold Rw.ne;rw [hv];exact p2 b hb
 rcases List.mem_cons.1 hb with hb | hb
 ·rw [hb];unfold Rw.ne;rw [hv];exact p4 a ha r (by simp)
 exact p4 a ha b (by simp [hb])
theorem aS9 {α : Type} (enc : α → List Value) (z : Nat) (hz : ∀ x, (enc x).length = z) : ∀ l : List α, (l.flatMap enc).length = l.length * z
 | [] => by simp
 | x :: l => by rw [List.flatMap_cons, List.length_append, hz, aS9 enc z hz l, List.length_cons, Nat.succ_mul]; omega
theorem dA3 {α : Type} (enc : α → List Value) (l : List α) (i : Nat) (hi : i < l.length) : l.flatMap enc = (l.take i).flatMap enc ++ (enc (l[i]'hi) ++ (l.drop (i + 1)).flatMap enc) := by
 have e : l = l.take i ++ (l[i]'hi) :: l.drop (i + 1) := by rw [List.getElem_cons_drop, List.take_append_drop]
 conv => lhs; rw [e]
 rw [List.flatMap_append, List.flatMap_cons]
theorem bE7 {α : Type} (enc : α → List Value) (z : Nat) (hz : ∀ x, (enc x).length = z) (l : List α) (i j : Nat) (hi : i < l.length) (hj : j < z) : (l.flatMap enc)[i * z + j]? = (enc (l[i]'hi))[j]? := by
 rw [dA3 enc l i hi];have e : ((l.take i).flatMap enc).length = i * z := by rw [aS9 enc z hz, List.length_take, Nat.min_eq_left (Nat.le_of_lt hi)]
 rw [List.getElem?_append_right (by omega), e, Nat.add_sub_cancel_left, List.getElem?_append_left (by rw [hz]; exact hj)]
def setW (w : World) (g : Nat) : Nat → List Value → World
 | _, [] => w
 | o, v :: r => setW (w.setCell ⟨g, o, none⟩ v) g (o + 1) r
def setA (cur : Array Value) : Nat → List Value → Array Value
 | _, [] => cur
 | o, v :: r => setA (cur.setIfInBounds o v) (o + 1) r
theorem cG6 : ∀ (l : List Value) (cur : Array Value) (o : Nat), (setA cur o l).size = cur.size
 | [], _, _ => rfl
 | v :: r, cur, o => by rw [setA, cG6 r]; simp
theorem cC1 : ∀ (l : List Value) (cur : Array Value) (o m : Nat), (m < o ∨ o + l.length ≤ m) → (setA cur o l)[m]? = cur[m]?
 | [], _, _, _, _ => rfl
 | v :: r, cur, o, m, h => by
  rw [List.length_cons] at h
  rw [setA, cC1 r _ (o + 1) m (by omega), Array.getElem?_setIfInBounds_ne (by omega)]
theorem dA4 : ∀ (l : List Value) (cur : Array Value) (o j : Nat), j < l.length → o + l.length ≤ cur.size → (setA cur o l)[o + j]? = l[j]?
 | [], _, _, j, h, _ => absurd h (by simp)
 | v :: r, cur, o, 0, _, hs => by
  rw [List.length_cons] at hs
  rw [setA, cC1 r _ (o + 1) (o + 0) (by omega), Nat.add_zero, Array.getElem?_setIfInBounds_self_of_lt (by omega)]
  rfl
 | v :: r, cur, o, j + 1, h, hs => by
  rw [List.length_cons] at h hs
  rw [setA, show o + (j + 1) = (o + 1) + j by omega, dA4 r _ (o + 1) j (by omega) (by simp; omega)]
  rfl
theorem cG7 (g : Nat) (T : TypeId) : ∀ (l : List Value) (w : World) (o : Nat) (cur : Array Value), w.heap[g]? = some (.cells cur T (0, 0)) → (setW w g o l).heap[g]? = some (.cells (setA cur o l) T (0, 0))
 | [], _, _, _, h => h
 | v :: r, w, o, cur, h => cG7 g T r _ (o + 1) _ (aA3 w g o cur T (0, 0) v h)
theorem bI0 (g g' : Nat) (hne : g' ≠ g) : ∀ (l : List Value) (w : World) (o : Nat), (setW w g o l).heap[g']? = w.heap[g']?
 | [], _, _ => rfl
 | v :: r, w, o => by rw [setW, bI0 g g' hne r, heap_setCell_other _ _ _ _ hne]
theorem bX1 {base g : Nat} (hg : base ≤ g) : ∀ (l : List Value) (w w' : World) (o : Nat), Below base w w' → Below base w (setW w' g o l)
 | [], _, _, _, h => h
 | v :: r, w, _, o, h => bX1 hg r w _ (o + 1) (h.setCell (p := ⟨g, o, none⟩) hg v)
def aQ7 {α : Type} (enc : α → List Value) (z : Nat) (T : TypeId) (w : World) (g n : Nat) (l : List α) : Prop :=
 ∃ cur, w.heap[g]? = some (.cells cur T (0, 0)) ∧ cur.size = n * z ∧ ∀ i (hi : i < l.length) (j : Nat), j < z → cur[i * z + j]? = (enc (l[i]'hi))[j]?
theorem aQ7.lt {α : Type} {enc : α → List Value} {z : Nat} {T : TypeId} {w : World} {g n : Nat} {l : List α} (h : aQ7 enc z T w g n l) : g < w.heap.size := by
 obtain ⟨a0, h1, _⟩ := h;exact (blt h1)
theorem aQ7.below {α : Type} {enc : α → List Value} {z : Nat} {T : TypeId} {w w' : World} {g n : Nat} {l : List α} (h : aQ7 enc z T w g n l) (hb : Below w.heap.size w w') : aQ7 enc z T w' g n l := by
 have hl := h.lt;obtain ⟨a0, h1, h2⟩ := h;exact ⟨a0, (hb.block g hl).trans h1, h2⟩
theorem aQ7.cell {α : Type} {enc : α → List Value} {z : Nat} {T : TypeId} {w : World} {g n : Nat} {l : List α} (h : aQ7 enc z T w g n l) (j : Nat) (hj : j < n * z) : ∃ u, w.cell? ⟨g, j, none⟩ = some u := by
 obtain ⟨a0, h1, h2, _⟩ := h;refine ⟨a0[j]'(by omega), ?_⟩;simp only [World.cell?, h1]
 simp [show j < a0.size by omega]
theorem aQ7.frozen {α : Type} {enc : α → List Value} {z : Nat} {T : TypeId} {w : World} {g n : Nat} {l : List α} (h : aQ7 enc z T w g n l) (j : Nat) : w.frozen? ⟨g, j, none⟩ = false := by
 obtain ⟨a0, h1, _⟩ := h;simp [World.frozen?, h1]
theorem aQ7.put {α : Type} {enc : α → List Value} {z : Nat} {T : TypeId} {w : World} {g n : Nat} {l : List α} (hz : ∀ x, (enc x).length = z) (h : aQ7 enc z T w g n l) (x : α) (hk : l.length < n) : aQ7 enc z T (setW w g (l.length * z) (enc x)) g n (l ++ [x]) := by
 obtain ⟨a1, h1, h2, h3⟩ := h;have hm : (l.length + 1) * z ≤ n * z := Nat.mul_le_mul_right z hk;rw [Nat.add_mul, Nat.one_mul] at hm;refine ⟨_, cG7 g T _ w _ a1 h1, by rw [cG6]; exact h2, fun i hi j hj => ?_⟩
 rw [List.length_append, List.length_singleton] at hi;by_cases e : i = l.length
 ·subst e;rw [dA4 _ _ _ _ (by rw [hz]; exact hj) (by rw [hz, h2]; exact hm)];simp
 have a0 : i < l.length := by omega
 have a2 : (i + 1) * z ≤ l.length * z := Nat.mul_le_mul_right z a0;rw [Nat.add_mul, Nat.one_mul] at a2;rw [cC1 _ _ _ _ (.inl (by omega)), h3 i a0 j hj, List.getElem_append_left a0]
theorem aQ7.owns {α : Type} {enc : α → List Value} {z : Nat} {T : TypeId} {w : World} {g n : Nat} {l : List α} (hz : ∀ x, (enc x).length = z) (hz0 : 0 < z) (h : aQ7 enc z T w g n l) (hl : l.length = n) (hm : n ≤ maxLen) {base : Nat} (hb : base ≤ g) : w.ownsRow base T z (.slice (some ⟨g, 0, none⟩) n n) n (l.flatMap enc) := by
 obtain ⟨a1, hg, hs, hc⟩ := h;have a2 : (l.flatMap enc).length = n * z := by rw [aS9 enc z hz, hl]
 refine ⟨a2, .inr ⟨g, n, a1, rfl, hb, hg, Nat.le_refl _, hm, hs, ?_⟩⟩;apply List.ext_getElem?
 intro j;rw [List.getElem?_take];by_cases hj : j < n * z
 rotate_left
 ·rw [if_neg hj, List.getElem?_eq_none (by omega)]
 rw [if_pos hj];have hd : j / z < l.length := by rw [hl]; exact Nat.div_lt_of_lt_mul (by rw [Nat.mul_comm]; exact hj)
 have a0 : j % z < z := Nat.mod_lt _ hz0;have e : j / z * z + j % z = j := by rw [Nat.mul_comm]; exact Nat.div_add_mod j z
 have h1 := bE7 enc z hz l (j / z) (j % z) hd a0;have h2 := hc (j / z) hd (j % z) a0;rw [e] at h1 h2;rw [h1, ← h2];simp
end Go.Proofs.YtiobfnpmidjijaaGreatDoor
namespace Go.Proofs.YtiobfnpmidjijaaGreatDoor
open Go.Proofs.Tryz
open Go.RowKit
def aV3 (n : Int) : Prop := 33 ≤ n ∧ n ≤ 126
def aI9 (s : Tx) : Prop := AllB aV3 s ∧ 1 ≤ s.size ∧ s.size ≤ 60 ∧ ∃ h : 0 < s.size, (s[0]'h).toNat = 47
def aN1 (st : Int) (fs : Fs) (body : Tx) : Prop := (100 ≤ st ∧ st ≤ 599) ∧ aG5 fs ∧ body.size ≤ 120
def aJ6 : ByteArray := ⟨#[72, 84, 84, 80, 47, 49, 46, 49, 32]⟩
def cR2 : ByteArray := ⟨#[32, 46, 13, 10]⟩
def dH5 : ByteArray := ⟨#[99, 111, 110, 116, 101, 110, 116, 45, 108, 101, 110, 103, 116, 104, 58, 32]⟩
def lnE : ByteArray := ⟨#[13, 10]⟩
def lnE2 : ByteArray := ⟨#[13, 10, 13, 10]⟩
def aL7 (st : Int) (fs : Fs) (body : Tx) : ByteArray :=
 aJ6 ++ aB7 st.toNat ++ cR2 ++ aC7 fs ++ dH5 ++ aB7 body.size ++ lnE2 ++ body
def aJ7 (s : Tx) (st : Int) (fs : Fs) (body : Tx) : Prop := aN1 st fs body ∧ aL7 st fs body = s
def bs (s : Tx) : List UInt8 := s.data.toList
theorem aF7 (a b : Tx) : bs (a ++ b) = bs a ++ bs b := by simp [bs]
theorem aE3 {a b : ByteArray} (h : bs a = bs b) : a = b := by
 apply ByteArray.ext
 exact Array.toList_inj.1 h
theorem aC4 (a : Tx) : (bs a).length = a.size := by simp [bs]
theorem bO4 {p : Int → Prop} {s : ByteArray} (h : AllB p s) : ∀ b ∈ bs s, p (b.toNat : Int) := cA9 (p := fun b => p (b.toNat : Int)) h
def aO2 (out : List (List UInt8)) (cur : List UInt8) : List UInt8 → List (List UInt8) × Option (List UInt8)
 | [] => (out, none)
 | [_] => (out, none)
 | c :: d :: r => if c = 13 ∧ d = 10 then (if cur = [] then (out, some r) else aO2 (out ++ [cur]) [] r) else aO2 out (cur ++ [c]) (d :: r)
def aG6 (out : List (List UInt8)) (cur : List UInt8) : List UInt8 → List (List UInt8)
 | [] => out ++ [cur]
 | c :: r => if c = 32 then aG6 (out ++ [cur]) [] r else aG6 out (cur ++ [c]) r
def aM2 (cur : List UInt8) : List UInt8 → Option (List UInt8 × List UInt8)
 | [] => none
 | [_] => none
 | c :: d :: r => if c = 58 ∧ d = 32 then some (cur, r) else aM2 (cur ++ [c]) (d :: r)
def cM1 : List UInt8 := [99, 111, 110, 116, 101, 110, 116, 45, 108, 101, 110, 103, 116, 104]
def aG4 : List (List UInt8) → List (List UInt8 × List UInt8)
 | [] => []
 | l :: r => match aM2 [] l with
  | some f => if f.1 = cM1 then aG4 r else f :: aG4 r
  | none => aG4 r
theorem dA5 (out : List (List UInt8)) (line rest : List UInt8) (h13 : ∀ b ∈ line, b ≠ 13) : ∀ cur, cur ++ line ≠ [] → aO2 out cur (line ++ 13 :: 10 :: rest) = aO2 (out ++ [cur ++ line]) [] rest := by
 induction line with
 | nil =>
  intro cur a0;simp only [List.append_nil] at a0
  simp [aO2, a0]
 | cons c r ih =>
  intro cur _
  have hc : c ≠ 13 := h13 c (by simp)
  have ih := ih (fun b hb => h13 b (by simp [hb])) (cur ++ [c]) (by simp)
  rw [List.append_assoc] at ih
  cases r with
  | nil =>
   simp only [List.cons_append, List.nil_append] at ih ⊢
   rw [aO2, if_neg (fun h => hc h.1), ih]
  | cons d r =>
   simp only [List.cons_append, List.nil_append] at ih ⊢
   rw [aO2, if_neg (fun h => hc h.1), ih]
theorem bX2 (body : List UInt8) (lines : List (List UInt8)) (h : ∀ l ∈ lines, l ≠ [] ∧ ∀ b ∈ l, b ≠ 13) : ∀ out, aO2 out [] (lines.flatMap (fun l => l ++ [13, 10]) ++ 13 :: 10 :: body) = (out ++ lines, some body) := by
 induction lines with
 | nil => intro out; simp [aO2]
 | cons l r ih =>
  intro out
  have hl := h l (by simp)
  have e : (l :: r).flatMap (fun l => l ++ [13, 10]) ++ 13 :: 10 :: body = l ++ 13 :: 10 :: (r.flatMap (fun l => l ++ [13, 10]) ++ 13 :: 10 :: body) := by simp
  rw [e, dA5 out l _ hl.2 [] (by simpa using hl.1), ih (fun x hx => h x (by simp [hx]))]
  simp
theorem aK0 (word rest : List UInt8) (h : ∀ b ∈ word, b ≠ 32) : ∀ out cur, aG6 out cur (word ++ 32 :: rest) = aG6 (out ++ [cur ++ word]) [] rest := by
 induction word with
 | nil => intro out cur; simp [aG6]
 | cons c r ih =>
  intro out cur
  rw [List.cons_append, aG6, if_neg (h c (by simp)), ih (fun b hb => h b (by simp [hb]))]
  simp
theorem bA5 (word : List UInt8) (h : ∀ b ∈ word, b ≠ 32) : ∀ out cur, aG6 out cur word = out ++ [cur ++ word] := by
 induction word with
 | nil => intro out cur; simp [aG6]
 | cons c r ih =>
  intro out cur
  rw [aG6, if_neg (h c (by simp)), ih (fun b hb => h b (by simp [hb]))]
  simp
theorem cG8 (nm vl : List UInt8) (h : ∀ b ∈ nm, b ≠ 58) : ∀ cur, aM2 cur (nm ++ 58 :: 32 :: vl) = some (cur ++ nm, vl) := by
 induction nm with
 | nil => intro cur; simp [aM2]
 | cons c r ih =>
  intro cur
  have ih := ih (fun b hb => h b (by simp [hb])) (cur ++ [c])
  cases r with
  | nil =>
   simp only [List.cons_append, List.nil_append] at ih ⊢
   rw [aM2, if_neg (fun e => h c (by simp) e.1), ih]
   simp
  | cons d r =>
   simp only [List.cons_append] at ih ⊢
   rw [aM2, if_neg (fun e => h c (by simp) e.1), ih]
   simp
def aE4 (f : ByteArray × ByteArray) : List UInt8 := bs f.1 ++ 58 :: 32 :: bs f.2
def aI1 (n : Nat) : List UInt8 := cM1 ++ 58 :: 32 :: numL n
theorem bM5 {fs : Fs} (h : aG5 fs) : ∀ f ∈ fs, aK6 f.1 ∧ aK7 f.2 ∧ f.1 ≠ clen := by
 intro f hf;obtain ⟨i, hi, rfl⟩ := List.getElem_of_mem hf;have := h.2 i hi
 have e : (aD0 fs i, aH7 fs i) = fs[i] := by
  unfold aD0 aH7
  rw [List.getD_eq_getElem?_getD, List.getElem?_eq_getElem hi]
  rfl
 rw [← e];exact ⟨this.1, this.2.1, this.2.2.2⟩
theorem cU7 {fs : Fs} (tail : List (List UInt8)) (h : ∀ f ∈ fs, aK6 f.1 ∧ aK7 f.2 ∧ f.1 ≠ clen) : aG4 (fs.map aE4 ++ tail) = fs.map (fun f => (bs f.1, bs f.2)) ++ aG4 tail := by
 induction fs with
 | nil => rfl
 | cons f r ih =>
  have hf := h f (by simp)
  have a0 : ∀ b ∈ bs f.1, b ≠ 58 := fun b hb e => by
   have := bO4 hf.1.2.2 b hb
   subst e
   unfold TokB at this
   simp at this
  simp only [List.map_cons, List.cons_append, aG4]
  rw [show aM2 [] (aE4 f) = some (bs f.1, bs f.2) from by have := cG8 (bs f.1) (bs f.2) a0 []; simpa [aE4] using this]
  simp only
  rw [if_neg (fun e => hf.2.2 (aE3 (by rw [e]; rfl))), ih (fun x hx => h x (by simp [hx]))]
theorem cG9 (n : Nat) : aG4 [aI1 n] = [] := by
 have a0 : ∀ b ∈ cM1, b ≠ 58 := by decide
 simp only [aG4]
 rw [show aM2 [] (aI1 n) = some (cM1, numL n) from by have := cG8 cM1 (numL n) a0 []; simpa [aI1] using this];simp
theorem dU9 (fs : Fs) : ∀ k, k ≤ fs.length → bs (ftTo fs k) = ((fs.take k).map aE4).flatMap (fun l => l ++ [13, 10]) := by
 intro k;induction k with
 | zero => intro _; rfl
 | succ k ih =>
  intro hk
  have e : (aD0 fs k, aH7 fs k) = fs[k]'(by omega) := by
   unfold aD0 aH7
   rw [List.getD_eq_getElem?_getD, List.getElem?_eq_getElem (by omega)]
   rfl
  have ht : fs.take (k + 1) = fs.take k ++ [fs[k]'(by omega)] := (List.take_append_getElem (by omega)).symm
  rw [ftTo, ht, ← e]
  simp only [aF7, ih (by omega), List.map_append, List.flatMap_append, List.map_cons, List.map_nil, List.flatMap_cons, List.flatMap_nil, aE4]
  simp [bs]
theorem dA6 (fs : Fs) : bs (aC7 fs) = (fs.map aE4).flatMap (fun l => l ++ [13, 10]) := by
 have := dU9 fs fs.length (Nat.le_refl _);rw [List.take_length] at this;exact this
def dA7 : List UInt8 := [72, 84, 84, 80, 47, 49, 46, 49]
def aP9 (st : Int) : List UInt8 := dA7 ++ 32 :: (numL st.toNat ++ 32 :: [46])
theorem aY2 (n : Nat) : bs (aB7 n) = numL n := rfl
theorem cR3 (st : Int) (fs : Fs) (body : Tx) : bs (aL7 st fs body) = (aP9 st :: (fs.map aE4 ++ [aI1 body.size])).flatMap (fun l => l ++ [13, 10]) ++ 13 :: 10 :: bs body := by
 unfold aL7;simp only [aF7, dA6, aY2, List.flatMap_cons, List.flatMap_append, List.flatMap_nil, aP9, aI1]
 simp [bs, aJ6, cR2, lnE2, dA7, dH5, cM1]
theorem bA6 (n : Nat) (h : n ≤ 1000000) : numL n ≠ [] ∧ ∀ b ∈ numL n, DigB b := by
 unfold numL;rw [if_neg (by omega)];by_cases h0 : n = 0
 ·rw [if_pos h0];refine ⟨by simp, ?_⟩;intro b hb;simp at hb
  subst hb;unfold DigB; decide
 rw [if_neg h0];have hf := bM4 8 n (by omega);refine ⟨fun e => ?_, hf.2.2⟩
 have h2 := hf.2.1;rw [e] at h2;exact h0 h2.symm
theorem aK3 (n : Nat) (h : n ≤ 1000000) : valL (numL n) = n := by
 unfold numL;rw [if_neg (by omega)];by_cases h0 : n = 0
 ·rw [if_pos h0, h0]; rfl
 rw [if_neg h0];exact (bM4 8 n (by omega)).2.1
theorem bI1 {f : ByteArray × ByteArray} (h : aK6 f.1 ∧ aK7 f.2 ∧ f.1 ≠ clen) : aE4 f ≠ [] ∧ ∀ b ∈ aE4 f, b ≠ 13 := by
 refine ⟨by simp [aE4], ?_⟩;intro b hb e;subst e;simp only [aE4, List.mem_append, List.mem_cons] at hb
 rcases hb with hb | hb | hb | hb
 ·have := bO4 h.1.2.2 _ hb;unfold TokB at this;simp at this
 ·exact absurd hb (by decide)
 ·exact absurd hb (by decide)
 have := bO4 h.2.1.2.2.1 _ hb;unfold ValB at this;simp at this
theorem bO5 (n : Nat) (h : n ≤ 1000000) : aI1 n ≠ [] ∧ ∀ b ∈ aI1 n, b ≠ 13 := by
 refine ⟨by simp [aI1], ?_⟩;intro b hb e;subst e;simp only [aI1, List.mem_append, List.mem_cons] at hb
 rcases hb with hb | hb | hb | hb
 ·exact absurd hb (by decide)
 ·exact absurd hb (by decide)
 ·exact absurd hb (by decide)
 have := (bA6 n h).2 _ hb;unfold DigB at this;simp at this
theorem dA8 {st : Int} (h : 100 ≤ st ∧ st ≤ 599) : aP9 st ≠ [] ∧ ∀ b ∈ aP9 st, b ≠ 13 := by
 refine ⟨by simp [aP9], ?_⟩;intro b hb e;subst e;simp only [aP9, List.mem_append, List.mem_cons] at hb
 rcases hb with hb | hb | hb | hb | hb
 ·exact absurd hb (by decide)
 ·exact absurd hb (by decide)
 ·have := (bA6 st.toNat (by omega)).2 _ hb;unfold DigB at this;simp at this
 ·exact absurd hb (by decide)
 exact absurd hb (by decide)
theorem aV4 {s : ByteArray} {st : Int} {fs : Fs} {body : ByteArray} (h : aJ7 s st fs body) :
  aO2 [] [] (bs s) = (aP9 st :: (fs.map aE4 ++ [aI1 body.size]), some (bs body)) := by
 obtain ⟨⟨hm, hf, hb⟩, rfl⟩ := h;rw [cR3, bX2]
 ·rfl
 intro l hl;simp only [List.mem_cons, List.mem_append, List.mem_map] at hl
 rcases hl with rfl | ⟨f, a0, rfl⟩ | hl
 ·exact dA8 hm
 ·exact bI1 (bM5 hf f a0)
 simp at hl
 subst hl;exact bO5 _ (by omega)
theorem bA7 {st : Int} (h : 100 ≤ st ∧ st ≤ 599) : aG6 [] [] (aP9 st) = [dA7, numL st.toNat, [46]] := by
 unfold aP9
 rw [aK0 _ _ (by decide), aK0 _ _ (fun b hb e => by
  have := (bA6 st.toNat (by omega)).2 b hb
  subst e
  unfold DigB at this
  simp at this), bA5 _ (by decide)]
 rfl
theorem bD4 {fs : Fs} (h : aG5 fs) (n : Nat) : aG4 (fs.map aE4 ++ [aI1 n]) = fs.map (fun f => (bs f.1, bs f.2)) := by
 rw [cU7 _ (bM5 h), cG9]; simp
theorem bO6 : ∀ {a b : Fs}, a.map (fun f => (bs f.1, bs f.2)) = b.map (fun f => (bs f.1, bs f.2)) → a = b
 | [], [], _ => rfl
 | [], _ :: _, h => by simp at h
 | _ :: _, [], h => by simp at h
 | f :: r, g :: t, h => by
  simp only [List.map_cons, List.cons.injEq, Prod.mk.injEq] at h
  rw [bO6 h.2]
  congr 1
  exact Prod.ext (aE3 h.1.1) (aE3 h.1.2)
theorem aJ7.uniq {s : ByteArray} {m m' : Int} {fs fs' : Fs} {body body' : ByteArray} (h : aJ7 s m fs body) (h' : aJ7 s m' fs' body') : m = m' ∧ fs = fs' ∧ body = body' := by
 have e := (aV4 h).symm.trans (aV4 h');simp only [Prod.mk.injEq, List.cons.injEq, Option.some.injEq] at e
 obtain ⟨⟨e1, e2⟩, e3⟩ := e;have e4 := congrArg (aG6 [] []) e1;rw [bA7 h.1.1, bA7 h'.1.1] at e4;simp only [List.cons.injEq] at e4
 have e5 := congrArg aG4 e2;rw [bD4 h.1.2.1, bD4 h'.1.2.1] at e5;have e6 := congrArg valL e4.2.1;have h1 := h.1.1;have h2 := h'.1.1;rw [aK3 _ (by omega), aK3 _ (by omega)] at e6;exact ⟨by omega, bO6 e5, aE3 e3⟩
end Go.Proofs.YtiobfnpmidjijaaGreatDoor
namespace Go.Proofs.YtiobfnpmidjijaaGreatDoor
open Go.Proofs.Tryz
open Go.RowKit
open Go.Lib hiding intOf
theorem bI2 (s : Tx) (w : World) (hs : s.size ≤ maxLen) :
    Calls prog 152 #[.string s] w fun e w' => aA5 (aI9 s) w e w' := by
  unfold maxLen at hs;go_enter func152, ntmps152;go_wp2
  go_loop [3] (fun i => ∃ k : Nat, k ≤ s.size ∧ i = .int .i64 k ∧ Hid (bU3 aV3 s k)) (fun i => s.size - (intOf i).toNat)
  case atStart => exact ⟨0, Nat.zero_le _, rfl, aS1 _ _⟩
  case round =>
    obtain ⟨k, hk, rfl, a0⟩ := hrel;by_cases hlt : k < s.size
    ·go_wp2
     all_goals first
       | (go_ret
          have a2 : ¬ aV3 ((s[k]'hlt).toNat : Int) := by
            unfold aV3
            omega
          exact aA5.no (fun h => a2 (h.1 k hlt)) (Below.refl _ _))
       | (go_round
          case rel =>
            have hy : aV3 ((s[k]'hlt).toNat : Int) := by
              unfold aV3
              omega
            exact ⟨k + 1, by omega, by go_num, aS2 a0.out hlt hy⟩
          case measure => simp [intOf]; omega)
    have a1 : Hid (AllB aV3 s) := aV1 a0.out hlt;by_cases h1 : (1 : Int) ≤ (s.size : Int)
    rotate_left
    ·go_wp2
     go_ret;exact aA5.no (fun h => by obtain ⟨_, h5, _⟩ := h; omega) (Below.refl _ _)
    have h0 : 0 < s.size := by omega
    by_cases h2 : (s.size : Int) ≤ 60
    rotate_left
    ·go_wp2
     go_ret;exact aA5.no (fun h => by obtain ⟨_, _, h5, _⟩ := h; omega) (Below.refl _ _)
    by_cases h3 : ((s[0]'h0).toNat : Int) = 47
    ·go_wp2
     go_ret;exact aA5.yes ⟨a1.out, by omega, by omega, h0, by omega⟩ (Below.refl _ _)
    have h4 : (((s[0]'h0).toNat : Int) == 47) = false := by rw [beq_eq_false_iff_ne]; exact h3
    go_wp2
    go_ret;exact aA5.no (fun h => by obtain ⟨_, _, _, _, h5⟩ := h; omega) (Below.refl _ _)
def aR0 (n : Nat) (fs : Fs) : Prop := ∀ i, i < n → (aD0 fs i).size ≤ maxLen ∧ (aH7 fs i).size ≤ maxLen
theorem aW8 {w W : World} {o : Obj} (h : Below (w.alloc o).heap.size (w.alloc o) W) : W.heap[w.heap.size]? = some o := by
 rw [h.block _ (by simp)]; exact heap_alloc_new w _
theorem aI4 {w W : World} {o : Obj} (h : Below (w.alloc o).heap.size (w.alloc o) W) : Below w.heap.size w W :=
 ((Below.refl _ w).alloc (Nat.le_refl _) o).trans (h.mono (by simp))
theorem aU2 (x lo hi : Int) (w : World) :
  Calls prog 69 #[.int .i64 x, .int .i64 lo, .int .i64 hi] w fun e w' => e = .returned (.bool (decide (lo ≤ x ∧ x ≤ hi))) ∧ w' = w := by
 by_cases h1 : lo ≤ x
 rotate_left
 ·go_enter func69, ntmps69;go_wp2
  go_ret;exact ⟨by simp; omega, rfl⟩
 by_cases h2 : x ≤ hi
 rotate_left
 ·go_enter func69, ntmps69;go_wp2
  go_ret;exact ⟨by simp [h2], rfl⟩
 go_enter func69, ntmps69;go_wp2
 go_ret;exact ⟨by simp [h1, h2], rfl⟩
theorem bC1 (st : Int) (v : Value) (b : Tx) (n base : Nat) (fs : Fs) (w : World) (hv : aB4 w base v n fs) (hn : n ≤ 1073741824) (hsz : aR0 n fs) (hb : b.size ≤ maxLen) :
  Calls prog 151 #[.agg #[.int .i64 st, v, .string b]] w fun e w' => aA5 (aN1 st fs b) w e w' := by
 obtain ⟨oa, a1, rfl, _⟩ := hv.slice;obtain ⟨r, hr⟩ := exq (w.heap.size)
 have HR : Hid (∀ W, Below (w.alloc (.cells #[.int .i64 st, .slice oa n a1, .string b] 34)).heap.size (w.alloc (.cells #[.int .i64 st, .slice oa n a1, .string b] 34)) W → (W.cell? ⟨r, 1, none⟩ = some (.slice oa n a1) ∧ W.cell? ⟨r, 2, none⟩ = some (.string b)) ∧ aB4 W base (.slice oa n a1) n fs ∧ Bw w W) := fun W h => by
  have hh := aW8 h
  rw [← hr] at hh
  exact ⟨⟨by simp [World.cell?, hh], by simp [World.cell?, hh]⟩, hv.below (aI4 h), aI4 h⟩
 have a8 := hid hsz;unfold maxLen at hb;clear hv hsz;go_enter func151, ntmps151;go_wp2_with fail
 refine (aU2 st 100 599 _).mono ?_;rintro e w1 ⟨rfl, a5⟩;have a3 : Below (w.alloc (.cells #[.int .i64 st, .slice oa n a1, .string b] 34)).heap.size (w.alloc (.cells #[.int .i64 st, .slice oa n a1, .string b] 34)) w1 := by rw [a5]; exact Below.refl _ _
 clear a5;rw [← hr];obtain ⟨⟨c2, c3⟩, a6, a2⟩ := HR.out w1 a3;have a9 := hid a6;clear a6;by_cases hm : 100 ≤ st ∧ st ≤ 599
 rotate_left
 ·have e1 : decide (100 ≤ st ∧ st ≤ 599) = false := by simpa using hm
  have HF : Hid (¬ aN1 st fs b) := fun h => hm h.1
  rw [e1];clear hr hm e1;go_wp2_with fail
  go_ret;exact aA5.no HF.out a2
 have e1 : decide (100 ≤ st ∧ st ≤ 599) = true := by simpa using hm
 have HM := hid hm;rw [e1];clear hr hm e1;go_wp2_with fail
 refine (bL4 _ n base fs _ a9.out hn a8.out).mono ?_;rintro e w3 ⟨b2, rfl, a4, a7⟩;have b0 := a3.trans (a7.mono a3.size);clear c2 c3 a7 a3 a2;obtain ⟨⟨c2, c3⟩, _, a0⟩ := HR.out w3 b0;cases b2
 ·have HF : Hid (¬ aN1 st fs b) := fun h => by have := a4.2 h.2.1; cases this
  clear a4;go_wp2_with fail
  go_ret;exact aA5.no HF.out a0
 have b1 : Hid (aG5 fs) := a4.1 rfl;clear a4;by_cases h120 : (b.size : Int) ≤ 120
 ·have HY : Hid (aN1 st fs b) := ⟨HM.out, b1.out, by omega⟩;go_wp2_with fail
  go_ret;exact aA5.yes HY.out a0
 have HF : Hid (¬ aN1 st fs b) := fun h => by have := h.2.2; omega
 have hd : decide ((b.size : Int) ≤ 120) = false := by simpa using h120
 go_wp2_with fail
 go_ret;exact aA5.no HF.out a0
theorem bM6 {fs : Fs} (h : aG5 fs) : (aC7 fs).size ≤ 672 := by
 have h1 : ∀ k, k ≤ fs.length → (ftTo fs k).size ≤ 84 * k := by
  intro k
  induction k with
  | zero => intro _; exact Nat.le_refl _
  | succ k ih =>
   intro hk
   have h2 := h.2 k (by omega)
   have h3 := h2.1.2.1
   have h4 := h2.2.1.2.1
   have := ih (by omega)
   rw [bE4]; omega
 have := h1 fs.length (Nat.le_refl _);have := h.1;unfold aC7; omega
theorem dA9 : ∀ (f n : Nat), (dgF f n).length ≤ f
 | 0, n => by simp [dgF]
 | f + 1, n => by
  by_cases h : n = 0
  · rw [h, aW4]; simp
  ·rw [bH6 f n h]
   have := dA9 f (n / 10)
   simp; omega
theorem aD8 (n : Nat) : (aB7 n).size ≤ 8 := by
 have : (aB7 n).size = (numL n).length := by simp [aB7, ByteArray.size]
 rw [this];unfold numL;split
 ·simp
 split
 ·simp
 exact dA9 8 n
theorem bA8 {b : ByteArray} (h : b.size = 0) : b = ⟨#[]⟩ := by
 apply ByteArray.ext
 exact Array.eq_empty_of_size_eq_zero h
def bO7 (p : Prop) (t : Tx) (w : World) (e : Ending) (w' : World) : Prop := ∃ u : ByteArray, e = .returned (.string u) ∧ (p → u = t) ∧ (¬ p → u = ⟨#[]⟩) ∧ Below w.heap.size w w'
theorem aR1 (st : Int) (v : Value) (b : Tx) (n base : Nat) (fs : Fs) (w : World) (hv : aB4 w base v n fs) (hn : n ≤ 1073741824) (hsz : aR0 n fs) (hb : b.size ≤ maxLen) :
  Calls prog 150 #[.agg #[.int .i64 st, v, .string b]] w fun e w' => bO7 (aN1 st fs b) (aL7 st fs b) w e w' := by
 obtain ⟨oa, a0, rfl, _⟩ := hv.slice;obtain ⟨r, hr⟩ := exq (w.heap.size)
 have HR : Hid (∀ W, Below (w.alloc (.cells #[.int .i64 st, .slice oa n a0, .string b] 34)).heap.size (w.alloc (.cells #[.int .i64 st, .slice oa n a0, .string b] 34)) W → (W.cell? ⟨r, 0, none⟩ = some (.int .i64 st) ∧ W.cell? ⟨r, 1, none⟩ = some (.slice oa n a0) ∧ W.cell? ⟨r, 2, none⟩ = some (.string b)) ∧ aB4 W base (.slice oa n a0) n fs ∧ Bw w W) := fun W h => by
  have hh := aW8 h
  rw [← hr] at hh
  exact ⟨⟨by simp [World.cell?, hh], by simp [World.cell?, hh], by simp [World.cell?, hh]⟩, hv.below (aI4 h), aI4 h⟩
 obtain ⟨_, b0, _⟩ := HR.out _ (Below.refl _ _);go_enter func150, ntmps150;go_wp2_with fail
 refine (bC1 st _ b n base fs _ b0 hn hsz hb).mono ?_;rintro e w1 ⟨b1, rfl, a2, a3⟩;rw [← hr];obtain ⟨⟨c0, c1, c2⟩, b2, a1⟩ := HR.out w1 a3;clear hv b0 hsz hb;cases b1
 ·have HF : Hid (¬ aN1 st fs b) := fun h => by have := a2.2 h; cases this
  clear a2 b2 a3 hr;go_wp2_with fail
  go_ret;exact ⟨_, rfl, fun h => absurd h HF.out, fun _ => rfl, a1⟩
 have HY : Hid (aN1 st fs b) := a2.1 rfl;obtain ⟨k, rfl⟩ : ∃ k : Nat, st = (k : Int) := ⟨st.toNat, by have := HY.out.1; omega⟩;have c9 : k ≤ 599 := by have := HY.out.1; omega
 have d0 : b.size ≤ 120 := HY.out.2.2;obtain ⟨nk, a5⟩ := exq (aB7 k);have a6 := aD8 k;rw [← a5] at a6;obtain ⟨nt, a7⟩ := exq (aB7 b.size);have a8 := aD8 b.size;rw [← a7] at a8;obtain ⟨ft, a4⟩ := exq (aC7 fs);have b7 := bM6 HY.out.2.1;rw [← a4] at b7;have HT : Hid ((aC7 fs).size ≤ 1099511627776) := by show _ ≤ _; rw [← a4]; omega
 have b3 := hid a4.symm;have b4 := hid a5.symm;have b5 := hid a7.symm
 have HE : Hid (⟨#[72, 84, 84, 80, 47, 49, 46, 49, 32]⟩ ++ nk ++ ⟨#[32, 46, 13, 10]⟩ ++ ft ++ ⟨#[99, 111, 110, 116, 101, 110, 116, 45, 108, 101, 110, 103, 116, 104, 58, 32]⟩ ++ nt ++ ⟨#[13, 10, 13, 10]⟩ ++ b = aL7 (k : Int) fs b) := by
  show _ = _
  unfold aL7
  rw [b3.out, b5.out, show ((k : Int)).toNat = k by omega, b4.out]; rfl
 clear a2 hr b2 a5 a7 a4;have e1 : (⟨#[72, 84, 84, 80, 47, 49, 46, 49, 32]⟩ : Tx).size = 9 := rfl;have e2 : (⟨#[32, 46, 13, 10]⟩ : Tx).size = 4 := rfl;have e3 : (⟨#[99, 111, 110, 116, 101, 110, 116, 45, 108, 101, 110, 103, 116, 104, 58, 32]⟩ : Tx).size = 16 := rfl;have e4 : (⟨#[13, 10, 13, 10]⟩ : Tx).size = 4 := rfl;have q1 : ¬ 9223372036854775807 < 9 + nk.size := by omega
 have q2 : ¬ 9223372036854775807 < 9 + nk.size + 4 := by omega
 have q3 : ¬ 9223372036854775807 < 9 + nk.size + 4 + ft.size := by omega
 have q4 : ¬ 9223372036854775807 < 9 + nk.size + 4 + ft.size + 16 := by omega
 have q5 : ¬ 9223372036854775807 < 9 + nk.size + 4 + ft.size + 16 + nt.size := by omega
 have q6 : ¬ 9223372036854775807 < 9 + nk.size + 4 + ft.size + 16 + nt.size + 4 := by omega
 have q7 : ¬ 9223372036854775807 < 9 + nk.size + 4 + ft.size + 16 + nt.size + 4 + b.size := by omega
 have HA : Hid (∀ w2 w3, Hid (Below (w.alloc (.cells #[.int .i64 (k : Int), .slice oa n a0, .string b] 34)).heap.size (w.alloc (.cells #[.int .i64 (k : Int), .slice oa n a0, .string b] 34)) w2) → Below w2.heap.size w2 w3 → (w3.cell? ⟨r, 0, none⟩ = some (.int .i64 (k : Int)) ∧ w3.cell? ⟨r, 1, none⟩ = some (.slice oa n a0) ∧ w3.cell? ⟨r, 2, none⟩ = some (.string b)) ∧ aB4 w3 base (.slice oa n a0) n fs ∧ Hid (Below (w.alloc (.cells #[.int .i64 (k : Int), .slice oa n a0, .string b] 34)).heap.size (w.alloc (.cells #[.int .i64 (k : Int), .slice oa n a0, .string b] 34)) w3) ∧ Bw w w3) := fun w2 w3 h2 h => by
  have b6 := h2.out.trans (h.mono h2.out.size)
  obtain ⟨h5, h6, h7⟩ := HR.out w3 b6
  exact ⟨h5, h6, b6, h7⟩
 have b8 : Hid (Below (w.alloc (.cells #[.int .i64 (k : Int), .slice oa n a0, .string b] 34)).heap.size (w.alloc (.cells #[.int .i64 (k : Int), .slice oa n a0, .string b] 34)) w1.drew) := a3.drew;clear a3 a1;go_wp2_with fail
 go_region_held3 (fun W => W.cell? ⟨r, 0, none⟩ = some (.int .i64 (k : Int)) ∧ W.cell? ⟨r, 1, none⟩ = some (.slice oa n a0) ∧ W.cell? ⟨r, 2, none⟩ = some (.string b)) (first | assumption | go_keep) (first | (go_at_call 237; refine (bE5 _ n base fs _ (by assumption) hn HT.out).mono ?_; rintro e w3 ⟨rfl, b9⟩; rw [b3.out]; obtain ⟨d1, d2, c3, c4⟩ := HA.out w2 w3 c5 b9) | (go_at_call_of 63 (Value.int .i64 (k : Int)); refine (aK8 k _ (by omega)).mono ?_; rintro e w2 ⟨rfl, c6⟩; rw [b4.out]; obtain ⟨d3, d4, c5, c7⟩ := HA.out _ w2 b8 c6) | (go_at_call_of 63 (Value.int .i64 (b.size : Int)); refine (aK8 b.size _ (by omega)).mono ?_; rintro e w4 ⟨rfl, c8⟩; rw [b5.out]; obtain ⟨d5, d6, d7, a9⟩ := HA.out w3 w4 c3 c8))
 go_wp2_with fail
 go_ret;exact ⟨_, rfl, fun _ => HE.out, fun h => absurd HY.out h, a9⟩
end Go.Proofs.YtiobfnpmidjijaaGreatDoor
namespace Go.Proofs.YtiobfnpmidjijaaGreatDoor
open Go.Proofs.Tryz
open Go.RowKit
theorem aE2 (s : Tx) (f j : Nat) : bs (s.extract f j) = ((bs s).take j).drop f := by
 simp [bs, List.drop_take]
theorem dM5 (s : Tx) (j : Nat) (h : j < s.size) : (bs s)[j]'(by rw [aC4]; exact h) = s[j]'h := rfl
theorem aO4 (s : Tx) (j : Nat) (h : j < s.size) : (bs s).drop j = s[j]'h :: (bs s).drop (j + 1) := by
 rw [List.drop_eq_getElem_cons (by rw [aC4]; exact h), dM5 s j h]
theorem bO8 (s : Tx) (f j : Nat) (hf : f ≤ j) (h : j < s.size) : ((bs s).take (j + 1)).drop f = ((bs s).take j).drop f ++ [s[j]'h] := by
 have hl : j < (bs s).length := by rw [aC4]; exact h
 rw [List.take_succ_eq_append_getElem hl, List.drop_append_of_le_length (by rw [List.length_take]; omega), dM5 s j h]
theorem bO9 (s : Tx) (k : Nat) : ((bs s).take k).drop k = [] := by
 apply List.drop_eq_nil_of_le
 rw [List.length_take]; omega
theorem bL5 (b : UInt8) (n : Nat) (hn : n < 256) : b = UInt8.ofNat n ↔ b.toNat = n := by
 constructor
 ·intro h; rw [h, UInt8.toNat_ofNat']; omega
 intro h; rw [← h]; simp
def aY7 (s : Tx) (l : Ts) (f j : Nat) : Prop :=
 aO2 [] [] (bs s) = aO2 (l.map bs) (((bs s).take (max j f)).drop f) ((bs s).drop (max j f))
theorem dH6 (s : Tx) : aY7 s [] 0 0 := by simp [aY7]
theorem dM6 {s : ByteArray} {l : Ts} {f j : Nat} (hf : f = j + 1) (h : aY7 s l f j) : aY7 s l f (j + 1) := by
 unfold aY7 at *;rw [show max (j + 1) f = max j f by omega]; exact h
theorem dH7 {s : ByteArray} {l : Ts} {f j : Nat} (hf : f ≤ j) (hj : j + 1 < s.size) (hn : ¬ ((s[j]'(by omega)).toNat = 13 ∧ (s[j + 1]'hj).toNat = 10)) (h : aY7 s l f j) : aY7 s l f (j + 1) := by
 unfold aY7 at *;rw [show max j f = j by omega, aO4 s j (by omega), aO4 s (j + 1) hj, aO2, if_neg (fun e => hn ⟨(bL5 _ 13 (by omega)).1 e.1, (bL5 _ 10 (by omega)).1 e.2⟩)] at h
 rw [h, show max (j + 1) f = j + 1 by omega, bO8 s f j hf (by omega), aO4 s (j + 1) hj]
theorem dM7 {s : ByteArray} {l : Ts} {f j : Nat} (hf : f < j) (hj : j + 1 < s.size) (h1 : (s[j]'(by omega)).toNat = 13) (h2 : (s[j + 1]'hj).toNat = 10) (h : aY7 s l f j) : aY7 s (l ++ [s.extract f j]) (j + 2) (j + 1) := by
 unfold aY7 at *
 have a0 : ((bs s).take j).drop f ≠ [] := fun e => by
  have := congrArg List.length e
  rw [List.length_drop, List.length_take, aC4] at this
  simp at this; omega
 rw [show max j f = j by omega, aO4 s j (by omega), aO4 s (j + 1) hj, aO2, if_pos ⟨(bL5 _ 13 (by omega)).2 h1, (bL5 _ 10 (by omega)).2 h2⟩, if_neg a0] at h;rw [h, show max (j + 1) (j + 2) = j + 2 by omega, bO9, List.map_append, List.map_cons, List.map_nil, aE2]
theorem dQ4 {s : ByteArray} {l : Ts} {f j : Nat} (hf : f = j) (hj : j + 1 < s.size) (h1 : (s[j]'(by omega)).toNat = 13) (h2 : (s[j + 1]'hj).toNat = 10) (h : aY7 s l f j) : aO2 [] [] (bs s) = (l.map bs, some ((bs s).drop (j + 2))) := by
 unfold aY7 at h;subst hf;rw [show max f f = f by omega, bO9, aO4 s f (by omega), aO4 s (f + 1) hj, aO2, if_pos ⟨(bL5 _ 13 (by omega)).2 h1, (bL5 _ 10 (by omega)).2 h2⟩, if_pos rfl] at h;exact h
theorem bP0 (out : List (List UInt8)) (cur r : List UInt8) (h : r.length ≤ 1) : aO2 out cur r = (out, none) := by
 match r, h with
 | [], _ => rfl
 | [_], _ => rfl
 | _ :: _ :: _, h => simp at h
theorem dQ5 {s : ByteArray} {l : Ts} {f j : Nat} (hj : ¬ j + 1 < s.size) (h : aY7 s l f j) : aO2 [] [] (bs s) = (l.map bs, none) := by
 unfold aY7 at h;rw [h, bP0];rw [List.length_drop, aC4]; omega
def bE8 (s : Tx) (l : Ts) (f k : Nat) : Prop :=
 if k ≤ s.size then aG6 [] [] (bs s) = aG6 (l.map bs) (((bs s).take k).drop f) ((bs s).drop k) else aG6 [] [] (bs s) = l.map bs
theorem dH8 (s : Tx) : bE8 s [] 0 0 := by simp [bE8]
theorem dH9 {s : ByteArray} {l : Ts} {f k : Nat} (hk : k < s.size) (hc : (s[k]'hk).toNat = 32) (h : bE8 s l f k) : bE8 s (l ++ [s.extract f k]) (k + 1) (k + 1) := by
 unfold bE8 at *;rw [if_pos (by omega), aO4 s k hk, aG6, if_pos (show s[k]'hk = 32 from (bL5 _ 32 (by omega)).2 hc)] at h;rw [if_pos (by omega), h, bO9, List.map_append, List.map_cons, List.map_nil, aE2]
theorem dM8 {s : ByteArray} {l : Ts} {f k : Nat} (hk : k = s.size) (h : bE8 s l f k) : bE8 s (l ++ [s.extract f k]) (k + 1) (k + 1) := by
 unfold bE8 at *;rw [if_pos (by omega), (show (bs s).drop k = [] from List.drop_eq_nil_of_le (by rw [aC4]; omega)), aG6] at h;rw [if_neg (by omega), h, List.map_append, List.map_cons, List.map_nil, aE2]
theorem dI0 {s : ByteArray} {l : Ts} {f k : Nat} (hf : f ≤ k) (hk : k < s.size) (hc : (s[k]'hk).toNat ≠ 32) (h : bE8 s l f k) : bE8 s l f (k + 1) := by
 unfold bE8 at *;rw [if_pos (by omega), aO4 s k hk, aG6, if_neg (show ¬ s[k]'hk = 32 from fun e => hc ((bL5 _ 32 (by omega)).1 e))] at h
 rw [if_pos (by omega), h, bO8 s f k hf hk]
theorem dQ6 {s : ByteArray} {l : Ts} {f k : Nat} (hk : ¬ k ≤ s.size) (h : bE8 s l f k) : aG6 [] [] (bs s) = l.map bs := by
 unfold bE8 at h;rwa [if_neg hk] at h
def bU5 (s : Tx) (k : Nat) : Prop := aM2 [] (bs s) = aM2 ((bs s).take k) ((bs s).drop k)
theorem dI1 (s : Tx) : bU5 s 0 := by simp [bU5]
theorem cR4 {s : ByteArray} {k : Nat} (hk : k + 1 < s.size) (hn : ¬ ((s[k]'(by omega)).toNat = 58 ∧ (s[k + 1]'hk).toNat = 32)) (h : bU5 s k) : bU5 s (k + 1) := by
 unfold bU5 at *;rw [aO4 s k (by omega), aO4 s (k + 1) hk, aM2, if_neg (fun e => hn ⟨(bL5 _ 58 (by omega)).1 e.1, (bL5 _ 32 (by omega)).1 e.2⟩)] at h
 have := bO8 s 0 k (Nat.zero_le _) (by omega);simp only [List.drop_zero] at this
 rw [h, this, aO4 s (k + 1) hk]
theorem dQ7 {s : ByteArray} {k : Nat} (hk : k + 1 < s.size) (h1 : (s[k]'(by omega)).toNat = 58) (h2 : (s[k + 1]'hk).toNat = 32) (h : bU5 s k) : aM2 [] (bs s) = some (bs (s.extract 0 k), bs (s.extract (k + 2) s.size)) := by
 unfold bU5 at h;rw [aO4 s k (by omega), aO4 s (k + 1) hk, aM2, if_pos ⟨(bL5 _ 58 (by omega)).2 h1, (bL5 _ 32 (by omega)).2 h2⟩] at h;rw [h, aE2, aE2, List.drop_zero, List.take_of_length_le (i := s.size) (l := bs s) (by rw [aC4]; omega)]
theorem bK2 (cur r : List UInt8) (h : r.length ≤ 1) : aM2 cur r = none := by
 match r, h with
 | [], _ => rfl
 | [_], _ => rfl
 | _ :: _ :: _, h => simp at h
theorem dQ8 {s : ByteArray} {k : Nat} (hk : ¬ k + 1 < s.size) (h : bU5 s k) : aM2 [] (bs s) = none := by
 unfold bU5 at h;rw [h, bK2];rw [List.length_drop, aC4]; omega
def bsP (f : ByteArray × ByteArray) : List UInt8 × List UInt8 := (bs f.1, bs f.2)
def aY9 (lines : Ts) (l : Fs) (i : Nat) : Prop := aG4 (lines.map bs) = l.map bsP ++ aG4 ((lines.drop i).map bs)
theorem dI2 (lines : Ts) : aY9 lines [] 0 := by simp [aY9]
theorem dM9 {lines : Ts} {l : Fs} {i : Nat} (hi : i < lines.length) (hf : aM2 [] (bs (lines[i]'hi)) = none) (h : aY9 lines l i) : aY9 lines l (i + 1) := by
 unfold aY9 at *;rw [h, List.drop_eq_getElem_cons hi, List.map_cons, aG4, hf]
theorem dN0 {lines : Ts} {l : Fs} {i : Nat} {nm vl : ByteArray} (hi : i < lines.length) (hf : aM2 [] (bs (lines[i]'hi)) = some (bs nm, bs vl)) (hn : nm = clen) (h : aY9 lines l i) : aY9 lines l (i + 1) := by
 unfold aY9 at *;rw [h, List.drop_eq_getElem_cons hi, List.map_cons, aG4, hf];simp only
 rw [if_pos (by rw [hn]; rfl)]
theorem dN1 {lines : Ts} {l : Fs} {i : Nat} {nm vl : ByteArray} (hi : i < lines.length) (hf : aM2 [] (bs (lines[i]'hi)) = some (bs nm, bs vl)) (hn : nm ≠ clen) (h : aY9 lines l i) : aY9 lines (l ++ [(nm, vl)]) (i + 1) := by
 unfold aY9 at *;rw [h, List.drop_eq_getElem_cons hi, List.map_cons, aG4, hf];simp only
 rw [if_neg (fun e => hn (aE3 (by rw [e]; rfl)))]
 simp [bsP]
theorem dQ9 {lines : Ts} {l : Fs} {i : Nat} (hi : lines.length ≤ i) (h : aY9 lines l i) : aG4 (lines.map bs) = l.map bsP := by
 unfold aY9 at h;rw [h, List.drop_eq_nil_of_le hi];simp [aG4]
end Go.Proofs.YtiobfnpmidjijaaGreatDoor
namespace Go.Proofs.YtiobfnpmidjijaaGreatDoor
open Go.Proofs.Tryz
open Go.RowKit
open Go.Lib hiding intOf
def dR0 (s : Tx) (w : World) (e : Ending) (w' : World) : Prop :=
 ∃ (v : Value) (xs : Ts) (p : Int), e = .returned (.tuple #[v, .int .i64 p]) ∧ w'.ownsRow w.heap.size 9 1 v xs.length (xs.map Value.string) ∧ xs.length ≤ s.size ∧ Below w.heap.size w w' ∧
  ((p = -1 ∧ aO2 [] [] (bs s) = (xs.map bs, none)) ∨ ∃ k : Nat, p = (k : Int) ∧ k ≤ s.size ∧ aO2 [] [] (bs s) = (xs.map bs, some ((bs s).drop k)))
theorem dN2 {s : ByteArray} {l : Ts} {f j : Nat} (hf : f ≤ j + 1) (hj : j + 1 < s.size) (hn : f ≤ j → ¬ ((s[j]'(by omega)).toNat = 13 ∧ (s[j + 1]'hj).toNat = 10)) (h : aY7 s l f j) : aY7 s l f (j + 1) := by
 by_cases c : f ≤ j
 rotate_left
 ·exact dM6 (by omega) h
 exact dH7 c hj (hn c) h
theorem cU8 (s : Tx) (w : World) (hs : s.size ≤ 4000000) :
  Calls prog 269 #[.string s] w fun e w' => dR0 s w e w' := by
 obtain ⟨i0, hi, b1, b2, b3⟩ := info_parts bU4;go_enter func269, ntmps269;go_wp2
 go_loopw [4, 5, 6] (fun v a i wr => ∃ (j f : Nat) (l : Ts), (j + 1 ≤ s.size ∨ j = 0) ∧ f ≤ j + 1 ∧ l.length ≤ f ∧ f ≤ s.size ∧ i = .int .i64 ((j : Int) + 1) ∧ a = .int .i64 (f : Int) ∧ Bw w wr ∧
   Hid (aY7 s l f j) ∧ wr.ownsRow w.heap.size 9 1 v l.length (l.map Value.string)) (fun _ _ i _ => s.size + 1 - (intOf i).toNat)
 case atStart =>
  exact ⟨0, 0, [], .inr rfl, Nat.zero_le _, Nat.le_refl _, Nat.zero_le _, rfl, rfl, (Below.refl _ _).alloc (Nat.le_refl _) _, dH6 s, ⟨rfl, .inr ⟨w.heap.size, 0, #[], rfl, Nat.le_refl _, heap_alloc_new w _, Nat.le_refl _, Nat.zero_le _, rfl, rfl⟩⟩⟩
 case round =>
  obtain ⟨j, f, l, hj, a5, a6, a7, rfl, rfl, a1, a0, hown⟩ := hrel;by_cases hlt : j + 1 < s.size
  rotate_left
  ·have HE : Hid _ := dQ5 hlt a0.out;have a8 : ¬ (j : Int) + 1 < (s.size : Int) := by omega
   go_wp2
   go_ret2
   exact ⟨_, l, _, rfl, hown, by omega, a1, .inl ⟨rfl, HE.out⟩⟩
  have a8 : (j : Int) + 1 < (s.size : Int) := by omega
  have a9 : j < s.size := by omega
  by_cases h10 : (s[j + 1]'hlt).toNat = 10
  rotate_left
  ·have t1 : (((s[j + 1]'hlt).toNat : Int) != 10) = true := by rw [bne_iff_ne]; omega
   have HI : Hid _ := dN2 a5 hlt (fun _ h => h10 h.2) a0.out
   clear h10 hj;go_wp2
   go_roundw
   case rel => exact ⟨j + 1, f, l, .inl (by omega), by omega, a6, a7, by go_num, rfl, a1, HI, hown⟩
   case measure => simp [intOf]; omega
  have t1 : (((s[j + 1]'hlt).toNat : Int) != 10) = false := by rw [bne_eq_false_iff_eq]; omega
  by_cases h13 : (s[j]'a9).toNat = 13
  rotate_left
  ·have t2 : (((s[j]'a9).toNat : Int) != 13) = true := by rw [bne_iff_ne]; omega
   have HI : Hid _ := dN2 a5 hlt (fun _ h => h13 h.1) a0.out
   clear h10 h13 hj;go_wp2
   go_roundw
   case rel => exact ⟨j + 1, f, l, .inl (by omega), by omega, a6, a7, by go_num, rfl, a1, HI, hown⟩
   case measure => simp [intOf]; omega
  have t2 : (((s[j]'a9).toNat : Int) != 13) = false := by rw [bne_eq_false_iff_eq]; omega
  by_cases hf : f ≤ j
  rotate_left
  ·have t3 : (j : Int) < (f : Int) := by omega
   have HI : Hid _ := dN2 a5 hlt (fun h => absurd h hf) a0.out
   clear h10 h13 hj;go_wp2
   go_roundw
   case rel => exact ⟨j + 1, f, l, .inl (by omega), by omega, a6, a7, by go_num, rfl, a1, HI, hown⟩
   case measure => simp [intOf]; omega
  have t3 : ¬ (j : Int) < (f : Int) := by omega
  by_cases hfe : f = j
  ·have HF : Hid _ := dQ4 hfe hlt h13 h10 a0.out;subst hfe;clear h10 h13 hj;go_wp2
   go_ret2
   exact ⟨_, l, _, rfl, hown, by omega, a1, .inr ⟨f + 2, by omega, by omega, HF.out⟩⟩
  have HI : Hid _ := dM7 (by omega) hlt h13 h10 a0.out
  have he : (s.extract f j).toList.isEmpty = false := by
   rw [ByteArray.toList_eq, List.isEmpty_eq_false_iff]
   intro e
   have := congrArg List.length e
   simp at this; omega
  have b4 : l.length + 1 ≤ maxLen := by unfold maxLen; omega
  have b5 : (l.length + 1) * 16 ≤ 140737488355328 := by omega
  have b0 : ∀ o, w.heap.size ≤ (wr.alloc o).heap.size := fun o => by have := a1.size; simp; omega
  clear h10 h13 hj;go_wp2_with (at_builtin; refine wpList_append_own _ rfl _ _ 24 rfl w.heap.size 9 i0 (.string ⟨#[]⟩) 1 16 underlying24 hi b1 b2 b3 rfl (by decide) _ _ _ rfl (hown.alloc _) ⟨wr.heap.size, 0, none⟩ 1 1 [.string (s.extract f j)] rfl rfl (cell_one_new _ _ _) (aW7 _) b4 b5 (b0 _) ?_)
  intro v1 w2 a2 a3 _;have b6 : Bw w w2 := (a1.alloc a1.size _).grown a3 (b0 _) (fun g hg => aC8 hown hg)
  have a4 : w2.ownsRow w.heap.size 9 1 v1 (l ++ [s.extract f j]).length ((l ++ [s.extract f j]).map Value.string) := by simpa using a2
  clear hown b0 a3 a2 a1;go_wp2
  go_roundw
  case rel => exact ⟨j + 1, j + 2, _, .inl (by omega), by omega, by simp; omega, by omega, by go_num, by go_num, b6, HI, a4⟩
  case measure => simp [intOf]; omega
def dN3 (s : Tx) (w : World) (e : Ending) (w' : World) : Prop :=
 ∃ (v : Value) (xs : Ts), e = .returned v ∧ w'.ownsRow w.heap.size 9 1 v xs.length (xs.map Value.string) ∧ xs.length ≤ s.size + 1 ∧ Below w.heap.size w w' ∧ aG6 [] [] (bs s) = xs.map bs
theorem aL3 (s : Tx) (w : World) (hs : s.size ≤ 4000000) :
  Calls prog 212 #[.string s] w fun e w' => dN3 s w e w' := by
 obtain ⟨i0, hi, a8, a9, b0⟩ := info_parts bU4;go_enter func212, ntmps212;go_wp2
 go_loopw [3, 4, 5] (fun v a i wr => ∃ (k f : Nat) (l : Ts), k ≤ s.size + 1 ∧ f ≤ k ∧ l.length ≤ k ∧ i = .int .i64 (k : Int) ∧ a = .int .i64 (f : Int) ∧ Bw w wr ∧
   Hid (bE8 s l f k) ∧ wr.ownsRow w.heap.size 9 1 v l.length (l.map Value.string)) (fun _ _ i _ => s.size + 1 - (intOf i).toNat)
 case atStart =>
  exact ⟨0, 0, [], Nat.zero_le _, Nat.le_refl _, Nat.le_refl _, rfl, rfl, (Below.refl _ _).alloc (Nat.le_refl _) _, dH8 s, ⟨rfl, .inr ⟨w.heap.size, 0, #[], rfl, Nat.le_refl _, heap_alloc_new w _, Nat.le_refl _, Nat.zero_le _, rfl, rfl⟩⟩⟩
 case round =>
  obtain ⟨k, f, l, hk, b3, b5, rfl, rfl, a3, a4, hown⟩ := hrel;have b1 : l.length + 1 ≤ maxLen := by unfold maxLen; omega
  have b2 : (l.length + 1) * 16 ≤ 140737488355328 := by omega
  by_cases hks : k ≤ s.size
  rotate_left
  ·have HE : Hid _ := dQ6 hks a4.out;have a6 : ¬ (k : Int) ≤ (s.size : Int) := by omega
   go_wp2
   go_ret;exact ⟨_, l, rfl, hown, by omega, a3, HE.out⟩
  have a6 : (k : Int) ≤ (s.size : Int) := by omega
  by_cases hlt : k < s.size
  rotate_left
  ·obtain rfl : k = s.size := by omega
   have HI : Hid _ := dM8 rfl a4.out;have a5 : ∀ o, w.heap.size ≤ (wr.alloc o).heap.size := fun o => by have := a3.size; simp; omega
   clear hk;go_wp2_with (at_builtin; refine wpList_append_own _ rfl _ _ 24 rfl w.heap.size 9 i0 (.string ⟨#[]⟩) 1 16 underlying24 hi a8 a9 b0 rfl (by decide) _ _ _ rfl (hown.alloc _) ⟨wr.heap.size, 0, none⟩ 1 1 [.string (s.extract f s.size)] rfl rfl (cell_one_new _ _ _) (aW7 _) b1 b2 (a5 _) ?_)
   intro v1 w2 a0 a1 _;have a7 : Bw w w2 := (a3.alloc a3.size _).grown a1 (a5 _) (fun g hg => aC8 hown hg)
   have a2 : w2.ownsRow w.heap.size 9 1 v1 (l ++ [s.extract f s.size]).length ((l ++ [s.extract f s.size]).map Value.string) := by simpa using a0
   clear hown a5 a1 a0 a3;go_wp2
   go_roundw
   case rel => exact ⟨s.size + 1, s.size + 1, _, by omega, by omega, by simp; omega, by go_num, by go_num, a7, HI, a2⟩
   case measure => simp [intOf]
  have b4 : (k : Int) < (s.size : Int) := by omega
  have b6 : ((k : Int) == (s.size : Int)) = false := by rw [beq_eq_false_iff_ne]; omega
  by_cases hc : (s[k]'hlt).toNat = 32
  rotate_left
  ·have t1 : (((s[k]'hlt).toNat : Int) == 32) = false := by rw [beq_eq_false_iff_ne]; omega
   have HI : Hid _ := dI0 b3 hlt hc a4.out;clear hc hk;go_wp2
   go_roundw
   case rel => exact ⟨k + 1, f, l, by omega, by omega, by omega, by go_num, rfl, a3, HI, hown⟩
   case measure => simp [intOf]; omega
  have t1 : (((s[k]'hlt).toNat : Int) == 32) = true := by rw [beq_iff_eq]; omega
  have HI : Hid _ := dH9 hlt hc a4.out;have a5 : ∀ o, w.heap.size ≤ (wr.alloc o).heap.size := fun o => by have := a3.size; simp; omega
  clear hc hk;go_wp2_with (at_builtin; refine wpList_append_own _ rfl _ _ 24 rfl w.heap.size 9 i0 (.string ⟨#[]⟩) 1 16 underlying24 hi a8 a9 b0 rfl (by decide) _ _ _ rfl (hown.alloc _) ⟨wr.heap.size, 0, none⟩ 1 1 [.string (s.extract f k)] rfl rfl (cell_one_new _ _ _) (aW7 _) b1 b2 (a5 _) ?_)
  intro v1 w2 a0 a1 _;have a7 : Bw w w2 := (a3.alloc a3.size _).grown a1 (a5 _) (fun g hg => aC8 hown hg)
  have a2 : w2.ownsRow w.heap.size 9 1 v1 (l ++ [s.extract f k]).length ((l ++ [s.extract f k]).map Value.string) := by simpa using a0
  clear hown a5 a1 a0 a3;go_wp2
  go_roundw
  case rel => exact ⟨k + 1, k + 1, _, by omega, by omega, by simp; omega, by go_num, by go_num, a7, HI, a2⟩
  case measure => simp [intOf]; omega
theorem bK3 (a b : Fs) : aE5 (a ++ b) = aE5 a ++ aE5 b := by simp [aE5]
theorem cH0 (nm vl : Tx) : aE5 [(nm, vl)] = [.string nm, .string vl] := rfl
theorem dI3 (a b : Tx) : ∀ u ∈ [Value.string a, Value.string b], u.oneCell' = true := by
 intro u hu;simp at hu
 rcases hu with rfl | rfl <;> rfl
def RowF (fs : Fs) (w : World) (e : Ending) (w' : World) : Prop :=
 ∃ v, e = .returned v ∧ w'.ownsRow w.heap.size 232 2 v fs.length (aE5 fs) ∧ Below w.heap.size w w'
def bX3 (w : World) (B : Nat) (a : Oa) (n : Nat) (xs : Ts) : Prop :=
 xs.length = n ∧ ∀ i (h : i < xs.length), ∃ g off, a = some ⟨g, off, none⟩ ∧ g < B ∧ w.cell? ⟨g, off + i, none⟩ = some (.string (xs[i]'h))
theorem bX3.below {w w' : World} {B : Nat} {a : Oa} {n : Nat} {xs : Ts} (h : bX3 w B a n xs) (hb : Below B w w') : bX3 w' B a n xs :=
 ⟨h.1, fun i hi => by
  obtain ⟨g, off, h1, h2, h3⟩ := h.2 i hi
  exact ⟨g, off, h1, h2, by rw [hb.cell (p := ⟨g, off + i, none⟩) h2]; exact h3⟩⟩
def dI4 (xs : Ts) (w : World) (e : Ending) (w' : World) : Prop :=
 ∃ (v : Value) (l : Fs), e = .returned v ∧ w'.ownsRow w.heap.size 232 2 v l.length (aE5 l) ∧ l.length ≤ xs.length ∧ Below w.heap.size w w' ∧ aG4 (xs.map bs) = l.map bsP
theorem bK4 (a : Oa) (n cap : Nat) (xs : Ts) (w : World) (hv : bX3 w w.heap.size a n xs) (hn : n ≤ 4000000) (hsz : ∀ x ∈ xs, x.size ≤ 4000000) :
  Calls prog 270 #[.slice a n cap] w fun e w' => dI4 xs w e w' := by
 obtain ⟨i0, hi, c2, c3, c4⟩ := info_parts dA1;have d1 := hv.1;have HV : Hid (∀ W, Bw w W → bX3 W w.heap.size a n xs) := fun W h => hv.below h
 have c5 := hid hsz;clear hv hsz;go_enter func270, ntmps270;go_wp2
 go_loopw [3, 4] (fun v i wr => ∃ (k : Nat) (l : Fs), k ≤ n ∧ l.length ≤ k ∧ i = .int .i64 (k : Int) ∧ Bw w wr ∧ Hid (aY9 xs l k) ∧ wr.ownsRow w.heap.size 232 2 v l.length (aE5 l)) (fun _ i _ => n - (intOf i).toNat)
 case atStart =>
  exact ⟨0, [], Nat.zero_le _, Nat.le_refl _, rfl, (Below.refl _ _).alloc (Nat.le_refl _) _, dI2 xs, ⟨rfl, .inr ⟨w.heap.size, 0, #[], rfl, Nat.le_refl _, heap_alloc_new w _, Nat.le_refl _, Nat.zero_le _, rfl, rfl⟩⟩⟩
 case round =>
  obtain ⟨k, l, hk, d2, rfl, b0, a2, hown⟩ := hrel;by_cases hlt : k < n
  rotate_left
  ·have HE : Hid _ := dQ9 (by omega) a2.out;have b4 : ¬ (k : Int) < (n : Int) := by omega
   go_wp2
   go_ret;exact ⟨_, l, rfl, hown, by omega, b0, HE.out⟩
  have b4 : (k : Int) < (n : Int) := by omega
  have a3 : k < xs.length := by omega
  obtain ⟨x, hx⟩ := exq (xs[k]'a3);have d3 : x.size ≤ 4000000 := by rw [hx]; exact c5.out _ (List.getElem_mem a3)
  obtain ⟨g, b5, rfl, d4, _⟩ := (HV.out wr b0).2 k a3
  have HC : Hid (∀ W, Bw w W → W.cell? ⟨g, b5 + k, none⟩ = some (.string x)) := fun W h => by
   obtain ⟨g2, c6, e2, _, h2⟩ := (HV.out W h).2 k a3
   cases e2
   rw [hx]; exact h2
  have HX := hid hx.symm;clear hx;go_wp2
  go_loopw [3, 5] (fun o q wq => ∃ m : Nat, (m + 1 ≤ x.size ∨ m = 0) ∧ o = u3 ∧ q = .int .i64 (m : Int) ∧ Below wr.heap.size wr wq ∧ Hid (bU5 x m)) (fun _ q _ => x.size + 1 - (intOf q).toNat)
  case atStart => exact ⟨0, .inr rfl, rfl, rfl, Below.refl _ _, dI1 x⟩
  case round =>
   obtain ⟨m, hm, rfl, rfl, a6, b1⟩ := hrel;have a7 : Bw w wr := b0.trans (a6.mono b0.size);have hc := HC.out wr a7;by_cases hml : m + 1 < x.size
   rotate_left
   ·have b6 : ¬ (m : Int) + 1 < (x.size : Int) := by omega
    have d5 : (m : Int) ≤ 4000000 := by omega
    have HI : Hid (aY9 xs l (k + 1)) := dM9 a3 (by rw [HX.out]; exact dQ8 hml b1.out) a2.out;have a8 := aA8 hown a6 (fun g hg => aB0 hown hg)
    clear hm;go_wp2
    go_roundw
    case rel => exact ⟨k + 1, l, by omega, by omega, by go_num, a7, HI, a8⟩
    case measure => simp [intOf]; omega
   have b6 : (m : Int) + 1 < (x.size : Int) := by omega
   have c7 : (m : Int) < (x.size : Int) := by omega
   have b7 : m < x.size := by omega
   by_cases h58 : (x[m]'b7).toNat = 58
   rotate_left
   ·have t1 : (((x[m]'b7).toNat : Int) == 58) = false := by rw [beq_eq_false_iff_ne]; omega
    have HI : Hid _ := cR4 hml (fun h => h58 h.1) b1.out
    clear h58 hm;go_wp2
    go_roundw
    case rel => exact ⟨m + 1, .inl (by omega), rfl, by go_num, a6, HI⟩
    case measure => simp [intOf]; omega
   have t1 : (((x[m]'b7).toNat : Int) == 58) = true := by rw [beq_iff_eq]; omega
   by_cases h32 : (x[m + 1]'hml).toNat = 32
   rotate_left
   ·have t2 : (((x[m + 1]'hml).toNat : Int) == 32) = false := by rw [beq_eq_false_iff_ne]; omega
    have HI : Hid _ := cR4 hml (fun h => h32 h.2) b1.out
    clear h58 h32 hm;go_wp2
    go_roundw
    case rel => exact ⟨m + 1, .inl (by omega), rfl, by go_num, a6, HI⟩
    case measure => simp [intOf]; omega
   have t2 : (((x[m + 1]'hml).toNat : Int) == 32) = true := by rw [beq_iff_eq]; omega
   have HF : Hid (aM2 [] (bs (xs[k]'a3)) = some (bs (x.extract 0 m), bs (x.extract (m + 2) x.size))) := by rw [HX.out]; exact dQ7 hml h58 h32 b1.out
   clear h58 h32 hm;have hnew := World.new_ne wr ⟨g, b5 + k, none⟩ hc;have d6 : ((m : Int) + 2) ≤ (x.size : Int) := by omega
   have d7 : (0 : Int) ≤ (m : Int) := by omega
   have d8 : (0 : Int) ≤ (m : Int) + 2 := by omega
   have d9 : (m : Int) ≤ (x.size : Int) := by omega
   have e0 : m ≤ x.size := by omega
   have e1 : m + 2 ≤ x.size := by omega
   have e3 : IntKind.i64.wrap ((m : Int) + 2) = (m : Int) + 2 := by rw [IntKind.wrap_i64]; omega
   go_wp2_with fail
   go_region_held3 (fun W => W.cell? ⟨g, b5 + k, none⟩ = some (.string x)) (first | assumption | go_keep) (fail)
   obtain ⟨nm, b8⟩ := exq (x.extract 0 m);obtain ⟨vl, b9⟩ : ∃ y, y = x.extract ((m : Int) + 2).toNat x.size := ⟨_, rfl⟩
   have c1 : Hid (aM2 [] (bs (xs[k]'a3)) = some (bs nm, bs vl)) := by
    show _ = _
    rw [HF.out, b8, b9, show ((m : Int) + 2).toNat = m + 2 by omega]
   rw [← b8, ← b9];obtain ⟨w2, b3⟩ := exq ((wr.alloc (.cells #[.string nm, .string vl] 232)).drew);obtain ⟨r, hr⟩ := exq (wr.heap.size);have hh : w2.heap[r]? = some (.cells #[.string nm, .string vl] 232) := by rw [b3, hr]; exact heap_alloc_new wr _
   have e4 : w2.cell? ⟨r, 0, none⟩ = some (.string nm) := by simp [World.cell?, hh]
   have e5 : w2.cell? ⟨r, 1, none⟩ = some (.string vl) := by simp [World.cell?, hh]
   have b2 : Below wr.heap.size wr w2 := by rw [b3]; exact ((Below.refl _ wr).alloc (Nat.le_refl _) _).drew
   have a1 : Bw w w2 := a7.trans (b2.mono a7.size);have a0 : w2.ownsRow w.heap.size 232 2 u3 l.length (aE5 l) := aA8 (aA8 hown a6 (fun g hg => aB0 hown hg)) b2 (fun g hg => aB0 (aA8 hown a6 (fun g hg => aB0 hown hg)) hg)
   rw [← b3, ← hr];clear b3 hr hh b2 b8 b9 HF hc hnew a6 a7 hown;by_cases hcl : nm = clen
   ·have ht := (aD3 _ _).2 hcl;rw [aQ6] at ht;have HI : Hid (aY9 xs l (k + 1)) := dN0 a3 c1.out hcl a2.out;clear hcl;go_wp2
    go_roundw
    case rel => exact ⟨k + 1, l, by omega, by omega, by go_num, a1, HI, a0⟩
    case measure => simp [intOf]; omega
   have ht := aB8 hcl;rw [aQ6] at ht;have HI : Hid (aY9 xs (l ++ [(nm, vl)]) (k + 1)) := dN1 a3 c1.out hcl a2.out;have c8 : l.length + 1 ≤ maxLen := by unfold maxLen; omega
   have c9 : (l.length + 1) * 32 ≤ 140737488355328 := by omega
   have c0 : ∀ o, w.heap.size ≤ (w2.alloc o).heap.size := fun o => by have := a1.size; simp; omega
   clear hcl;go_wp2_with (at_builtin; refine wpList_append_own _ rfl _ _ 32 rfl w.heap.size 232 i0 (.agg #[.string ⟨#[]⟩, .string ⟨#[]⟩]) 2 32 underlying32 hi c2 c3 c4 rfl (by decide) _ _ _ rfl (a0.alloc _) ⟨w2.heap.size, 0, none⟩ 1 1 [.string nm, .string vl] rfl rfl (cell_two_new _ _ _ _) (dI3 _ _) c8 c9 (c0 _) ?_)
   intro v1 w3 a4 a5 _;have d0 : Bw w w3 := (a1.alloc a1.size _).grown a5 (c0 _) (fun g hg => aC8 a0 hg)
   have a9 : w3.ownsRow w.heap.size 232 2 v1 (l ++ [(nm, vl)]).length (aE5 (l ++ [(nm, vl)])) := by rw [bK3, cH0]; simpa using a4
   clear a4 c0 a5 a0 a1;go_wp2
   go_roundw
   case rel => exact ⟨k + 1, _, by omega, by simp; omega, by go_num, d0, HI, a9⟩
   case measure => simp [intOf]; omega
theorem bP1 : ∀ (n : Nat) (r : List UInt8) (out : List (List UInt8)) (cur : List UInt8), r.length ≤ n → ∀ x ∈ (aO2 out cur r).1, x ∈ out ∨ x.length ≤ cur.length + r.length := by
 intro n;induction n with
 | zero =>
  intro r out cur h x hx;rw [bP0 out cur r (by omega)] at hx;exact .inl hx
 | succ n ih =>
  intro r out cur h x hx
  match r, h with
  | [], _ => exact .inl hx
  | [_], _ => exact .inl hx
  | c :: d :: t, h =>
   rw [aO2] at hx
   split at hx
   ·split at hx
    ·exact .inl hx
    ·rcases ih t (out ++ [cur]) [] (by simp at h; omega) x hx with h1 | h1
     ·rcases List.mem_append.1 h1 with h2 | h2
      ·exact .inl h2
      ·simp at h2; subst h2; exact .inr (by omega)
     ·exact .inr (by simp at h1 ⊢; omega)
   ·rcases ih (d :: t) out (cur ++ [c]) (by simp at h ⊢; omega) x hx with h1 | h1
    ·exact .inl h1
    ·exact .inr (by simp at h1 ⊢; omega)
theorem aV5 : ∀ (r : List UInt8) (out : List (List UInt8)) (cur : List UInt8), ∀ x ∈ aG6 out cur r, x ∈ out ∨ x.length ≤ cur.length + r.length := by
 intro r;induction r with
 | nil =>
  intro out cur x hx;rw [aG6] at hx;rcases List.mem_append.1 hx with h | h
  ·exact .inl h
  simp at h; subst h; exact .inr (by simp)
 | cons c t ih =>
  intro out cur x hx
  rw [aG6] at hx
  split at hx
  ·rcases ih (out ++ [cur]) [] x hx with h1 | h1
   ·rcases List.mem_append.1 h1 with h2 | h2
    ·exact .inl h2
    ·simp at h2; subst h2; exact .inr (by omega)
   ·exact .inr (by simp at h1 ⊢; omega)
  ·rcases ih out (cur ++ [c]) x hx with h1 | h1
   ·exact .inl h1
   ·exact .inr (by simp at h1 ⊢; omega)
theorem cU9 : ∀ (n : Nat) (r cur a b : List UInt8), r.length ≤ n → aM2 cur r = some (a, b) → a.length ≤ cur.length + r.length ∧ b.length ≤ r.length := by
 intro n;induction n with
 | zero =>
  intro r cur a b h he;rw [bK2 cur r (by omega)] at he;cases he
 | succ n ih =>
  intro r cur a b h he
  match r, h with
  | [], _ => cases he
  | [_], _ => cases he
  | c :: d :: t, h =>
   rw [aM2] at he
   split at he
   ·cases he
    simp; omega
   ·have := ih (d :: t) (cur ++ [c]) a b (by simp at h ⊢; omega) he
    simp at this ⊢; omega
theorem cM2 : ∀ (ls : List (List UInt8)), ∀ f ∈ aG4 ls, ∃ x ∈ ls, f.1.length ≤ x.length ∧ f.2.length ≤ x.length := by
 intro ls;induction ls with
 | nil => intro f hf; simp [aG4] at hf
 | cons l r ih =>
  intro f hf
  rw [aG4] at hf
  split at hf
  ·rename_i g hg
   split at hf
   ·obtain ⟨x, hx, h⟩ := ih f hf
    exact ⟨x, by simp [hx], h⟩
   ·rcases List.mem_cons.1 hf with rfl | hf
    ·have := cU9 l.length l [] f.1 f.2 (Nat.le_refl _) hg
     exact ⟨l, by simp, by simpa using this.1, this.2⟩
    ·obtain ⟨x, hx, h⟩ := ih f hf
     exact ⟨x, by simp [hx], h⟩
  ·obtain ⟨x, hx, h⟩ := ih f hf
   exact ⟨x, by simp [hx], h⟩
theorem bX4 : ∀ {a b : Ts}, a.map bs = b.map bs → a = b
 | [], [], _ => rfl
 | [], _ :: _, h => by simp at h
 | _ :: _, [], h => by simp at h
 | x :: r, y :: t, h => by
  simp only [List.map_cons, List.cons.injEq] at h
  rw [bX4 h.2, aE3 h.1]
structure dN4 (s : Tx) (xs : Ts) (k : Nat) (ws : Ts) (l : Fs) : Prop where
 head : aO2 [] [] (bs s) = (xs.map bs, some ((bs s).drop k))
 ne : xs ≠ []
 words : aG6 [] [] (bs (xs.headD ⟨#[]⟩)) = ws.map bs
 fields : aG4 (xs.tail.map bs) = l.map bsP
theorem aA0 {w : World} {base : Nat} {t : TypeId} {size : Nat} {v : Value} {n : Nat} {xs : List Value} (h : w.ownsRow base t size v n xs) : ∃ oa cp, v = .slice oa n cp := by
 rcases h.2 with ⟨rfl, rfl⟩ | ⟨g, a0, a1, rfl, _⟩
 ·exact ⟨none, 0, rfl⟩
 exact ⟨_, a0, rfl⟩
theorem aE6 {w w' : World} (hb : Below w.heap.size w w') (row : Option Nat) : w.grownBy w' row := ⟨hb.os, hb.tape, hb.output, hb.size, fun k hk _ => hb.block k hk⟩
theorem aB6 {a w w' : World} {row : Option Nat} (h : a.grownBy w row) (k : w.grownBy w' row) : a.grownBy w' row :=
 ⟨k.os.trans h.os, k.tape.trans h.tape, k.output.trans h.output, Nat.le_trans h.size k.size, fun i hi hne => (k.block i (Nat.lt_of_lt_of_le hi h.size) hne).trans (h.block i hi hne)⟩
theorem aD9 (w : World) (r o : Nat) (v : Value) : w.grownBy (w.setCell ⟨r, o, none⟩ v) (some r) :=
 ⟨rfl, rfl, rfl, by simp, fun k _ hk => heap_setCell_other _ _ k _ (fun e => hk (by rw [e]))⟩
theorem bP2 {B r : Nat} {a b : World} (h : a.grownBy b (some r)) (hB : B ≤ a.heap.size) (hr : B ≤ r) : Below B a b :=
 ⟨h.os, h.tape, h.output, h.size, fun k hk => h.block k (by omega) (fun e => by have := Option.some.inj e; omega)⟩
theorem dB0 (fs : Fs) (k : Nat) (h : k < fs.length) : (aD0 fs k, aH7 fs k) = fs[k] := by
 unfold aD0 aH7;rw [List.getD_eq_getElem?_getD, List.getElem?_eq_getElem h];rfl
theorem bP3 {s : ByteArray} {xs : Ts} {o : Option (List UInt8)} {l : Fs} (hh : aO2 [] [] (bs s) = (xs.map bs, o)) (hl : aG4 (xs.tail.map bs) = l.map bsP) (hs : s.size ≤ maxLen) : aR0 l.length l := by
 intro i hi
 have hm : (bs (aD0 l i), bs (aH7 l i)) ∈ aG4 (xs.tail.map bs) := by
  rw [hl]
  exact List.mem_map.2 ⟨l[i], List.getElem_mem hi, by rw [← dB0 l i hi]; rfl⟩
 obtain ⟨x, hx, h1, h2⟩ := cM2 _ _ hm;obtain ⟨y, hy, rfl⟩ := List.mem_map.1 hx;have a0 : bs y ∈ (aO2 [] [] (bs s)).1 := by rw [hh]; exact List.mem_map_of_mem (List.mem_of_mem_tail hy)
 rcases bP1 _ (bs s) [] [] (Nat.le_refl _) _ a0 with h3 | h3
 ·simp at h3
 simp only [aC4, List.length_nil, Nat.zero_add] at h1 h2 h3
 omega
theorem dB1 {w : World} {base : Nat} {t : TypeId} {size g n cap : Nat} {xs : List Value} (h : w.ownsRow base t size (.slice (some ⟨g, 0, none⟩) n cap) n xs) (o : Nat) (u : Value) : (w.setCell ⟨g, o, none⟩ u).ownsRow base t size (.slice (some ⟨g, 0, none⟩) n cap) n (xs.set o u) := by
 obtain ⟨hl, hv⟩ := h;refine ⟨by simpa using hl, ?_⟩;rcases hv with ⟨e, _⟩ | ⟨g', a0, a1, e, h1, h2, h3, h4, h5, h6⟩
 ·cases e
 cases e
 refine .inr ⟨g, cap, _, rfl, h1, aA3 w g o a1 t (0, 0) u h2, h3, h4, by simpa using h5, ?_⟩;rw [Array.toList_setIfInBounds, List.take_set, h6]
theorem bA9 {w : World} {base : Nat} {t : TypeId} {size g n cap : Nat} {xs : List Value} (h : w.ownsRow base t size (.slice (some ⟨g, 0, none⟩) n cap) n xs) (o : Nat) (u : Value) (ho : xs[o]? = some u) : w.cell? ⟨g, o, none⟩ = some u ∧ w.frozen? ⟨g, o, none⟩ = false := by
 obtain ⟨hl, hv⟩ := h;rcases hv with ⟨e, _⟩ | ⟨g', a0, a1, e, h1, h2, h3, h4, h5, h6⟩
 ·cases e
 cases e
 refine ⟨?_, by simp [World.frozen?, h2]⟩;rw [← h6, List.getElem?_take] at ho;split at ho
 ·simpa [World.cell?, h2] using ho
 cases ho
theorem bI3 {w : World} {base : Nat} {t : TypeId} {size : Nat} {v : Value} {n : Nat} {xs : List Value} {j : Nat} {cs : Array Value} {T : TypeId} {fr : Nat × Nat} (h : w.ownsRow base t size v n xs) (hT : T ≠ t) (hj : w.heap[j]? = some (.cells cs T fr)) : v.ownBlock ≠ some j := by
 intro e;rcases h.2 with ⟨rfl, _⟩ | ⟨g, a0, a1, rfl, _, h1, _⟩
 ·cases e
 cases e
 rw [h1] at hj;cases hj
 exact hT rfl
theorem cV0 {w : World} {base : Nat} {t : TypeId} {size : Nat} {v : Value} {n : Nat} {xs : List Value} {j : Nat} (h : w.ownsRow base t size v n xs) (hj : v.ownBlock = some j) : ∃ cur, w.heap[j]? = some (.cells cur t (0, 0)) := by
 rcases h.2 with ⟨rfl, _⟩ | ⟨g, a0, cur, rfl, h0, h1, _⟩
 ·cases hj
 cases hj
 exact ⟨cur, h1⟩
theorem aW9 {w : World} {b1 b2 : Nat} {t1 t2 : TypeId} {s1 s2 : Nat} {v1 v2 : Value} {n1 n2 : Nat} {x1 x2 : List Value} {j : Nat} (h1 : w.ownsRow b1 t1 s1 v1 n1 x1) (h2 : w.ownsRow b2 t2 s2 v2 n2 x2) (hT : t1 ≠ t2) (hj : v1.ownBlock = some j) : v2.ownBlock ≠ some j := by
 obtain ⟨a0, hc⟩ := cV0 h1 hj;exact bI3 h2 hT hc
def aD1 (n : Int) : ByteArray := if n < 0 then ⟨#[]⟩ else aB7 n.toNat
theorem bC2 : Lib.decDigits 0 = [48] := by rw [Lib.decDigits, dif_pos (by omega)]; rfl
theorem dL7 : ∀ (f n : Nat), n < 10 ^ f → n ≠ 0 → dgF f n = Lib.decDigits n := by
 intro f;induction f with
 | zero => intro n h h0; simp at h; omega
 | succ f ih =>
  intro n h h0
  rw [bH6 f n h0]
  rw [Nat.pow_succ] at h
  by_cases hs : n < 10
  rotate_left
  ·rw [Lib.decDigits, dif_neg hs, ih (n / 10) (by omega) (by omega)]
  rw [Lib.decDigits, dif_pos hs]
  have e1 : n / 10 = 0 := by omega
  have e2 : n % 10 = n := by omega
  rw [e1, aW4, e2]; rfl
theorem dI5 (n : Int) (h0 : 0 ≤ n) (h1 : n ≤ 1000000) : (⟨(Lib.itoa n).toArray⟩ : Tx) = aD1 n := by
 unfold aD1;rw [if_neg (by omega)];unfold aB7 numL Lib.itoa;rw [if_neg (by omega), if_neg (by omega)];by_cases h : n.toNat = 0
 ·rw [if_pos h, h, bC2]
 rw [if_neg h, dL7 8 n.toNat (by omega) h]
def aG9 (w : World) : Prop := Lib.TabIs prog w "internal/strconv.uint64pow10" .u64 Lib.pow10Tab
theorem gTab : prog.globalNamed "internal/strconv.uint64pow10" = some 2 := by kernel_rfl
theorem aG9.lt {w : World} (h : aG9 w) : 2 < w.heap.size := by
 unfold aG9 Lib.TabIs World.var? at h;rw [gTab] at h;rcases Nat.lt_or_ge 2 w.heap.size with hl | hl
 ·exact hl
 simp [Array.getElem?_eq_none hl] at h
theorem aG9.below {w w' : World} (h : aG9 w) (hb : Below w.heap.size w w') : aG9 w' := var?_below hb gTab h.lt h
theorem aF8 (n : Int) (w : World) (h0 : -9223372036854775808 ≤ n) (h1 : n ≤ 9223372036854775807) (htab : aG9 w) :
  Calls prog 88 #[.int .i64 n] w fun e w' => aD5 (aD1 n) w e w' := by
 by_cases hn : n < 0
 ·have hT : Hid (⟨#[]⟩ = aD1 n) := by show _ = _; unfold aD1; rw [if_pos hn]
  go_enter func88, ntmps88;go_wp2_with fail
  go_ret;exact aD5.of hT.out (Below.refl _ _)
 by_cases hb : 1000000 < n
 ·have hT : Hid (⟨#[]⟩ = aD1 n) := by
   show _ = _
   unfold aD1 aB7 numL; rw [if_neg hn, if_pos (by omega)]
  go_enter func88, ntmps88;go_wp2_with fail
  go_ret;exact aD5.of hT.out (Below.refl _ _)
 have hT : Hid _ := dI5 n (by omega) (by omega);have HT := hid htab;clear htab;go_enter func88, ntmps88;go_wp2_with fail
 refine (Tryz.strconv_Itoa n h0 h1 w HT.out).mono ?_;rintro e w1 ⟨rfl, k, os, rfl⟩;rw [hT.out];have a0 := Lib.below_grow w.heap.size w (Nat.le_refl _) k os;obtain ⟨w1, a1⟩ := exq (Sort.grow (w.drewN k) os);rw [← a1] at a0 ⊢;clear a1;go_wp2_with fail
 go_ret;exact aD5.of rfl a0
theorem aE0 (n : Int) (w : World) (h0 : -9223372036854775808 ≤ n) (h1 : n ≤ 9223372036854775807) :
  Calls prog 63 #[.int .i64 n] w fun e w' => aD5 (aD1 n) w e w' := by
 by_cases hn : n < 0
 ·have hT : Hid (⟨#[]⟩ = aD1 n) := by show _ = _; unfold aD1; rw [if_pos hn]
  have a0 : ¬ 0 ≤ n := by omega
  go_enter func63, ntmps63;go_wp2
  go_ret;exact aD5.of hT.out (Below.refl _ _)
 by_cases hb : 1000000 < n
 rotate_left
 ·obtain ⟨m, rfl⟩ := Int.eq_ofNat_of_zero_le (Int.not_lt.1 hn);have hT : aD1 (m : Int) = aB7 m := by unfold aD1; rw [if_neg hn]; simp
  rw [hT];exact aK8 m w (by omega)
 have hT : Hid (⟨#[]⟩ = aD1 n) := by
  show _ = _
  unfold aD1 aB7 numL; rw [if_neg hn, if_pos (by omega)]
 have hp : 0 ≤ n := by omega
 have a1 : ¬ n ≤ 1000000 := by omega
 have hd : decide (n ≤ 1000000) = false := by simp; omega
 go_enter func63, ntmps63;go_wp2
 go_ret;exact aD5.of hT.out (Below.refl _ _)
end Go.Proofs.YtiobfnpmidjijaaGreatDoor
namespace Go.Proofs.YtiobfnpmidjijaaGreatDoor
open Go.Proofs.Tryz
open Go.RowKit
def cM3 (cur : List UInt8) : Ts := if bL2 cur = [] then [] else [⟨(bL2 cur).toArray⟩]
def spA (cur : List UInt8) : List UInt8 → Ts
 | [] => cM3 cur
 | c :: r => if c = 44 then cM3 cur ++ spA [] r else spA (cur ++ [c]) r
theorem cR5 (l : Ts) (s : Tx) : aO3 l (aI0 s) = l ++ cM3 (bs s) := by
 have hs : (aI0 s).size = (bL2 (bs s)).length := by
  show (bL2 s.data.toList).toArray.size = _
  simp [bs]
 unfold aO3 cM3;rw [hs];by_cases h : bL2 (bs s) = []
 ·rw [if_pos h, if_pos (by rw [h]; rfl), List.append_nil]
 rw [if_neg h, if_neg (fun e => h (List.length_eq_zero_iff.1 e))]
 rfl
theorem cR6 (s : Tx) (a k : Nat) : bs (s.extract a k) = ((bs s).take k).drop a := by rw [aE2]
theorem cV1 (s : Tx) : ∀ k, k ≤ s.size → (aD4 s k).1 ++ spA (((bs s).take k).drop (aD4 s k).2) ((bs s).drop k) = spA [] (bs s) := by
 intro k;induction k with
 | zero => intro _; simp [aD4]
 | succ k ih =>
  intro hk
  have a0 : k < s.size := by omega
  have h := ih (by omega)
  have a2 := (bH7 s k).1
  have hd : (bs s).drop k = s[k]'a0 :: (bs s).drop (k + 1) := by
   have hl : k < (bs s).length := by rw [aC4]; exact a0
   rw [List.drop_eq_getElem_cons hl]
   congr 1
  have ht : (bs s).take (k + 1) = (bs s).take k ++ [s[k]'a0] := by
   have hl : k < (bs s).length := by rw [aC4]; exact a0
   rw [List.take_succ_eq_append_getElem hl]
   congr 1
  rw [hd] at h
  by_cases hc : (s[k]'a0).toNat = 44
  ·have a1 : s[k]'a0 = 44 := UInt8.toNat_inj.1 hc
   rw [aW5 s k a0 hc]
   dsimp only
   rw [cR5, cR6]
   rw [spA, if_pos a1] at h
   have hn : ((bs s).take (k + 1)).drop (k + 1) = [] := List.drop_of_length_le (by rw [List.length_take]; omega)
   rw [hn, List.append_assoc]
   exact h
  have a1 : s[k]'a0 ≠ 44 := fun e => hc (by rw [e]; rfl)
  rw [aW6 s k a0 hc]
  rw [spA, if_neg a1] at h
  have hn : ((bs s).take (k + 1)).drop (aD4 s k).2 = ((bs s).take k).drop (aD4 s k).2 ++ [s[k]'a0] := by
   rw [ht, List.drop_append_of_le_length (by rw [List.length_take, aC4]; omega)]
  rw [hn]
  exact h
theorem dB2 (s : Tx) : aR6 s = spA [] (bs s) := by
 have h := cV1 s s.size (Nat.le_refl _);have hd : (bs s).drop s.size = [] := List.drop_of_length_le (by rw [aC4]; exact Nat.le_refl _);rw [hd] at h;unfold aR6;rw [cR5, cR6];exact h
theorem cH1 : ∀ l : List UInt8, (aQ3 l).length ≤ l.length := by
 intro l;induction l with
 | nil => simp [aQ3]
 | cons c l ih =>
  unfold aQ3
  split
  ·simp; omega
  ·exact Nat.le_refl _
theorem dB3 (l : List UInt8) : (bL2 l).length ≤ l.length := by
 have h1 := cH1 l;have h2 := cH1 (aQ3 l).reverse;unfold bL2;rw [List.length_reverse];rw [List.length_reverse] at h2;omega
theorem cC2 (cur : List UInt8) : (cM3 cur).length ≤ 1 ∧ ∀ x ∈ cM3 cur, x.size ≤ cur.length := by
 unfold cM3;split
 ·exact ⟨by simp, fun x hx => nomatch hx⟩
 refine ⟨by simp, fun x hx => ?_⟩
 obtain rfl := List.mem_singleton.1 hx;exact dB3 cur
theorem dR1 : ∀ (l cur : List UInt8), (spA cur l).length ≤ l.length + 1 ∧ ∀ x ∈ spA cur l, x.size ≤ cur.length + l.length := by
 intro l;induction l with
 | nil => intro cur; exact ⟨(cC2 cur).1, fun x hx => (cC2 cur).2 x hx⟩
 | cons c l ih =>
  intro cur
  unfold spA
  split
  ·have h1 := cC2 cur
   have h2 := ih []
   refine ⟨by rw [List.length_append, List.length_cons]; omega, fun x hx => ?_⟩
   rw [List.mem_append] at hx
   rw [List.length_cons]
   rcases hx with hx | hx
   ·have := h1.2 x hx; omega
   ·have := h2.2 x hx; rw [List.length_nil] at this; omega
  ·have h2 := ih (cur ++ [c])
   refine ⟨by rw [List.length_cons]; omega, fun x hx => ?_⟩
   have := h2.2 x hx
   rw [List.length_append, List.length_singleton] at this
   rw [List.length_cons]
   omega
theorem bE9 (s : Tx) : (aR6 s).length ≤ s.size + 1 ∧ ∀ x ∈ aR6 s, x.size ≤ s.size := by
 have h := dR1 (bs s) [];rw [← dB2, aC4, List.length_nil, Nat.zero_add] at h;exact h
end Go.Proofs.YtiobfnpmidjijaaGreatDoor
namespace Go.Proofs.YtiobfnpmidjijaaGreatDoor
open Go.Proofs.Tryz
open Go.RowKit
open Go.Lib hiding intOf
def aF0 : ByteArray := ⟨#[118, 97, 114, 121]⟩
def aC1 (fs : Fs) : Ts := (aR6 (getV fs aF0)).map aL1
def aC0 (w : World) (oa : Oa) (n : Nat) (xs : Ts) : Prop :=
 xs.length = n ∧ ∀ i, i < n → ∃ g, oa = some ⟨g, 0, none⟩ ∧ g < w.heap.size ∧ w.cell? ⟨g, i, none⟩ = some (.string (aA7 xs i))
theorem aC0.below {w w' : World} {oa : Oa} {n : Nat} {xs : Ts} (h : aC0 w oa n xs) (hb : Below w.heap.size w w') : aC0 w' oa n xs :=
 ⟨h.1, fun i hi => by
  obtain ⟨g, h1, h2, h3⟩ := h.2 i hi
  exact ⟨g, h1, Nat.lt_of_lt_of_le h2 hb.size, by rw [hb.cell (p := ⟨g, i, none⟩) h2]; exact h3⟩⟩
theorem bP4 {w : World} {base n : Nat} {v : Value} {xs : Ts} (h : w.ownsRow base 9 1 v n (xs.map Value.string)) : ∃ oa cap, v = .slice oa n cap ∧ aC0 w oa n xs := by
 have hl : xs.length = n := by have := h.1; simpa using this
 rcases aM8 h with ⟨oa, ca, rfl, rfl, rfl⟩ | ⟨g, cap, rfl, hp, r⟩
 ·exact ⟨oa, ca, rfl, rfl, fun i hi => absurd hi (by omega)⟩
 exact ⟨_, _, rfl, hl, fun i hi => ⟨g, rfl, r.lt, r.cell i hi⟩⟩
def loTo (xs : Ts) (j : Nat) : Ts := (xs.take j).map aL1 ++ xs.drop j
theorem cH2 (xs : Ts) : loTo xs 0 = xs := by simp [loTo]
theorem bM7 (xs : Ts) (j : Nat) (h : xs.length ≤ j) : loTo xs j = xs.map aL1 := by
 simp [loTo, List.take_of_length_le h, List.drop_of_length_le h]
theorem dB4 (xs : Ts) (j : Nat) : aA7 (loTo xs j) j = aA7 xs j := by
 unfold aA7 loTo;rw [List.getD_eq_getElem?_getD, List.getD_eq_getElem?_getD];by_cases h : j < xs.length
 rotate_left
 ·rw [List.getElem?_eq_none (by simp; omega), List.getElem?_eq_none (by omega)]
 rw [List.getElem?_append_right (by simp; omega), List.length_map, List.length_take, Nat.min_eq_left (by omega), Nat.sub_self, List.getElem?_drop, Nat.add_zero]
theorem cH3 (xs : Ts) (j : Nat) (h : j < xs.length) : (loTo xs j).set j (aL1 (aA7 xs j)) = loTo xs (j + 1) := by
 have e : xs.drop j = aA7 xs j :: xs.drop (j + 1) := by
  rw [List.drop_eq_getElem_cons h]
  congr 1
  unfold aA7
  rw [List.getD_eq_getElem?_getD, List.getElem?_eq_getElem h]
  rfl
 have e2 : xs.take (j + 1) = xs.take j ++ [aA7 xs j] := by
  rw [List.take_add_one, List.getElem?_eq_getElem h]
  unfold aA7
  rw [List.getD_eq_getElem?_getD, List.getElem?_eq_getElem h]
  rfl
 unfold loTo;rw [List.set_append_right _ _ (by simp; omega), List.length_map, List.length_take, Nat.min_eq_left (by omega), Nat.sub_self, e, List.set_cons_zero, e2, List.map_append];simp
theorem aU7 (v : Value) (n base : Nat) (fs : Fs) (w : World) (hv : aB4 w base v n fs) (hn : n ≤ 1073741824) (hsz : (getV fs aF0).size ≤ 1048576) :
  Calls prog 155 #[v] w fun e w' => bD2 w.heap.size (aC1 fs) w e w' := by
 obtain ⟨s, hs⟩ := exq (getV fs aF0);have HS := hid hs.symm;have HE : Hid (aC1 fs = (aR6 s).map aL1) := by show _ = _; unfold aC1; rw [HS.out]
 rw [← hs] at hsz;obtain ⟨a3, a1⟩ := bE9 s;clear hs;go_enter func155, ntmps155;go_wp2_with fail
 refine (bO3 v n base fs aF0 _ hv hn).mono ?_;rintro e w1 ⟨rfl, rfl⟩;rw [HS.out];clear hv;go_wp2_with fail
 refine (cB7 s _ hsz).mono ?_;rintro e w2 ⟨V, rfl, O, b2⟩;obtain ⟨xs, a4⟩ := exq (aR6 s);rw [← a4] at a3 a1 O HE;obtain ⟨m, hm⟩ := exq xs.length;rw [← hm] at a3 O;have HM := hid hm.symm;have H2 := hid a1;clear a4 hm a1;rcases aM8 O with ⟨oa, ca, rfl, h0, h1⟩ | ⟨g, cap, rfl, hp, r1⟩
 ·subst h0 h1;go_wp2_with fail
  refine wp_loop_rounds 1 ?_;rw [rounds_succ];go_wp2_with fail
  go_ret;exact bD2.of (by rw [HE.out]; rfl) rfl O b2
 clear O;have a6 : Hid (Below w1.heap.size w1 w2) := b2;have a7 : Hid (aF1 w1.heap.size w2 g m cap (loTo xs 0)) := by show aF1 _ _ _ _ _ _; rw [cH2]; exact r1
 clear b2 r1;go_wp2_with fail
 go_loopw [6] (fun i wr => ∃ j : Nat, j ≤ m ∧ i = .int .i64 (j : Int) ∧ Hid (Below w1.heap.size w1 wr) ∧ Hid (aF1 w1.heap.size wr g m cap (loTo xs j))) (fun i _ => m - (intOf i).toNat)
 case atStart => exact ⟨0, Nat.zero_le _, rfl, a6, a7⟩
 case round =>
  obtain ⟨j, hj, rfl, HB, HR⟩ := hrel;by_cases hlt : j < m
  rotate_left
  ·obtain rfl : j = m := by omega
   go_wp2_with fail
   go_ret;exact bD2.of (by rw [HE.out, bM7 xs j (by rw [HM.out]; exact Nat.le_refl _)]) (by rw [bM7 xs j (by rw [HM.out]; exact Nat.le_refl _), List.length_map, HM.out]) HR.out.owns HB.out
  have a8 : (j : Int) < (m : Int) := by omega
  obtain ⟨x, hx⟩ := exq (aA7 xs j);have hc := HR.out.cell j hlt;rw [dB4, ← hx] at hc;have a5 : Hid ((loTo xs j).set j (aL1 x) = loTo xs (j + 1)) := by show _ = _; rw [hx]; exact cH3 xs j (by rw [HM.out]; exact hlt)
  have a9 : x.size ≤ 1048576 := by
   refine Nat.le_trans (H2.out x ?_) hsz
   rw [hx]
   unfold aA7
   rw [List.getD_eq_getElem?_getD, List.getElem?_eq_getElem (by rw [HM.out]; exact hlt)]
   exact List.getElem_mem _
  clear hx;go_wp2_with fail
  refine (cB5 x _ a9).mono ?_;rintro e w3 ⟨rfl, a2⟩;have a0 := HR.out.below a2 HR.out.lt;have b3 := a0.cell j hlt;have b4 := a0.frozen j;have b0 : Hid (Below w1.heap.size w1 (w3.setCell ⟨g, j, none⟩ (.string (aL1 x)))) := (HB.out.trans (a2.mono HB.out.size)).setCell HR.out.base _
  have b1 : Hid (aF1 w1.heap.size (w3.setCell ⟨g, j, none⟩ (.string (aL1 x))) g m cap (loTo xs (j + 1))) := by
   show aF1 _ _ _ _ _ _
   rw [← a5.out]
   exact a0.set j hlt _
  clear a2 a0 HB HR a5 hc;go_wp2_with fail
  go_roundw
  case rel => exact ⟨j + 1, by omega, by go_num, b0, b1⟩
  case measure => simp [intOf]; omega
def Far (v : Value) (w w' : World) : Prop := ∀ j, j < w.heap.size → v.ownBlock ≠ some j → w'.heap[j]? = w.heap[j]?
structure ArgT (w : World) (B : Nat) (a : Oa) (n : Nat) (xs : Ts) : Prop where
 len : xs.length = n
 get : ∀ i, i < n → ∃ b off, a = some ⟨b, off, none⟩ ∧ b < B ∧ w.cell? ⟨b, off + i, none⟩ = some (.string (aA7 xs i))
theorem ArgT.below {w w' : World} {B : Nat} {a : Oa} {n : Nat} {xs : Ts} (h : ArgT w B a n xs) (hb : Below B w w') : ArgT w' B a n xs :=
 ⟨h.len, fun i hi => by
  obtain ⟨b, off, h1, h2, h3⟩ := h.get i hi
  exact ⟨b, off, h1, h2, by rw [hb.cell (p := ⟨b, off + i, none⟩) h2]; exact h3⟩⟩
theorem dB5 {H : Type} {enc : TypeId × Value → H} {W : World} {fuel : Nat} {a : Oa} {n cap : Nat} {x : DataW H × List MemPlace} (h : DataW.trod enc prog W 0 (fun _ => true) true fuel 24 [.slice a n cap] = some x) :
  ∃ xs, ArgT W W.heap.size a n xs ∧ n ≤ maxLen ∧ ∀ i, i < n → (aA7 xs i).size ≤ maxLen := by
 rcases Go.ChangeShapes.open_strings underlying24 underlying9 (by kernel_rfl) h with ⟨a1, _⟩ | ⟨ad, a8, c, ss, a1, _, hl, hm, a3, _, a0, hsz⟩
 ·simp at a1
  obtain ⟨rfl, rfl, rfl⟩ := a1;exact ⟨[], ⟨rfl, fun i hi => absurd hi (by omega)⟩, Nat.zero_le _, fun i hi => absurd hi (by omega)⟩
 simp at a1
 obtain ⟨rfl, rfl, rfl⟩ := a1;have a5 : ss.length = cap := by simpa using a3
 have a6 : ∀ i, i < n → aA7 (ss.take n) i = ss.getD i ByteArray.empty := fun i hi => by
  unfold aA7
  rw [List.getD_eq_getElem?_getD, List.getD_eq_getElem?_getD, List.getElem?_take_of_lt hi]
  rfl
 refine ⟨ss.take n, ⟨by rw [List.length_take]; omega, fun i hi => ?_⟩, by omega, fun i hi => ?_⟩
 ·obtain ⟨b, a7, a4⟩ := ad
  have a2 : a4 = none := by
   have := World.cell?_spot (a0 0 (by omega))
   simpa [Addr.add] using this
  subst a2;have hc := a0 i (by omega);rw [cR1] at hc;exact ⟨b, a7, rfl, World.block_lt_of_cell? _ _ hc, by rw [a6 i hi]; exact hc⟩
 rw [a6 i hi];refine hsz _ ?_;rw [List.getD_eq_getElem?_getD, List.getElem?_eq_getElem (by omega)];exact List.getElem_mem _
def bP5 (w : World) (g n k : Nat) (xs : Ts) : Prop :=
 ∃ cur, w.heap[g]? = some (.cells cur 9 (0, 0)) ∧ cur.size = n ∧ ∀ i, i < k → cur[i]? = some (.string (aA7 xs i))
theorem bP5.put {w : World} {g n k : Nat} {xs : Ts} (h : bP5 w g n k xs) (hk : k < n) : bP5 (w.setCell ⟨g, k, none⟩ (.string (aA7 xs k))) g n (k + 1) xs := by
 obtain ⟨a0, h1, h2, h3⟩ := h;refine ⟨_, aA3 w g k _ _ _ _ h1, by simpa using h2, fun i hi => ?_⟩
 by_cases e : i = k
 ·subst e;exact Array.getElem?_setIfInBounds_self_of_lt (by omega)
 rw [Array.getElem?_setIfInBounds_ne (fun x => e x.symm)]
 exact h3 i (by omega)
theorem bP5.row {w : World} {g n base : Nat} {xs : Ts} (h : bP5 w g n n xs) (hl : xs.length = n) (hb : base ≤ g) (hn : n ≤ maxLen) : aF1 base w g n n xs := by
 obtain ⟨a0, h1, h2, h3⟩ := h;exact ⟨hl, hb, (blt h1), Nat.le_refl _, hn, a0, h1, h2, h3⟩
theorem cC3 (B : Nat) (a : Oa) (n cap : Nat) (xs : Ts) (w : World) (harg : ArgT w B a n xs) (hB : B ≤ w.heap.size) (hn : n ≤ 1048576) :
  Calls prog 120 #[.slice a n cap] w fun e w' => ∃ v, e = .returned v ∧ w'.ownsRow w.heap.size 9 1 v n (xs.map Value.string) ∧ Below w.heap.size w w' := by
 obtain ⟨i0, hi, a6, a7, a8⟩ := info_parts bU4;obtain ⟨M, hM⟩ : ∃ M, M = madeCells (Value.string ⟨#[]⟩).cells (((n : Nat) : Int).toNat * i0.size) := ⟨_, rfl⟩
 have b2 : ∀ W : World, (Instr.makeSlice 24 (.int .i64 (n : Int)) (.int .i64 (n : Int))).run prog W = .ok (.slice (some ⟨W.heap.size, 0, none⟩) n n) (W.alloc (.cells M 9)) := fun W => by
  have h := run_make (P := prog) W 24 9 i0 (.string ⟨#[]⟩) underlying24 hi a6 .i64 .i64 (n : Int) (n : Int) (by omega) (by omega) (by rw [a8]; omega) (by omega)
  rw [← hM] at h
  simpa using h
 have a9 : M.size = n := by rw [hM, size_madeCells, a7]; simp
 have a1 : Hid (∀ W, Below B w W → ArgT W B a n xs) := fun W h => harg.below h
 have a2 : Hid (xs.length = n) := harg.len;clear hM harg;have HP : Hid (bP5 (w.alloc (.cells M 9)) w.heap.size n 0 xs) := ⟨M, heap_alloc_new w _, a9, fun i h => absurd h (by omega)⟩
 go_enter func120, ntmps120;go_wp2
 go_loopw [4] (fun i wr => ∃ k : Nat, k ≤ n ∧ i = .int .i64 (k : Int) ∧ Hid (bP5 wr w.heap.size n k xs) ∧ Bw w wr) (fun i _ => n - (intOf i).toNat)
 case atStart => exact ⟨0, Nat.zero_le _, rfl, HP, (Below.refl _ _).alloc (Nat.le_refl _) _⟩
 case round =>
  obtain ⟨k, hk, rfl, a3, a4⟩ := hrel;by_cases hlt : k < n
  rotate_left
  ·obtain rfl : k = n := by omega
   go_wp2
   go_ret;exact ⟨_, rfl, (a3.out.row a2.out (Nat.le_refl _) (by unfold maxLen; omega)).owns, a4⟩
  have b0 : (k : Int) < (n : Int) := by omega
  obtain ⟨b, b3, rfl, b4, b1⟩ := (a1.out wr (a4.mono hB)).get k hlt;have a0 : Hid (bP5 (wr.setCell ⟨w.heap.size, k, none⟩ (.string (aA7 xs k))) w.heap.size n (k + 1) xs) := a3.out.put hlt
  obtain ⟨u0, b5, f0⟩ : ∃ u, wr.cell? ⟨w.heap.size, k, none⟩ = some u ∧ wr.frozen? ⟨w.heap.size, k, none⟩ = false := by
   obtain ⟨a5, h1, h2, _⟩ := a3.out
   refine ⟨a5[k]'(by omega), ?_, by simp [World.frozen?, h1]⟩
   simp only [World.cell?, h1]
   simp [show k < a5.size by omega]
  generalize aA7 xs k = z at b1 a0;go_wp2
  go_roundw
  case rel => exact ⟨k + 1, by omega, by go_num, a0, a4.setCell (Nat.le_refl _) _⟩
  case measure => simp [intOf]; omega
theorem aC3 {W : World} {R : Nat} {a b c : Value} {t : TypeId} (h : W.heap[R]? = some (.cells #[a, b, c] t)) :
  (W.cell? ⟨R, 0, none⟩ = some a ∧ W.cell? ⟨R, 1, none⟩ = some b ∧ W.cell? ⟨R, 2, none⟩ = some c) ∧ W.frozen? ⟨R, 0, none⟩ = false ∧ W.frozen? ⟨R, 1, none⟩ = false ∧ W.frozen? ⟨R, 2, none⟩ = false := by
 refine ⟨⟨?_, ?_, ?_⟩, ?_, ?_, ?_⟩ <;> simp [World.cell?, World.frozen?, h]
def aD2 (w : World) (r : Nat) (a b c : Value) : World := ((w.setCell ⟨r, 0, none⟩ a).setCell ⟨r, 1, none⟩ b).setCell ⟨r, 2, none⟩ c
theorem aL4 {W : World} {R : Nat} {a b c : Value} {t : TypeId} (h : W.heap[R]? = some (.cells #[a, b, c] t)) (a' b' c' : Value) : (aD2 W R a' b' c').heap[R]? = some (.cells #[a', b', c'] t) := by
 have := aA3 _ R 2 _ _ _ c' (aA3 _ R 1 _ _ _ b' (aA3 W R 0 _ _ _ a' h));simpa [aD2] using this
theorem aH0 {w W : World} {B R : Nat} {a b c : Value} (h : Below B w W) (hR : B ≤ R) : Below B w (aD2 W R a b c) :=
 bsc (bsc (bsc h hR 0) hR 1) hR 2
theorem cV2 (m : Int) (v1 v2 : Value) (b : Tx) (n b1 b2 : Nat) (fs : Fs) (w : World) (h1 : aB4 w b1 v1 n fs) (h2 : aB4 w b2 v2 n fs) (hn : n ≤ 2000000) :
  Calls prog 125 #[.agg #[.int .i64 m, v1, .string b], .agg #[.int .i64 m, v2, .string b]] w fun e w' => e = .returned (.bool true) ∧ Below w.heap.size w w' := by
 obtain ⟨oa, ca, rfl, _⟩ := h1.slice;obtain ⟨ob, cb, rfl, _⟩ := h2.slice;have tb : (b.toList == b.toList) = true := by simp
 have tm : (m != m) = false := by simp
 obtain ⟨w0, a0⟩ := exq (((w.alloc (.cells #[.int .i64 m, .slice oa n ca, .string b] 34)).alloc (.cells #[.int .i64 m, .slice ob n cb, .string b] 34)));have a4 : w0.heap.size = w.heap.size + 1 + 1 := by rw [a0]; simp
 have a1 : Bw w w0 := by rw [a0]; exact ((Below.refl _ w).alloc (Nat.le_refl _) _).alloc (by simp) _
 have x1 : w0.heap[w.heap.size]? = some (.cells #[.int .i64 m, .slice oa n ca, .string b] 34) := by
  rw [a0, heap_alloc_old _ _ (by simp)]; exact heap_alloc_new w _
 have x2 : w0.heap[w.heap.size + 1]? = some (.cells #[.int .i64 m, .slice ob n cb, .string b] 34) := by
  rw [a0]
  have := heap_alloc_new (w.alloc (.cells #[.int .i64 m, .slice oa n ca, .string b] 34)) (.cells #[.int .i64 m, .slice ob n cb, .string b] 34)
  simpa using this
 go_enter func125, ntmps125;go_wp2_with fail
 rw [← a0];refine (cG5 _ _ n b1 b2 fs _ (h1.below a1) (h2.below a1) hn).mono ?_;rintro e w1 ⟨rfl, a2⟩;rw [← a2.block _ (by omega)] at x1 x2;obtain ⟨q, hq⟩ := exq (w.heap.size + 1);obtain ⟨c, hc⟩ := exq (w.heap.size);rw [← hq] at x2;rw [← hc] at x1;have y1 : w1.cell? ⟨c, 2, none⟩ = some (.string b) := by simp [World.cell?, x1]
 have y2 : w1.cell? ⟨q, 2, none⟩ = some (.string b) := by simp [World.cell?, x2]
 have a3 : Bw w w1 := a1.trans (a2.mono a1.size);rw [← hq, ← hc];clear x1 x2 hq hc a0 a4 a1 a2 h1 h2;go_wp2
 go_ret;exact ⟨rfl, a3⟩
def mkG (k0 : Nat) (fs : Fs) : Nat → Fs
 | 0 => fs
 | k + 1 => (mkG k0 fs k).set k (aB1 (k0 + 2 * k), aB1 (k0 + 2 * k + 1))
theorem cC4 (k0 : Nat) (fs : Fs) : ∀ k, (mkG k0 fs k).length = fs.length
 | 0 => rfl
 | k + 1 => by rw [mkG, List.length_set, cC4 k0 fs k]
theorem dR2 (k0 : Nat) (fs : Fs) (j : Nat) : ∀ k, k ≤ fs.length → j < k → aD0 (mkG k0 fs k) j = aB1 (k0 + 2 * j) ∧ aH7 (mkG k0 fs k) j = aB1 (k0 + 2 * j + 1) := by
 intro k;induction k with
 | zero => intro _ h; omega
 | succ k ih =>
  intro hk h
  have hs := bX0 (mkG k0 fs k) k j (aB1 (k0 + 2 * k), aB1 (k0 + 2 * k + 1)) (by rw [cC4]; omega)
  rw [mkG, hs.1, hs.2]
  by_cases e : j = k
  ·subst e; rw [if_pos rfl, if_pos rfl]; exact ⟨rfl, rfl⟩
  rw [if_neg e, if_neg e]; exact ih (by omega) (by omega)
theorem cH4 (v : Value) (n base : Nat) (fs : Fs) (w : World) (h1 : w.ownsRow base 232 2 v n (aE5 fs)) (hb : base ≤ w.heap.size) (k0 : Nat) (hk0 : 1 ≤ k0) (hn : k0 + 2 * n ≤ 99999999) :
  Calls prog 225 #[v, .int .i64 (k0 : Int)] w fun e w' => e = .returned (.int .i64 ((k0 : Int) + 2 * (n : Int))) ∧ w'.ownsRow base 232 2 v n (aE5 (mkG k0 fs n)) ∧ Below base w w' ∧ Far v w w' := by
 rcases bO2 h1 with ⟨oa, ca, rfl, _, rfl, rfl⟩ | ⟨g, cap, rfl, hp, r1⟩
 ·go_enter func225, ntmps225;go_wp2
  refine wp_loop_rounds 1 ?_;rw [rounds_succ];go_wp2
  go_ret;exact ⟨aU5 (by simp), h1, Below.refl _ _, fun j _ _ => rfl⟩
 clear h1;go_enter func225, ntmps225;go_wp2
 go_loopw [1, 5] (fun q i wr => ∃ k : Nat, k ≤ n ∧ i = .int .i64 (k : Int) ∧ q = .int .i64 ((k0 : Int) + 2 * (k : Int)) ∧ Below base w wr ∧ aF6 base wr g n cap (mkG k0 fs k) ∧ Hid (∀ j, j < w.heap.size → j ≠ g → wr.heap[j]? = w.heap[j]?)) (fun _ i _ => n - (intOf i).toNat)
 case atStart => exact ⟨0, Nat.zero_le _, rfl, by simp, Below.refl _ _, r1, fun j _ _ => rfl⟩
 case round =>
  obtain ⟨k, hk, rfl, rfl, a3, a1, a4⟩ := hrel;by_cases hlt : k < n
  rotate_left
  ·obtain rfl : k = n := by omega
   go_wp2
   go_ret;exact ⟨rfl, a1.owns, a3, fun j hj a2 => a4.out j hj (fun e => a2 (by rw [e]; rfl))⟩
  have b1 : (k : Int) < (n : Int) := by omega
  have b2 := a3.size;go_wp2_with fail
  refine (aF4 _ (k0 + 2 * k) _ (by omega) (by omega) (by omega)).mono ?_;rintro e w1 ⟨rfl, a6⟩;have a0 := a1.below a6 a1.lt;have hc := a0.name k hlt;have hf := a0.frozen (k * 2);have a7 : Below base w w1 := a3.trans (a6.mono (Nat.le_trans hb a3.size));have b3 : Hid (∀ j, j < w.heap.size → j ≠ g → w1.heap[j]? = w.heap[j]?) := fun j hj a2 => by rw [a6.block j (by omega)]; exact a4.out j hj a2
  clear a6 a3;go_wp2_with fail
  refine (aF4 _ (k0 + 2 * k + 1) _ (by omega) (by omega) (by omega)).mono ?_;rintro e w2 ⟨rfl, a5⟩;have a8 : g < (w1.setCell ⟨g, k * 2, none⟩ (.string (aB1 (k0 + 2 * k)))).heap.size := by simpa using a0.lt
  have hblk := a5.block g a8
  have b6 : w2.cell? ⟨g, k * 2 + 1, none⟩ = some (.string (aH7 (mkG k0 fs k) k)) := by
   rw [World.cell?_of_block (w := w1.setCell ⟨g, k * 2, none⟩ (.string (aB1 (k0 + 2 * k)))) hblk, World.cell?_setCell_other (h := fun e => by have := congrArg Addr.off e; simp at this)]
   exact a0.val k hlt
  have b7 : w2.frozen? ⟨g, k * 2 + 1, none⟩ = false := by
   rw [World.frozen?_of_block (w := w1.setCell ⟨g, k * 2, none⟩ (.string (aB1 (k0 + 2 * k)))) hblk, World.frozen?_setCell]; exact a0.frozen _
  have b4 : Below base w w2 := (a7.setCell a1.base _).trans (a5.mono (by have := a7.size; simp; omega));have a9 : w1.heap.size ≤ w2.heap.size := by have := a5.size; simpa using this
  have b5 : Hid (∀ j, j < w.heap.size → j ≠ g → (w2.setCell ⟨g, k * 2 + 1, none⟩ (.string (aB1 (k0 + 2 * k + 1)))).heap[j]? = w.heap[j]?) := fun j hj a2 => by
   have b8 : w.heap.size ≤ w1.heap.size := a7.size
   rw [heap_setCell_other _ _ j _ (fun e => a2 e), a5.block j (by simp; omega), heap_setCell_other _ _ j _ (fun e => a2 e)]
   exact b3.out j hj a2
  clear a5 a7;have b0 : Hid (aF6 base (w2.setCell ⟨g, k * 2 + 1, none⟩ (.string (aB1 (k0 + 2 * k + 1)))) g n cap (mkG k0 fs (k + 1))) := a0.set k hlt _ _ _ (bE6 hblk _ _) (by simpa using a9);clear hblk hc hf;go_wp2
  go_roundw
  case rel => exact ⟨k + 1, by omega, by go_num, by first | go_num | (congr 1; omega), b4.setCell a1.base _, b0, b5⟩
  case measure => simp [intOf]; omega
theorem cH5 (v : Value) (n base : Nat) (fs : Fs) (w : World) (h1 : w.ownsRow base 232 2 v n (aE5 fs)) (k0 : Nat) (hk0 : 1 ≤ k0) (hn : k0 + 2 * n ≤ 99999999) (hm : ∀ j, j < n → aD0 fs j = aB1 (k0 + 2 * j) ∧ aH7 fs j = aB1 (k0 + 2 * j + 1)) :
  Calls prog 228 #[v, .int .i64 (k0 : Int)] w fun e w' => e = .returned (.int .i64 ((k0 : Int) + 2 * (n : Int))) ∧ Below w.heap.size w w' := by
 rcases bO2 h1 with ⟨oa, ca, rfl, _, rfl, rfl⟩ | ⟨g, b1, rfl, hp, r1⟩
 ·clear hm;go_enter func228, ntmps228;go_wp2
  refine wp_loop_rounds 1 ?_;rw [rounds_succ];go_wp2
  go_ret;exact ⟨aU5 (by simp), Below.refl _ _⟩
 clear h1;have HM := hid hm;clear hm;go_enter func228, ntmps228;go_wp2
 go_loopw [1, 5] (fun q i wr => ∃ k : Nat, k ≤ n ∧ i = .int .i64 (k : Int) ∧ q = .int .i64 ((k0 : Int) + 2 * (k : Int)) ∧ Bw w wr) (fun _ i _ => n - (intOf i).toNat)
 case atStart => exact ⟨0, Nat.zero_le _, rfl, by simp, Below.refl _ _⟩
 case round =>
  obtain ⟨k, hk, rfl, rfl, a0⟩ := hrel;by_cases hlt : k < n
  rotate_left
  ·obtain rfl : k = n := by omega
   go_wp2
   go_ret;exact ⟨rfl, a0⟩
  have a3 : (k : Int) < (n : Int) := by omega
  have HA : Hid (∀ w0 w1, Bw w w0 → Below w0.heap.size w0 w1 → (w1.cell? ⟨g, k * 2, none⟩ = some (.string (aB1 (k0 + 2 * k))) ∧ w1.cell? ⟨g, k * 2 + 1, none⟩ = some (.string (aB1 (k0 + 2 * k + 1)))) ∧ Bw w w1) := fun w0 w1 h h' => by
   have hx := h.trans (h'.mono h.size)
   have a1 := (r1.below hx r1.lt).name k hlt
   have a2 := (r1.below hx r1.lt).val k hlt
   rw [(HM.out k hlt).1] at a1
   rw [(HM.out k hlt).2] at a2
   exact ⟨⟨a1, a2⟩, hx⟩
  obtain ⟨⟨a4, a5⟩, _⟩ := HA.out wr wr a0 (Below.refl _ _);go_wp2
  go_region_held3 (fun w' => w'.cell? ⟨g, k * 2, none⟩ = some (.string (aB1 (k0 + 2 * k)))) (first | assumption | go_keep) (first | (go_at_call 224; refine (aF4 _ (k0 + 2 * k) _ (by omega) (by omega) (by omega)).mono ?_; rintro e w1 ⟨rfl, a6⟩; obtain ⟨⟨a7, b2⟩, a8⟩ := HA.out _ w1 a0.drew a6))
  clear a4 a5 a7;go_wp2
  go_region_held3 (fun w' => w'.cell? ⟨g, k * 2 + 1, none⟩ = some (.string (aB1 (k0 + 2 * k + 1)))) (first | assumption | go_keep) (first | (go_at_call 224; refine (aF4 _ (k0 + 2 * k + 1) _ (by omega) (by omega) (by omega)).mono ?_; rintro e w2 ⟨rfl, a9⟩; obtain ⟨⟨b3, b4⟩, b0⟩ := HA.out _ w2 a8.drew a9))
  go_wp2
  go_roundw
  case rel => exact ⟨k + 1, by omega, by go_num, by first | go_num | (congr 1; omega), b0⟩
  case measure => simp [intOf]; omega
theorem aA6 {W W' : World} {r : Nat} {o : Obj} (h : W.heap[r]? = some o) (b : Below W.heap.size W W') : W'.heap[r]? = some o := by
 rw [b.block r (blt h)]; exact h
theorem aJ8 {W : World} {r : Nat} {o : Obj} (h : W.heap[r]? = some o) (x : Obj) : (W.alloc x).heap[r]? = some o := by
 rw [Below.heap_alloc _ _ _ (blt h)]; exact h
theorem aE8 {W : World} {r : Nat} {cs : Array Value} {T t : TypeId} {base size n : Nat} {v : Value} {xs : List Value} (ho : W.ownsRow base t size v n xs) (h : W.heap[r]? = some (.cells cs T)) (hT : T ≠ t) (j : Nat) (hj : v.ownBlock = some j) : j ≠ r := fun e => by
 subst e
 rcases ho.2 with ⟨rfl, _⟩ | ⟨g, cap, cur, rfl, _, h1, _⟩
 · cases hj
 ·cases hj
  rw [h] at h1
  cases h1
  exact hT rfl
theorem dB6 {W W' : World} {r : Nat} {cs : Array Value} {T t : TypeId} {base size n : Nat} {v : Value} {xs : List Value} (h : W.heap[r]? = some (.cells cs T)) (far : Far v W W') (ho : W.ownsRow base t size v n xs) (hT : T ≠ t) : W'.heap[r]? = some (.cells cs T) := by
 rw [far r (blt h) (fun e => ?_)]
 ·exact h
 rcases ho.2 with ⟨rfl, _⟩ | ⟨g, a0, a1, rfl, _, h1, _⟩
 ·cases e
 cases e
 rw [h] at h1;cases h1
 exact hT rfl
theorem aA1 {W : World} {R : Nat} {cs : Array Value} {t : TypeId} (h : W.heap[R]? = some (.cells cs t)) (i : Nat) : W.cell? ⟨R, i, none⟩ = cs[i]? := by simp [World.cell?, h]
theorem aA2 {W : World} {R : Nat} {cs : Array Value} {t : TypeId} (h : W.heap[R]? = some (.cells cs t)) (i : Nat) : W.frozen? ⟨R, i, none⟩ = false := by simp [World.frozen?, h]
theorem aD7 {W : World} {b1 b2 z1 z2 n1 n2 : Nat} {t1 t2 : TypeId} {v1 v2 : Value} {xs ys : List Value} (h1 : W.ownsRow b1 t1 z1 v1 n1 xs) (h2 : W.ownsRow b2 t2 z2 v2 n2 ys) (ht : t1 ≠ t2) (j : Nat) (hj : v1.ownBlock = some j) : v2.ownBlock ≠ some j := fun e => by
 rcases h1.2 with ⟨rfl, _⟩ | ⟨g, cap, cur, rfl, _, k1, _⟩
 · cases hj
 ·cases hj
  rcases h2.2 with ⟨rfl, _⟩ | ⟨g2, cap2, cur2, rfl, _, k2, _⟩
  · cases e
  ·cases e
   rw [k1] at k2
   cases k2
   exact ht rfl
def SzTx (L : Int) (n : Nat) (xs : Ts) (w : World) (e : Ending) (w' : World) : Prop :=
 ∃ r : Int, e = .returned (.int .i64 r) ∧ r ≤ L ∧ (0 ≤ r → r + (n : Int) ≤ L ∧ n ≤ 1048576 ∧ ∀ i, i < n → (aA7 xs i).size ≤ 1048576) ∧ Below w.heap.size w w'
theorem bP6 (L : Int) (hL0 : 0 ≤ L) (hL1 : L ≤ 1048576) (B : Nat) (a : Oa) (n cap : Nat) (xs : Ts) (w : World) (harg : ArgT w B a n xs) (hB : B ≤ w.heap.size) (hn : n ≤ maxLen) (hsz : ∀ i, i < n → (aA7 xs i).size ≤ maxLen) :
  Calls prog 116 #[.slice a n cap, .int .i64 L] w fun e w' => SzTx L n xs w e w' := by
 unfold maxLen at hn;have HS := hid hsz;have HA : Hid (∀ W, Bw w W → ArgT W B a n xs) := fun W h => harg.below (h.mono hB)
 clear hsz harg;by_cases c1 : L - (n : Int) < 0
 ·go_enter func116, ntmps116;go_wp2
  go_ret;exact ⟨-1, rfl, by omega, fun h => absurd h (by omega), Below.refl _ _⟩
 go_enter func116, ntmps116;go_wp2
 go_loopw [1, 5] (fun l i wr => ∃ (k : Nat) (x : Int), k ≤ n ∧ i = .int .i64 (k : Int) ∧ l = .int .i64 x ∧ 0 ≤ x ∧ x + (n : Int) ≤ L ∧ Hid (∀ j, j < k → (aA7 xs j).size ≤ 1048576) ∧ Bw w wr) (fun _ i _ => n - (intOf i).toNat)
 case atStart => exact ⟨0, _, Nat.zero_le _, rfl, rfl, by omega, by omega, fun j hj => absurd hj (by omega), Below.refl _ _⟩
 case round =>
  obtain ⟨k, x, hk, rfl, rfl, a5, a1, HX, a0⟩ := hrel;by_cases hlt : k < n
  rotate_left
  ·have hF : Hid (n ≤ 1048576 ∧ ∀ i, i < n → (aA7 xs i).size ≤ 1048576) := ⟨by omega, fun i hi => HX.out i (by omega)⟩
   go_wp2
   go_ret;exact ⟨x, rfl, by omega, fun _ => ⟨a1, hF.out⟩, a0⟩
  have a2 : (k : Int) < (n : Int) := by omega
  obtain ⟨b, a6, rfl, a7, a3⟩ := (HA.out wr a0).get k hlt;have s1 := HS.out k hlt;obtain ⟨t, ht⟩ := exq (aA7 xs k);rw [← ht] at a3 s1;unfold maxLen at s1;by_cases d1 : x - (t.size : Int) < 0
  ·clear ht;go_wp2
   go_ret;exact ⟨-1, rfl, by omega, fun h => absurd h (by omega), a0⟩
  have a4 : Hid (∀ j, j < k + 1 → (aA7 xs j).size ≤ 1048576) := by
   intro j hj
   by_cases e : j = k
   ·rw [e, ← ht]; omega
   ·exact HX.out j (by omega)
  clear ht;go_wp2
  go_roundw
  case rel => exact ⟨k + 1, x - (t.size : Int), by omega, by go_num, by go_num, by omega, by omega, a4, a0⟩
  case measure => simp [intOf]; omega
theorem aZ0 {w : World} {B base : Nat} {e : TypeId} {size : Nat} {v : Value} {n : Nat} {xs : List Value} (h : w.ownsRow base e size v n xs) (hB : ∀ g, v.ownBlock = some g → B ≤ g) : w.ownsRow B e size v n xs := by
 refine ⟨h.1, ?_⟩;rcases h.2 with h0 | ⟨g, a0, a1, rfl, _, h1⟩
 ·exact .inl h0
 exact .inr ⟨g, a0, a1, rfl, hB g rfl, h1⟩
def mkT (k0 : Nat) (xs : Ts) : Nat → Ts
 | 0 => xs
 | i + 1 => (mkT k0 xs i).set i (aB1 (k0 + i))
theorem bP7 (k0 : Nat) (xs : Ts) : ∀ i, (mkT k0 xs i).length = xs.length
 | 0 => rfl
 | i + 1 => by rw [mkT, List.length_set, bP7 k0 xs i]
theorem dB7 (k0 : Nat) (xs : Ts) (j : Nat) (hj : j < xs.length) : ∀ i, j < i → aA7 (mkT k0 xs i) j = aB1 (k0 + j) := by
 intro i;induction i with
 | zero => intro h; omega
 | succ i ih =>
  intro h
  unfold aA7
  rw [mkT]
  by_cases e : i = j
  ·subst e
   rw [List.getD_eq_getElem?_getD, List.getElem?_set_self (by rw [bP7]; exact hj)]
   rfl
  rw [List.getD_eq_getElem?_getD, List.getElem?_set_ne (by exact e), ← List.getD_eq_getElem?_getD]
  exact ih (by omega)
theorem aX0 (v : Value) (n base : Nat) (xs : Ts) (w : World) (h1 : w.ownsRow base 9 1 v n (xs.map Value.string)) (hb : base ≤ w.heap.size) (k0 : Nat) (hk0 : 1 ≤ k0) (hn : k0 + n ≤ 99999998) :
  Calls prog 128 #[v, .int .i64 (k0 : Int)] w fun e w' => e = .returned (.int .i64 ((k0 : Int) + (n : Int))) ∧ w'.ownsRow base 9 1 v n ((mkT k0 xs n).map Value.string) ∧ Below base w w' ∧ Far v w w' := by
 rcases aM8 h1 with ⟨oa, ca, rfl, rfl, rfl⟩ | ⟨g, cap, rfl, hp, r1⟩
 ·go_enter func128, ntmps128;go_wp2
  refine wp_loop_rounds 1 ?_;rw [rounds_succ];go_wp2
  go_ret;exact ⟨by simp, h1, Below.refl _ _, fun _ _ _ => rfl⟩
 clear h1;have a3 : Hid (aF1 base w g n cap xs) := r1;clear r1;go_enter func128, ntmps128;go_wp2
 go_loopw [1, 5] (fun k i wr => ∃ j : Nat, j ≤ n ∧ i = .int .i64 (j : Int) ∧ k = .int .i64 ((k0 : Int) + (j : Int)) ∧ Hid (w.grownBy wr (some g)) ∧ Hid (aF1 base wr g n cap (mkT k0 xs j))) (fun _ i _ => n - (intOf i).toNat)
 case atStart => exact ⟨0, Nat.zero_le _, rfl, by simp, World.grownBy.refl _ _, a3⟩
 case round =>
  obtain ⟨j, hj, rfl, rfl, HG, HR⟩ := hrel;by_cases hlt : j < n
  rotate_left
  ·obtain rfl : j = n := by omega
   go_wp2
   go_ret;have hg := HG.out;exact ⟨rfl, HR.out.owns, ⟨hg.os, hg.tape, hg.output, hg.size, fun i hi => hg.block i (Nat.lt_of_lt_of_le hi hb) (fun e => by have := HR.out.base; cases e; omega)⟩, fun i hi a2 => hg.block i hi (fun e => a2 e.symm)⟩
  have a4 : (j : Int) < (n : Int) := by omega
  go_wp2_with fail
  refine (aF4 _ (k0 + j) _ (by omega) (by omega) (by omega)).mono ?_;rintro e w1 ⟨rfl, a1⟩;have a0 := HR.out.below a1 HR.out.lt;have hc := a0.cell j hlt;have hf := a0.frozen j
  have a5 : Hid (w.grownBy (w1.setCell ⟨g, j, none⟩ (.string (aB1 (k0 + j)))) (some g)) := by
   have h0 := HG.out
   refine ⟨a1.os.trans h0.os, a1.tape.trans h0.tape, a1.output.trans h0.output, by rw [World.size_setCell]; exact Nat.le_trans h0.size a1.size, fun i hi a2 => ?_⟩
   rw [heap_setCell_other _ _ i _ (fun e => a2 (by rw [e]))]
   exact (a1.block i (Nat.lt_of_lt_of_le hi h0.size)).trans (h0.block i hi a2)
  have a6 : Hid (aF1 base (w1.setCell ⟨g, j, none⟩ (.string (aB1 (k0 + j)))) g n cap (mkT k0 xs (j + 1))) := a0.set j hlt _;clear a1 HG HR a0;go_wp2
  go_roundw
  case rel => exact ⟨j + 1, by omega, by go_num, by go_num, a5, a6⟩
  case measure => simp [intOf]; omega
theorem aX1 (v : Value) (n base : Nat) (xs : Ts) (w : World) (h1 : w.ownsRow base 9 1 v n (xs.map Value.string)) (k0 : Nat) (hk0 : 1 ≤ k0) (hn : k0 + n ≤ 99999998) (hm : ∀ j, j < n → aA7 xs j = aB1 (k0 + j)) :
  Calls prog 226 #[v, .int .i64 (k0 : Int)] w fun e w' => e = .returned (.int .i64 ((k0 : Int) + (n : Int))) ∧ Below w.heap.size w w' := by
 rcases aM8 h1 with ⟨oa, ca, rfl, rfl, rfl⟩ | ⟨g, a4, rfl, hp, r1⟩
 ·clear hm;go_enter func226, ntmps226;go_wp2
  refine wp_loop_rounds 1 ?_;rw [rounds_succ];go_wp2
  go_ret;exact ⟨by simp, Below.refl _ _⟩
 clear h1;have HM := hid hm;clear hm;go_enter func226, ntmps226;go_wp2
 go_loopw [1, 5] (fun k i wr => ∃ j : Nat, j ≤ n ∧ i = .int .i64 (j : Int) ∧ k = .int .i64 ((k0 : Int) + (j : Int)) ∧ Bw w wr) (fun _ i _ => n - (intOf i).toNat)
 case atStart => exact ⟨0, Nat.zero_le _, rfl, by simp, Below.refl _ _⟩
 case round =>
  obtain ⟨j, hj, rfl, rfl, a0⟩ := hrel;by_cases hlt : j < n
  rotate_left
  ·obtain rfl : j = n := by omega
   go_wp2
   go_ret;exact ⟨rfl, a0⟩
  have a3 : (j : Int) < (n : Int) := by omega
  have hc : wr.cell? ⟨g, j, none⟩ = some (.string (aB1 (k0 + j))) := by
   rw [← HM.out j hlt]; exact (r1.below a0 r1.lt).cell j hlt
  have a1 : ∀ w1, Below wr.heap.size wr w1 → w1.cell? ⟨g, j, none⟩ = some (.string (aB1 (k0 + j))) := fun w1 h => by
   rw [h.cell (p := ⟨g, j, none⟩) (by have := a0.size; have := r1.lt; show g < _; omega)]; exact hc
  have HA : Hid _ := a1;clear a1;go_wp2
  go_region_with (go_at_call 224; refine (aF4 _ (k0 + j) _ (by omega) (by omega) (by omega)).mono ?_; rintro e w1 ⟨rfl, a2⟩; have a5 := HA.out w1 (((Below.refl _ wr).drew).trans a2))
  all_goals
   go_wp2
   go_roundw
   case rel => exact ⟨j + 1, by omega, by go_num, by go_num, (a0.drew).trans (a2.mono a0.size)⟩
   case measure => simp [intOf]; omega
structure KpD where
 p : ByteArray
 xs : Ts
 ys : Ts
 st : Int
 fs : Fs
 b : ByteArray
 t : Int
 a : Int
 q : Int
abbrev Ks := List (KpD × Value × Value × Value)
def kpC (x : KpD × Value × Value × Value) : List Value := [.string x.1.p, x.2.1, x.2.2.1, .int .i64 x.1.st, x.2.2.2, .string x.1.b, .int .i64 x.1.t, .int .i64 x.1.a, .int .i64 x.1.q]
theorem aZ1 (x : KpD × Value × Value × Value) : (kpC x).length = 9 := rfl
def kpN (x : KpD × Value × Value × Value) : Rw := ⟨9, 1, x.2.1, x.1.xs.length, x.1.xs.map Value.string⟩
def kpV (x : KpD × Value × Value × Value) : Rw := ⟨9, 1, x.2.2.1, x.1.ys.length, x.1.ys.map Value.string⟩
def kpF (x : KpD × Value × Value × Value) : Rw := ⟨232, 2, x.2.2.2, x.1.fs.length, aE5 x.1.fs⟩
def kpR (x : KpD × Value × Value × Value) : List Rw := [kpN x, kpV x, kpF x]
def aT9 (V : Value) (kv : Ks) : Rw := ⟨52, 9, V, kv.length, kv.flatMap kpC⟩
def aF2 (V : Value) (kv : Ks) : List Rw := aT9 V kv :: kv.flatMap kpR
def aC5 (w : World) (base : Nat) (V : Value) (kv : Ks) : Prop := aB2 w base (aF2 V kv)
theorem aC5.row {w : World} {base : Nat} {V : Value} {kv : Ks} (h : aC5 w base V kv) : w.ownsRow base 52 9 V kv.length (kv.flatMap kpC) := h.own (aT9 V kv) (by simp [aF2])
theorem aC5.names {w : World} {base : Nat} {V : Value} {kv : Ks} (h : aC5 w base V kv) {x : KpD × Value × Value × Value} (hx : x ∈ kv) : w.ownsRow base 9 1 x.2.1 x.1.xs.length (x.1.xs.map Value.string) := h.own (kpN x) (List.mem_cons_of_mem _ (List.mem_flatMap.2 ⟨x, hx, by simp [kpR]⟩))
theorem aC5.vals {w : World} {base : Nat} {V : Value} {kv : Ks} (h : aC5 w base V kv) {x : KpD × Value × Value × Value} (hx : x ∈ kv) : w.ownsRow base 9 1 x.2.2.1 x.1.ys.length (x.1.ys.map Value.string) := h.own (kpV x) (List.mem_cons_of_mem _ (List.mem_flatMap.2 ⟨x, hx, by simp [kpR]⟩))
theorem aC5.flds {w : World} {base : Nat} {V : Value} {kv : Ks} (h : aC5 w base V kv) {x : KpD × Value × Value × Value} (hx : x ∈ kv) : w.ownsRow base 232 2 x.2.2.2 x.1.fs.length (aE5 x.1.fs) := h.own (kpF x) (List.mem_cons_of_mem _ (List.mem_flatMap.2 ⟨x, hx, by simp [kpR]⟩))
theorem aC5.below {w w' : World} {base : Nat} {V : Value} {kv : Ks} (h : aC5 w base V kv) (hb : Below w.heap.size w w') : aC5 w' base V kv := aB2.below h hb
structure KpAt (w : World) (g i : Nat) (x : KpD × Value × Value × Value) : Prop where
 c0 : w.cell? ⟨g, i * 9, none⟩ = some (.string x.1.p)
 c1 : w.cell? ⟨g, i * 9 + 1, none⟩ = some x.2.1
 c2 : w.cell? ⟨g, i * 9 + 2, none⟩ = some x.2.2.1
 c3 : w.cell? ⟨g, i * 9 + 3, none⟩ = some (.int .i64 x.1.st)
 c4 : w.cell? ⟨g, i * 9 + 4, none⟩ = some x.2.2.2
 c5 : w.cell? ⟨g, i * 9 + 5, none⟩ = some (.string x.1.b)
 c6 : w.cell? ⟨g, i * 9 + 6, none⟩ = some (.int .i64 x.1.t)
 c7 : w.cell? ⟨g, i * 9 + 7, none⟩ = some (.int .i64 x.1.a)
 c8 : w.cell? ⟨g, i * 9 + 8, none⟩ = some (.int .i64 x.1.q)
theorem aC5.at {w : World} {base : Nat} {V : Value} {kv : Ks} (h : aC5 w base V kv) (i : Nat) (hi : i < kv.length) : ∃ g cap, V = .slice (some ⟨g, 0, none⟩) kv.length cap ∧ g < w.heap.size ∧ KpAt w g i (kv[i]'hi) := by
 have hr := h.row;rcases hr.2 with ⟨_, h0⟩ | ⟨g, cap, a1, rfl, _, h1, _⟩
 ·omega
 have a0 : ∀ j, j < 9 → ∀ u, (kpC (kv[i]'hi))[j]? = some u → w.cell? ⟨g, i * 9 + j, none⟩ = some u := fun j hj u hu => (bA9 hr (i * 9 + j) u (by rw [bE7 kpC 9 aZ1 kv i j hi hj]; exact hu)).1
 exact ⟨g, cap, rfl, (blt h1), ⟨a0 0 (by decide) _ rfl, a0 1 (by decide) _ rfl, a0 2 (by decide) _ rfl, a0 3 (by decide) _ rfl, a0 4 (by decide) _ rfl, a0 5 (by decide) _ rfl, a0 6 (by decide) _ rfl, a0 7 (by decide) _ rfl, a0 8 (by decide) _ rfl⟩⟩
theorem aC5.len {w : World} {base : Nat} {V : Value} {kv : Ks} (h : aC5 w base V kv) : ∃ oa cp, V = .slice oa kv.length cp := aA0 h.row
theorem cM4 (y0 : Int) (y1 : Tx) (w : World) :
  Calls prog 230 #[.agg #[.int .i64 y0, .string y1]] w fun e w' => e = .returned (.agg #[.int .i64 y0, .string y1]) ∧ Below w.heap.size w w' := by
 have K0 := jnil w;go_enter func230, ntmps230;go_upto_region 1 with fail
 obtain ⟨q1, a5⟩ := exq (w.heap.size);obtain ⟨w1, a0⟩ := exq (w.alloc (.cells #[.int .i64 y0, .string y1] 264));have a6 := a5.symm;rw [← a0]; try rw [← a5];have b7 := hsa a0 a6;have bw := bal a0;have K1 := ja K0 a0 a6;clear bw a0 a6 K0;obtain ⟨q2, a7⟩ := exq (q1 + 1);obtain ⟨w2, a1⟩ := exq (w1.alloc (.cells #[.int .i64 0, .string ⟨#[]⟩] 128));have a8 : w1.heap.size = q2 := by rw [a7]; exact b7
 rw [← a1]; try rw [← a7];have b8 := hsa a1 a8;have bw := bal a1;have K2 := ja K1 a1 a8;clear bw a1 a8 K1;clear b8 a7 b7 a5;go_upto_region 2 with fail
 obtain ⟨q3, a9⟩ := exq (w2.heap.size);obtain ⟨w3, a2⟩ := exq (w2.alloc (.cells #[.int .i64 0, .string ⟨#[]⟩] 128));have b0 := a9.symm;rw [← a2]; try rw [← a9];have b9 := hsa a2 b0;have bw := bal a2;have K3 := ja K2 a2 b0;clear bw a2 b0 K2;clear b9 a9;have b1 := c2c (jb K3 2 rfl);have a3 := c2f (jb K3 0 rfl);go_upto_region 3 with fail
 obtain ⟨w4, b2⟩ := exq (w3.setCell ⟨q3, 0, none⟩ (.int .i64 y0));rw [← b2];have K4 := js K3 0 b2;clear b2 K3;clear b1 a3;have b3 := c2c (jb K4 2 rfl);have b4 := c2f (jb K4 0 rfl);go_upto_region 4 with fail
 obtain ⟨w5, b5⟩ := exq (w4.setCell ⟨q3, 1, none⟩ (.string y1));rw [← b5];have K5 := js K4 0 b5;clear b5 K4;clear b3 b4;have c0 := c2f (jb K5 1 rfl);have a3 := c2c (jb K5 0 rfl);go_wp2_with fail
 obtain ⟨w7, b6⟩ := exq ((w5.setCell ⟨q2, 0, none⟩ (.int .i64 y0)).setCell ⟨q2, 1, none⟩ (.string y1));rw [← b6];have K7 := jss K5 1 [(0, _), (1, _)] b6;clear b6 K5;have a4 := c2c (jb K7 1 rfl);refine bodyPost_ret (v := .agg #[.int .i64 y0, .string y1]) (by simp [results, results230, go_sem, a4]) rfl ?_;exact ⟨rfl, K7.hb⟩
def dN5 (L : Int) (y1 : Tx) (w : World) (e : Ending) (w' : World) : Prop := ∃ r : Int, e = .returned (.int .i64 r) ∧ r ≤ L ∧ (0 ≤ r → y1.size ≤ 1048576) ∧ Below w.heap.size w w'
theorem cM5 (L : Int) (hL0 : 0 ≤ L) (hL1 : L ≤ 1048576) (y0 : Int) (y1 : Tx) (w : World) (hy1 : y1.size ≤ maxLen) :
  Calls prog 229 #[.agg #[.int .i64 y0, .string y1], .int .i64 L] w fun e w' => dN5 L y1 w e w' := by
 unfold maxLen at hy1;have K0 := jnil w;go_enter func229, ntmps229;go_upto_region 1 with fail
 obtain ⟨q1, a1⟩ := exq (w.heap.size);obtain ⟨w1, a0⟩ := exq (w.alloc (.cells #[.int .i64 y0, .string y1] 264));have a2 := a1.symm;rw [← a0]; try rw [← a1];have a3 := hsa a0 a2;have bw := bal a0;have K1 := ja K0 a0 a2;clear bw a0 a2 K0;clear a3 a1;have a4 := c2c (jb K1 0 rfl);by_cases hc1 : (L - (y1.size : Int)) < 0
 rotate_left
 ·go_wp2_with fail
  go_ret;exact ⟨_, rfl, by omega, fun _ => (by omega), K1.hb⟩
 go_wp2_with fail
 go_ret;exact ⟨-1, rfl, by omega, fun h => absurd h (by omega), K1.hb⟩
theorem cM6 (y0 : Int) (y1 : Tx) (w : World) :
  Calls prog 231 #[.agg #[.int .i64 y0, .string y1], .agg #[.int .i64 y0, .string y1]] w fun e w' => e = .returned (.bool true) ∧ Below w.heap.size w w' := by
 have a7 : (y0 != y0) = false := by simp
 have a8 : (y1.toList != y1.toList) = false := by simp
 have K0 := jnil w;go_enter func231, ntmps231;go_upto_region 1 with fail
 obtain ⟨q1, a2⟩ := exq (w.heap.size);obtain ⟨w1, a0⟩ := exq (w.alloc (.cells #[.int .i64 y0, .string y1] 128));have a3 := a2.symm;rw [← a0]; try rw [← a2];have a6 := hsa a0 a3;have bw := bal a0;have K1 := ja K0 a0 a3;clear bw a0 a3 K0;obtain ⟨q2, a4⟩ := exq (q1 + 1);obtain ⟨w2, a1⟩ := exq (w1.alloc (.cells #[.int .i64 y0, .string y1] 128));have a5 : w1.heap.size = q2 := by rw [a4]; exact a6
 rw [← a1]; try rw [← a4];have a9 := hsa a1 a5;have bw := bal a1;have K2 := ja K1 a1 a5;clear bw a1 a5 K1;clear a9 a4 a6 a2;have b0 := c2c (jb K2 1 rfl);have b1 := c2c (jb K2 0 rfl);go_wp2_with fail
 go_ret;exact ⟨rfl, K2.hb⟩
theorem bB0 {w : World} {base : Nat} {t : TypeId} {size g n cap : Nat} {xs : List Value} (h : w.ownsRow base t size (.slice (some ⟨g, 0, none⟩) n cap) n xs) (o : Nat) (u : Value) : (w.setCell ⟨g, o, none⟩ u).ownsRow base t size (.slice (some ⟨g, 0, none⟩) n cap) n (xs.set o u) := by
 obtain ⟨hl, hv⟩ := h;refine ⟨by simpa using hl, ?_⟩;rcases hv with ⟨e, _⟩ | ⟨g', a0, a1, e, h1, h2, h3, h4, h5, h6⟩
 ·cases e
 cases e
 refine .inr ⟨g, cap, _, rfl, h1, aA3 w g o a1 t (0, 0) u h2, h3, h4, by simpa using h5, ?_⟩;rw [Array.toList_setIfInBounds, List.take_set, h6]
theorem bD5 {w : World} {base : Nat} {t : TypeId} {size g n cap : Nat} {xs : List Value} (h : w.ownsRow base t size (.slice (some ⟨g, 0, none⟩) n cap) n xs) (o : Nat) (u : Value) (ho : xs[o]? = some u) : w.cell? ⟨g, o, none⟩ = some u ∧ w.frozen? ⟨g, o, none⟩ = false := by
 obtain ⟨hl, hv⟩ := h;rcases hv with ⟨e, _⟩ | ⟨g', a0, a1, e, h1, h2, h3, h4, h5, h6⟩
 ·cases e
 cases e
 refine ⟨?_, by simp [World.frozen?, h2]⟩;rw [← h6, List.getElem?_take] at ho;split at ho
 ·simpa [World.cell?, h2] using ho
 cases ho
theorem aM6 {w : World} {base : Nat} {t : TypeId} {size n cap : Nat} {oa : Oa} {xs : List Value} (h : w.ownsRow base t size (.slice oa n cap) n xs) (hn : 0 < n) : ∃ g, oa = some ⟨g, 0, none⟩ := by
 rcases h.2 with ⟨e, h0⟩ | ⟨g, a0, a1, e, _⟩
 ·omega
 cases e; exact ⟨g, rfl⟩
end Go.Proofs.YtiobfnpmidjijaaGreatDoor
