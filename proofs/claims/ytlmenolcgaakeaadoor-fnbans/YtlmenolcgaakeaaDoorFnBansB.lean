/- What the proof of FnBans leans on: contracts of the program's and the specification's functions, and plain facts (part 2 of 4). -/
import Derived.Test.YtlmenolcgaakeaaDoorFnBansA
namespace Go.Proofs.YtlmenolcgaakeaaDoor
open Go.RowKit

def cutA (s sep : ByteArray) : ByteArray := ⟨(Lib.cut s.data.toList sep.data.toList).1.toArray⟩
def cutB (s sep : ByteArray) : ByteArray := ⟨(Lib.cut s.data.toList sep.data.toList).2.1.toArray⟩
def trimP (s p : ByteArray) : ByteArray := ⟨(Lib.trimPrefix s.data.toList p.data.toList).toArray⟩
theorem bs_cutA (s sep : ByteArray) : bs (cutA s sep) = (Lib.cut (bs s) (bs sep)).1 := by simp [bs, cutA]
theorem bs_cutB (s sep : ByteArray) : bs (cutB s sep) = (Lib.cut (bs s) (bs sep)).2.1 := by simp [bs, cutB]
theorem bs_trimP (s p : ByteArray) : bs (trimP s p) = Lib.trimPrefix (bs s) (bs p) := by simp [bs, trimP]
theorem cutA_size (s sep : ByteArray) : (cutA s sep).size ≤ s.size := by
  rw [← bs_len, ← bs_len, bs_cutA]
  unfold Lib.cut
  split
  · simp; omega
  · exact Nat.le_refl _
theorem cutB_size (s sep : ByteArray) : (cutB s sep).size ≤ s.size := by
  rw [← bs_len, ← bs_len, bs_cutB]
  unfold Lib.cut
  split
  · simp
  · simp
theorem trimP_size (s p : ByteArray) : (trimP s p).size ≤ s.size := by
  rw [← bs_len, ← bs_len, bs_trimP]
  unfold Lib.trimPrefix
  split
  · simp
  · exact Nat.le_refl _
theorem index_at (c : UInt8) (t rest : List UInt8) : ∀ (pre : List UInt8), (∀ b ∈ pre, b ≠ c) → Lib.index (pre ++ ((c :: t) ++ rest)) (c :: t) = (pre.length : Int) := by
  intro pre
  induction pre with
  | nil => intro _; simp [Lib.index]
  | cons b r ih =>
    intro h
    have hb : b ≠ c := h b (by simp)
    have ih := ih (fun x hx => h x (by simp [hx]))
    rw [List.cons_append, Lib.index, if_neg (by simp [List.isPrefixOf]; intro e; exact absurd e.symm hb), ih]
    rw [if_neg (by rw [beq_iff_eq]; omega)]
    simp
theorem cut_of {s sep : ByteArray} {c : UInt8} {t rest pre : List UInt8} (hs : bs s = pre ++ ((c :: t) ++ rest)) (hp : bs sep = c :: t) (h : ∀ b ∈ pre, b ≠ c) : bs (cutA s sep) = pre ∧ bs (cutB s sep) = rest := by
  rw [bs_cutA, bs_cutB, hs, hp]
  unfold Lib.cut
  rw [index_at c t rest pre h, if_pos (by omega)]
  constructor
  · simp
  · simp
theorem trim_of {s p : ByteArray} {rest : List UInt8} (hs : bs s = bs p ++ rest) : bs (trimP s p) = rest := by
  rw [bs_trimP, hs]
  unfold Lib.trimPrefix Lib.hasPrefix
  rw [if_pos (by simp)]
  simp

def blE : ByteArray := ⟨#[32]⟩
end Go.Proofs.YtlmenolcgaakeaaDoor

namespace Go.Proofs.YtlmenolcgaakeaaDoor
open Go.RowKit
open Go.Lib hiding intOf

def objW : ByteArray := ⟨#[111, 98, 106, 32]⟩
def nlE : ByteArray := ⟨#[10]⟩
def objHead (p : ByteArray) (t : Int) (n : Nat) : ByteArray := objW ++ p ++ ⟨#[32]⟩ ++ numText t.toNat ++ ⟨#[32]⟩ ++ numText n ++ ⟨#[10]⟩
/-- The head, and behind it the first k values, a byte 10 behind each. -/
def valsTo (h : ByteArray) (ys : List ByteArray) : Nat → ByteArray
  | 0 => h
  | k + 1 => valsTo h ys k ++ textAt ys k ++ ⟨#[10]⟩
def objT (p : ByteArray) (ys : List ByteArray) (st : Int) (fs : List (ByteArray × ByteArray)) (b : ByteArray) (t : Int) : ByteArray :=
  valsTo (objHead p t ys.length) ys ys.length ++ respT st fs b
/-- The text is that of this right object. -/
def IsObj (s p : ByteArray) (ys : List ByteArray) (st : Int) (fs : List (ByteArray × ByteArray)) (b : ByteArray) (t : Int) : Prop :=
  ObjP p (varyP fs) ys st fs b t ∧ objT p ys st fs b t = s
def lnL (ys : List ByteArray) : List UInt8 := ys.flatMap (fun y => bs y ++ [10])

theorem bs_valsTo (h : ByteArray) (ys : List ByteArray) : ∀ k, k ≤ ys.length → bs (valsTo h ys k) = bs h ++ lnL (ys.take k)
  | 0, _ => by simp [valsTo, lnL]
  | k + 1, hk => by
    rw [valsTo, bs_append, bs_append, bs_valsTo h ys k (by omega), take_textAt ys k (by omega)]
    simp [lnL, bs]
theorem bs_head (p : ByteArray) (t : Int) (n : Nat) : bs (objHead p t n) = bs objW ++ (bs p ++ ((32 :: []) ++ (numL t.toNat ++ ((32 :: []) ++ (numL n ++ (10 :: [])))))) := by
  unfold objHead
  simp only [bs_append, bs_num, List.append_assoc]
  rfl
theorem bs_objT (p : ByteArray) (ys : List ByteArray) (st : Int) (fs : List (ByteArray × ByteArray)) (b : ByteArray) (t : Int) : bs (objT p ys st fs b t) = bs objW ++ (bs p ++ ((32 :: []) ++ (numL t.toNat ++ ((32 :: []) ++ (numL ys.length ++ ((10 :: []) ++ (lnL ys ++ bs (respT st fs b)))))))) := by
  unfold objT
  rw [bs_append, bs_valsTo _ _ _ (Nat.le_refl _), bs_head, List.take_length]
  simp only [List.append_assoc]
theorem path_no {p : ByteArray} (h : PathOk p) : ∀ b ∈ bs p, b ≠ 32 ∧ b ≠ 10 := fun x hx => by
  have := bs_all h.1 x hx
  unfold PathB at this
  constructor
  · intro e; subst e; simp at this
  · intro e; subst e; simp at this
theorem num_no (n : Nat) (h : n ≤ 1000000) : ∀ b ∈ numL n, b ≠ 32 ∧ b ≠ 10 := fun x hx => by
  have := (numL_dig n h).2 x hx
  unfold DigB at this
  constructor
  · intro e; subst e; simp at this
  · intro e; subst e; simp at this
theorem val_no {y : ByteArray} (h : ValOk y) : ∀ b ∈ bs y, b ≠ 10 := fun x hx e => by
  have := bs_all h.2.2.1 x hx
  subst e
  unfold ValB at this
  simp at this

/-- The first k lines of a text, and what is behind them. -/
def lnTo (x : ByteArray) : Nat → List ByteArray × ByteArray
  | 0 => ([], x)
  | k + 1 => ((lnTo x k).1 ++ [cutA (lnTo x k).2 nlE], cutB (lnTo x k).2 nlE)
theorem lines_read {x : ByteArray} {ys : List ByteArray} {rest : List UInt8} (hx : bs x = lnL ys ++ rest) (hy : ∀ y ∈ ys, ∀ b ∈ bs y, b ≠ 10) : ∀ k, k ≤ ys.length → (lnTo x k).1 = ys.take k ∧ bs (lnTo x k).2 = lnL (ys.drop k) ++ rest
  | 0, _ => by simp [lnTo, hx]
  | k + 1, hk => by
    obtain ⟨h1, h2⟩ := lines_read hx hy k (by omega)
    have hlt : k < ys.length := by omega
    have e : ys.drop k = textAt ys k :: ys.drop (k + 1) := by
      rw [List.drop_eq_getElem_cons hlt]
      congr 1
      unfold textAt
      rw [List.getD_eq_getElem?_getD, List.getElem?_eq_getElem hlt]
      rfl
    have h3 : bs (lnTo x k).2 = bs (textAt ys k) ++ ((10 :: []) ++ (lnL (ys.drop (k + 1)) ++ rest)) := by
      rw [h2, e]
      simp [lnL]
    have hc := cut_of (sep := nlE) h3 rfl (hy _ (textAt_mem ys k hlt))
    refine ⟨?_, hc.2⟩
    rw [lnTo, h1, take_textAt ys k hlt]
    exact congrArg (fun z => ys.take k ++ [z]) (bs_inj hc.1)

def objP1 (s : ByteArray) : ByteArray := cutB (trimP s objW) blE
def objP2 (s : ByteArray) : ByteArray := cutB (objP1 s) blE
def objP3 (s : ByteArray) : ByteArray := cutB (objP2 s) nlE
theorem obj_read {s p : ByteArray} {ys : List ByteArray} {st : Int} {fs : List (ByteArray × ByteArray)} {b : ByteArray} {t : Int} (h : IsObj s p ys st fs b t) :
    cutA (trimP s objW) blE = p ∧ cutA (objP1 s) blE = numText t.toNat ∧ cutA (objP2 s) nlE = numText ys.length ∧ (lnTo (objP3 s) ys.length).1 = ys ∧ (lnTo (objP3 s) ys.length).2 = respT st fs b ∧ ys.length ≤ 4 := by
  obtain ⟨⟨hr, hp, ht, hnm, _, hl, hv⟩, rfl⟩ := h
  have h4 : ys.length ≤ 4 := by rw [hl]; exact hnm.2
  have e0 := bs_objT p ys st fs b t
  have k0 := trim_of (p := objW) e0
  have k1 := cut_of (sep := blE) k0 rfl (fun x hx => (path_no hp x hx).1)
  have k2 := cut_of (sep := blE) k1.2 rfl (fun x hx => (num_no t.toNat (by omega) x hx).1)
  have k3 := cut_of (sep := nlE) k2.2 rfl (fun x hx => (num_no ys.length (by omega) x hx).2)
  have k4 := lines_read (x := objP3 (objT p ys st fs b t)) k3.2 (fun y hy => val_no (hv y hy)) ys.length (Nat.le_refl _)
  refine ⟨bs_inj k1.1, bs_inj (by rw [bs_num]; exact k2.1), bs_inj (by rw [bs_num]; exact k3.1), ?_, bs_inj ?_, h4⟩
  · rw [k4.1, List.take_length]
  · rw [k4.2, List.drop_length]; rfl
theorem num_inj {a b : Nat} (ha : a ≤ 1000000) (hb : b ≤ 1000000) (h : numText a = numText b) : a = b := by
  have h1 := congrArg bs h
  rw [bs_num, bs_num] at h1
  rw [← numL_val a ha, ← numL_val b hb, h1]
theorem IsObj.uniq {s p p' : ByteArray} {ys ys' : List ByteArray} {st st' : Int} {fs fs' : List (ByteArray × ByteArray)} {b b' : ByteArray} {t t' : Int} (h : IsObj s p ys st fs b t) (h' : IsObj s p' ys' st' fs' b' t') : p = p' ∧ ys = ys' ∧ st = st' ∧ fs = fs' ∧ b = b' ∧ t = t' := by
  obtain ⟨a1, a2, a3, a4, a5, a6⟩ := obj_read h
  obtain ⟨c1, c2, c3, c4, c5, c6⟩ := obj_read h'
  have ht := h.1.2.2.1
  have ht' := h'.1.2.2.1
  have e2 := num_inj (by omega) (by omega) (a2.symm.trans c2)
  have e3 := num_inj (by omega) (by omega) (a3.symm.trans c3)
  rw [e3] at a4 a5
  have e5 := a5.symm.trans c5
  obtain ⟨q1, q2, q3⟩ := IsResp.uniq (s := respT st fs b) ⟨h.1.1, rfl⟩ ⟨h'.1.1, e5.symm⟩
  exact ⟨a1.symm.trans c1, a4.symm.trans c4, q1, q2, q3, by omega⟩

/-- A line that ends in a byte 10, found from a place on. -/
def LineAt (s : ByteArray) (f i : Nat) : Prop := ∃ h : i < s.size, f ≤ i ∧ (s[i]'h).toNat = 10 ∧ ∀ j (hj : j < i), f ≤ j → (s[j]'(by omega)).toNat ≠ 10
theorem bs_get {s : ByteArray} {j : Nat} (h : j < s.size) : (bs s)[j]? = some (s[j]'h) := by
  rw [List.getElem?_eq_getElem (by rw [bs_len]; exact h), bs_at s j h]
theorem line_of {s : ByteArray} {pre l rest : List UInt8} {f i : Nat} (hs : bs s = pre ++ (l ++ 10 :: rest)) (hf : pre.length = f) (hl : ∀ b ∈ l, b ≠ 10) (h : LineAt s f i) : i = f + l.length ∧ bs (s.extract f i) = l := by
  obtain ⟨hi, h1, h2, h3⟩ := h
  have key : i = f + l.length := by
    rcases Nat.lt_trichotomy i (f + l.length) with hlt | he | hgt
    · exfalso
      have e := bs_get hi
      rw [hs, List.getElem?_append_right (by omega), List.getElem?_append_left (by omega)] at e
      have hm := List.mem_of_getElem? e
      apply hl _ hm
      exact UInt8.toNat_inj.1 h2
    · exact he
    · exfalso
      have hj : f + l.length < s.size := by omega
      have e := bs_get hj
      rw [hs, List.getElem?_append_right (by omega), List.getElem?_append_right (by omega), show f + l.length - pre.length - l.length = 0 by omega] at e
      simp only [List.getElem?_cons_zero, Option.some.injEq] at e
      exact h3 (f + l.length) hgt (by omega) (by rw [← e]; rfl)
  refine ⟨key, ?_⟩
  subst hf
  rw [bs_extract, hs, key, List.take_length_add_append, List.drop_left, List.take_left]
theorem line_some {s : ByteArray} {pre l rest : List UInt8} {f : Nat} (hs : bs s = pre ++ (l ++ 10 :: rest)) (hf : pre.length = f) (h : ∀ j (hj : j < s.size), f ≤ j → (s[j]'hj).toNat ≠ 10) : False := by
  have hz := congrArg List.length hs
  rw [bs_len] at hz
  simp at hz
  have hj : f + l.length < s.size := by omega
  have e := bs_get hj
  rw [hs, List.getElem?_append_right (by omega), List.getElem?_append_right (by omega), show f + l.length - pre.length - l.length = 0 by omega] at e
  simp only [List.getElem?_cons_zero, Option.some.injEq] at e
  exact h (f + l.length) hj (by omega) (by rw [← e]; rfl)
theorem numTextI_of {t : Int} (h : 0 ≤ t) : numTextI t = numText t.toNat := by unfold numTextI; rw [if_neg (by omega)]

end Go.Proofs.YtlmenolcgaakeaaDoor

namespace Go.Proofs.YtlmenolcgaakeaaDoor
open Go.RowKit
open Go.Lib hiding intOf

theorem num_ok (n : Nat) (h : n ≤ 1000000) : NumOk (numText n) := by
  have hd := numL_dig n h
  have hv := numL_val n h
  have hl : (numL n).length ≤ 7 := by
    unfold numL at *
    rw [if_neg (by omega)] at *
    by_cases h0 : n = 0
    · rw [if_pos h0]; simp
    · rw [if_neg h0] at *
      have hh := (dg_facts 8 n (by omega)).1
      have h3 := val_ge (dgF 8 n) hd.2 hh hd.1
      rw [hv] at h3
      rcases Nat.lt_or_ge 7 (dgF 8 n).length with h4 | h4
      · have := Nat.pow_le_pow_right (show 0 < 10 by omega) (show 7 ≤ (dgF 8 n).length - 1 by omega)
        omega
      · exact h4
  have hs : (numText n).size = (numL n).length := by simp [numText, ByteArray.size]
  have h1 : 1 ≤ (numText n).size := by
    rw [hs]
    exact List.length_pos_iff.2 hd.1
  refine (num_iff (numText n) h1 (by omega) hd.2).1 ?_
  show numText (valL (numL n)) = numText n
  rw [hv]
/-- An answer's text is read as the answer. -/
theorem IsResp.parts {s : ByteArray} {st : Int} {fs : List (ByteArray × ByteArray)} {b : ByteArray} (h : IsResp s st fs b) {xs : List ByteArray} {k : Nat} {ws : List ByteArray} {l : List (ByteArray × ByteArray)} (hp : Parts s xs k ws l) :
    ∃ x y, ws = [x, numText st.toNat, y] ∧ l = fs ∧ s.extract k s.size = b := by
  have e := hp.head.symm.trans (resp_head h)
  simp only [Prod.mk.injEq, Option.some.injEq] at e
  obtain ⟨e1, e2⟩ := e
  obtain ⟨x0, xr, rfl⟩ : ∃ x0 xr, xs = x0 :: xr := by
    cases xs with
    | nil => exact absurd rfl hp.ne
    | cons a r => exact ⟨a, r, rfl⟩
  simp only [List.map_cons, List.cons.injEq] at e1
  have hw := hp.words
  simp only [List.headD_cons] at hw
  rw [e1.1, resp_words h.1.1] at hw
  have hf := hp.fields
  simp only [List.tail_cons] at hf
  rw [e1.2, resp_fields h.1.2.1] at hf
  refine ⟨⟨httpL.toArray⟩, ⟨#[46]⟩, map_bs_inj (by rw [← hw]; rfl), (pairs_inj hf).symm, bs_inj ?_⟩
  rw [bs_extract, List.take_of_length_le (i := s.size) (l := bs s) (by rw [bs_len]; omega)]
  exact e2
end Go.Proofs.YtlmenolcgaakeaaDoor

namespace Go.Proofs.YtlmenolcgaakeaaDoor
open Go.RowKit
open Go.Lib hiding intOf

def banW : ByteArray := ⟨#[98, 97, 110, 32]⟩
/-- The word of a kind. -/
def bkW (k : Int) : ByteArray := if k = 1 then ⟨#[112, 97, 116, 104]⟩ else if k = 2 then ⟨#[98, 101, 108, 111, 119]⟩ else if k = 3 then ⟨#[102, 105, 101, 108, 100]⟩ else ⟨#[]⟩
/-- A ban is right. -/
def BanP (k : Int) (a b : ByteArray) (t : Int) : Prop := (0 ≤ t ∧ t ≤ 1000000) ∧ (((k = 1 ∨ k = 2) ∧ PathOk a ∧ b = ⟨#[]⟩) ∨ (k = 3 ∧ TokOk a ∧ ValOk b))
def banH (k : Int) (a : ByteArray) (t : Int) : ByteArray := banW ++ bkW k ++ ⟨#[32]⟩ ++ numText t.toNat ++ ⟨#[32]⟩ ++ a
def banT (k : Int) (a b : ByteArray) (t : Int) : ByteArray := if k = 3 then banH k a t ++ ⟨#[10]⟩ ++ b else banH k a t
/-- The text is that of this right ban. -/
def IsBan (s : ByteArray) (k : Int) (a b : ByteArray) (t : Int) : Prop := BanP k a b t ∧ banT k a b t = s
theorem BanP.kinds {k : Int} {a b : ByteArray} {t : Int} (h : BanP k a b t) : k = 1 ∨ k = 2 ∨ k = 3 := by
  rcases h.2 with ⟨h1 | h1, _⟩ | ⟨h1, _⟩
  · exact .inl h1
  · exact .inr (.inl h1)
  · exact .inr (.inr h1)
theorem tok_no {a : ByteArray} (h : TokOk a) : ∀ b ∈ bs a, b ≠ 32 ∧ b ≠ 10 := fun x hx => by
  have := bs_all h.2.2 x hx
  constructor
  · intro e; subst e; revert this; unfold TokB; simp
  · intro e; subst e; revert this; unfold TokB; simp
theorem BanP.a_no {k : Int} {a b : ByteArray} {t : Int} (h : BanP k a b t) : ∀ x ∈ bs a, x ≠ 32 ∧ x ≠ 10 := by
  rcases h.2 with ⟨_, h1, _⟩ | ⟨_, h1, _⟩
  · exact path_no h1
  · exact tok_no h1
theorem BanP.a_size {k : Int} {a b : ByteArray} {t : Int} (h : BanP k a b t) : a.size ≤ 60 ∧ b.size ≤ 60 := by
  rcases h.2 with ⟨_, h1, h2⟩ | ⟨_, h1, h2⟩
  · exact ⟨h1.2.2.1, by rw [h2]; decide⟩
  · exact ⟨Nat.le_trans h1.2.1 (by decide), h2.2.1⟩
def banL : List UInt8 := [98, 97, 110]
/-- The first line's bytes. -/
def banLine (k : Int) (a : ByteArray) (t : Int) : List UInt8 := banL ++ 32 :: (bs (bkW k) ++ 32 :: (numL t.toNat ++ 32 :: bs a))
theorem bk_no {k : Int} (h : k = 1 ∨ k = 2 ∨ k = 3) : ∀ x ∈ bs (bkW k), x ≠ 32 ∧ x ≠ 10 := by
  rcases h with rfl | rfl | rfl <;> decide
theorem bs_banH (k : Int) (a : ByteArray) (t : Int) : bs (banH k a t) = banLine k a t := by
  unfold banH banLine
  simp only [bs_append, bs_num, List.append_assoc]
  rfl
theorem bs_banT (k : Int) (a b : ByteArray) (t : Int) : bs (banT k a b t) = if k = 3 then banLine k a t ++ 10 :: bs b else banLine k a t := by
  unfold banT
  split
  · rw [bs_append, bs_append, bs_banH]
    simp [bs]
  · exact bs_banH k a t
theorem ban_line {k : Int} {a b : ByteArray} {t : Int} (h : BanP k a b t) : (∀ x ∈ banLine k a t, x ≠ 10) ∧ wordsL [] [] (banLine k a t) = [banL, bs (bkW k), numL t.toNat, bs a] := by
  have n1 := num_no t.toNat (by have := h.1; omega)
  have n2 := bk_no h.kinds
  refine ⟨fun x hx => ?_, ?_⟩
  · unfold banLine at hx
    simp only [List.mem_append, List.mem_cons] at hx
    rcases hx with hx | hx | hx | hx | hx | hx | hx
    · simp [banL] at hx; rcases hx with rfl | rfl | rfl <;> decide
    · subst hx; decide
    · exact (n2 x hx).2
    · subst hx; decide
    · exact (n1 x hx).2
    · subst hx; decide
    · exact (h.a_no x hx).2
  · unfold banLine
    rw [words_word _ _ (by unfold banL; decide), words_word _ _ (fun x hx => (n2 x hx).1), words_word _ _ (fun x hx => (n1 x hx).1), words_last _ (fun x hx => (h.a_no x hx).1)]
    rfl
/-- Which kind a word names. -/
def bkOf (x : ByteArray) : Int := if bkW 3 = x then 3 else if bkW 2 = x then 2 else if bkW 1 = x then 1 else 0
theorem bkOf_of {k : Int} (h : k = 1 ∨ k = 2 ∨ k = 3) : bkOf (bkW k) = k := by
  rcases h with rfl | rfl | rfl <;> decide
/-- What stands ahead of the first byte 10, and behind it. -/
theorem ban_cut {s : ByteArray} {k : Int} {a b : ByteArray} {t : Int} (h : IsBan s k a b t) :
    (k = 3 ∧ bs s = [] ++ (banLine k a t ++ 10 :: bs b)) ∨ (k ≠ 3 ∧ bs s = banLine k a t ∧ b = ⟨#[]⟩) := by
  rw [← h.2]
  by_cases hk : k = 3
  · exact .inl ⟨hk, by rw [bs_banT, if_pos hk]; rfl⟩
  · refine .inr ⟨hk, by rw [bs_banT, if_neg hk], ?_⟩
    rcases h.1.2 with ⟨_, _, h1⟩ | ⟨h1, _⟩
    · exact h1
    · exact absurd h1 hk
theorem bk_inj {k k' : Int} (h : k = 1 ∨ k = 2 ∨ k = 3) (h' : k' = 1 ∨ k' = 2 ∨ k' = 3) (e : bs (bkW k) = bs (bkW k')) : k = k' := by
  rw [← bkOf_of h, ← bkOf_of h', bs_inj e]
theorem IsBan.uniq {s : ByteArray} {k k' : Int} {a a' b b' : ByteArray} {t t' : Int} (h : IsBan s k a b t) (h' : IsBan s k' a' b' t') : k = k' ∧ a = a' ∧ b = b' ∧ t = t' := by
  have q := ban_line h.1
  have q' := ban_line h'.1
  have key : banLine k a t = banLine k' a' t' ∧ b = b' := by
    rcases ban_cut h with ⟨_, e⟩ | ⟨_, e, hb⟩ <;> rcases ban_cut h' with ⟨_, e'⟩ | ⟨_, e', hb'⟩
    · have c1 := cut_of (sep := nlE) (show bs s = banLine k a t ++ ((10 :: []) ++ bs b) by rw [e]; simp) rfl q.1
      have c2 := cut_of (sep := nlE) (show bs s = banLine k' a' t' ++ ((10 :: []) ++ bs b') by rw [e']; simp) rfl q'.1
      exact ⟨c1.1.symm.trans c2.1, bs_inj (c1.2.symm.trans c2.2)⟩
    · exfalso
      rw [e] at e'
      exact q'.1 10 (by rw [← e']; simp) rfl
    · exfalso
      rw [e'] at e
      exact q.1 10 (by rw [← e]; simp) rfl
    · exact ⟨e.symm.trans e', by rw [hb, hb']⟩
  have w1 := q.2
  rw [key.1, q'.2] at w1
  simp only [List.cons.injEq, and_true] at w1
  have ht := h.1.1
  have ht' := h'.1.1
  have e3 := congrArg valL w1.2.2.1
  rw [numL_val _ (by omega), numL_val _ (by omega)] at e3
  exact ⟨(bk_inj h'.1.kinds h.1.kinds w1.2.1).symm, (bs_inj w1.2.2.2).symm, key.2, by omega⟩
theorem ban_small {k : Int} {a b : ByteArray} {t : Int} (h : BanP k a b t) : (banT k a b t).size ≤ 200 := by
  have h1 := h.a_size
  have h2 := numText_size t.toNat
  have e1 : banW.size = 4 := rfl
  have e2 : (⟨#[32]⟩ : ByteArray).size = 1 := rfl
  have e3 : (⟨#[10]⟩ : ByteArray).size = 1 := rfl
  have e4 : (bkW k).size ≤ 5 := by rcases h.kinds with rfl | rfl | rfl <;> decide
  unfold banT banH
  split <;> simp only [ByteArray.size_append] <;> omega
theorem ban_pos (k : Int) (a b : ByteArray) (t : Int) : 4 ≤ (banT k a b t).size := by
  have e1 : banW.size = 4 := rfl
  unfold banT banH
  split <;> simp only [ByteArray.size_append] <;> omega

end Go.Proofs.YtlmenolcgaakeaaDoor

namespace Go.Proofs.YtlmenolcgaakeaaDoor
open Go.RowKit
open Go.Lib hiding intOf

set_option maxHeartbeats 8000000 in
set_option maxRecDepth 100000 in
theorem specBanOk_any (k : Int) (a b : ByteArray) (t : Int) (w : World) (ha : a.size ≤ maxLen) (hb : b.size ≤ maxLen) :
    Calls Tryd.prog 21 #[.agg #[.int .i64 k, .string a, .string b, .int .i64 t]] w fun e w' => BoolIs (BanP k a b t) w e w' := by
  have HAM : Hid (a.size ≤ maxLen) := ha
  have HBM : Hid (b.size ≤ maxLen) := hb
  clear ha hb
  have hb0 : Below w.heap.size w w := Below.refl _ _
  go_enter Tryd.func21, Tryd.ntmps21
  go_upto_region 1 with fail
  obtain ⟨qv1, hqv1⟩ : ∃ q, q = (w).heap.size := ⟨_, rfl⟩
  obtain ⟨w1, hW1⟩ : ∃ W, W = (w).alloc (.cells #[.int .i64 k, .string a, .string b, .int .i64 t] 25) := ⟨_, rfl⟩
  have hz1 : (w).heap.size = qv1 := hqv1.symm
  first | rw [← hW1, ← hqv1] | rw [← hW1]
  have hs1 : w1.heap.size = qv1 + 1 := by rw [hW1, ← hz1]; simp
  have bw : Below (w).heap.size (w) w1 := by rw [hW1]; exact (Below.refl _ _).alloc (Nat.le_refl _) _
  have hb1 : Below w.heap.size w (w1) := hb0.trans (bw.mono hb0.size)
  have HM1 : Hid ((w).heap.size ≤ (w1).heap.size) := bw.size
  have HBv1_1 : Hid ((w1).heap[qv1]? = some (.cells #[.int .i64 k, .string a, .string b, .int .i64 t] 25)) := by show _ = _; rw [hW1, ← hz1]; exact heap_alloc_new _ _
  have HGv1 : Hid (w.heap.size ≤ qv1) := by show _ ≤ _; rw [← hz1]; exact hb0.size
  clear hb0 bw hW1 hz1
  clear hs1 hqv1
  have cv1_3 : (w1).cell? ⟨qv1, 3, none⟩ = some (.int .i64 t) := (cell_of HBv1_1.out 3).trans rfl
  go_wp2_with fail
  refine (l1In_any t 0 1000000 _).mono ?_
  rintro e w2 ⟨rfl, hwe⟩
  have bw : Below (w1).heap.size (w1) w2 := by rw [hwe]; exact Below.refl _ _
  clear hwe
  obtain ⟨ut, hut⟩ : ∃ u, u = decide ((0 : Int) ≤ t ∧ t ≤ 1000000) := ⟨_, rfl⟩
  rw [← hut]
  have hb2 : Below w.heap.size w (w2) := hb1.trans (bw.mono hb1.size)
  have HM2 : Hid ((w1).heap.size ≤ (w2).heap.size) := bw.size
  have HBv1_2 : Hid ((w2).heap[qv1]? = some (.cells #[.int .i64 k, .string a, .string b, .int .i64 t] 25)) := blk_below HBv1_1.out bw
  clear hb1 HBv1_1 bw
  clear cv1_3
  cases ut with
  | false =>
    have Hut : Hid (¬ (0 ≤ t ∧ t ≤ 1000000)) := (show ¬ (0 ≤ t ∧ t ≤ 1000000) from of_decide_eq_false hut.symm)
    clear hut
    go_wp2_with fail
    go_ret
    refine ⟨false, rfl, ?_, hb2⟩
    have zHut := Hut.out
    unfold BanP
    first
      | (simp_all; done)
      | (constructor
         · intro h
           first
             | (cases h; done)
             | exact ⟨zHut, .inl ⟨.inl zHK1, zHup, zHBE⟩⟩
             | exact ⟨zHut, .inl ⟨.inr zHK2, zHup, zHBE⟩⟩
             | exact ⟨zHut, .inr ⟨zHK3, zHuk, zv.1 h⟩⟩
             | exact ⟨zHut, .inr ⟨zHK3, zHuk, zHuv⟩⟩
         · rintro ⟨h1, (⟨h2 | h2, h3, h4⟩ | ⟨h2, h3, h4⟩)⟩
           all_goals first
             | rfl
             | exact zv.2 h4
             | (exfalso; first | exact zHut h1 | exact zHup h3 | exact zHuk h3 | exact zHBE h4 | exact zHuv h4 | omega))
  | true =>
    have Hut : Hid (0 ≤ t ∧ t ≤ 1000000) := (show 0 ≤ t ∧ t ≤ 1000000 from of_decide_eq_true hut.symm)
    clear hut
    have cv1_0 : (w2).cell? ⟨qv1, 0, none⟩ = some (.int .i64 k) := (cell_of HBv1_2.out 0).trans rfl
    by_cases hc1 : k = 1
    · have hc1b : ((k : Int) == (1 : Int)) = true := by simpa using hc1
      have hc1n : ((k : Int) != (1 : Int)) = false := by simpa using hc1
      have HK1 : Hid (k = 1) := hc1
      have hc1H : Hid (k = 1) := hc1
      clear hc1
      have cv1_1 : (w2).cell? ⟨qv1, 1, none⟩ = some (.string a) := (cell_of HBv1_2.out 1).trans rfl
      go_wp2_with fail
      refine (l3Path_any a _ HAM.out).mono ?_
      rintro e w3 ⟨up, rfl, htup, bw⟩
      have hb3 : Below w.heap.size w (w3) := hb2.trans (bw.mono hb2.size)
      have HM3 : Hid ((w2).heap.size ≤ (w3).heap.size) := bw.size
      have HBv1_3 : Hid ((w3).heap[qv1]? = some (.cells #[.int .i64 k, .string a, .string b, .int .i64 t] 25)) := blk_below HBv1_2.out bw
      clear hb2 HBv1_2 bw
      clear cv1_0 cv1_1
      cases up with
      | false =>
        have Hup : Hid (¬ PathOk a) := fun h => nomatch htup.2 h
        clear htup
        go_wp2_with fail
        go_ret
        refine ⟨false, rfl, ?_, hb3⟩
        have zHut := Hut.out
        have zHK1 := HK1.out
        have zHup := Hup.out
        unfold BanP
        first
          | (simp_all; done)
          | (constructor
             · intro h
               first
                 | (cases h; done)
                 | exact ⟨zHut, .inl ⟨.inl zHK1, zHup, zHBE⟩⟩
                 | exact ⟨zHut, .inl ⟨.inr zHK2, zHup, zHBE⟩⟩
                 | exact ⟨zHut, .inr ⟨zHK3, zHuk, zv.1 h⟩⟩
                 | exact ⟨zHut, .inr ⟨zHK3, zHuk, zHuv⟩⟩
             · rintro ⟨h1, (⟨h2 | h2, h3, h4⟩ | ⟨h2, h3, h4⟩)⟩
               all_goals first
                 | rfl
                 | exact zv.2 h4
                 | (exfalso; first | exact zHut h1 | exact zHup h3 | exact zHuk h3 | exact zHBE h4 | exact zHuv h4 | omega))
      | true =>
        have Hup : Hid (PathOk a) := htup.1 rfl
        clear htup
        have cv1_2 : (w3).cell? ⟨qv1, 2, none⟩ = some (.string b) := (cell_of HBv1_3.out 2).trans rfl
        by_cases hc2 : b = ⟨#[]⟩
        · have hc2b : (b).toList.isEmpty = true := isEmpty_yes (by rw [hc2]; rfl)
          have HBE : Hid (b = ⟨#[]⟩) := hc2
          go_wp2_with fail
          go_ret
          refine ⟨true, rfl, ?_, hb3⟩
          have zHut := Hut.out
          have zHK1 := HK1.out
          have zHup := Hup.out
          have zHBE := HBE.out
          unfold BanP
          first
            | (simp_all; done)
            | (constructor
               · intro h
                 first
                   | (cases h; done)
                   | exact ⟨zHut, .inl ⟨.inl zHK1, zHup, zHBE⟩⟩
                   | exact ⟨zHut, .inl ⟨.inr zHK2, zHup, zHBE⟩⟩
                   | exact ⟨zHut, .inr ⟨zHK3, zHuk, zv.1 h⟩⟩
                   | exact ⟨zHut, .inr ⟨zHK3, zHuk, zHuv⟩⟩
               · rintro ⟨h1, (⟨h2 | h2, h3, h4⟩ | ⟨h2, h3, h4⟩)⟩
                 all_goals first
                   | rfl
                   | exact zv.2 h4
                   | (exfalso; first | exact zHut h1 | exact zHup h3 | exact zHuk h3 | exact zHBE h4 | exact zHuv h4 | omega))
        · have hc2b : (b).toList.isEmpty = false := isEmpty_no (Nat.pos_of_ne_zero (fun e => hc2 (empty_text e)))
          have HBE : Hid (¬ b = ⟨#[]⟩) := hc2
          go_wp2_with fail
          go_ret
          refine ⟨false, rfl, ?_, hb3⟩
          have zHut := Hut.out
          have zHK1 := HK1.out
          have zHup := Hup.out
          have zHBE := HBE.out
          unfold BanP
          first
            | (simp_all; done)
            | (constructor
               · intro h
                 first
                   | (cases h; done)
                   | exact ⟨zHut, .inl ⟨.inl zHK1, zHup, zHBE⟩⟩
                   | exact ⟨zHut, .inl ⟨.inr zHK2, zHup, zHBE⟩⟩
                   | exact ⟨zHut, .inr ⟨zHK3, zHuk, zv.1 h⟩⟩
                   | exact ⟨zHut, .inr ⟨zHK3, zHuk, zHuv⟩⟩
               · rintro ⟨h1, (⟨h2 | h2, h3, h4⟩ | ⟨h2, h3, h4⟩)⟩
                 all_goals first
                   | rfl
                   | exact zv.2 h4
                   | (exfalso; first | exact zHut h1 | exact zHup h3 | exact zHuk h3 | exact zHBE h4 | exact zHuv h4 | omega))
    · have hc1b : ((k : Int) == (1 : Int)) = false := by simpa using hc1
      have hc1n : ((k : Int) != (1 : Int)) = true := by simpa using hc1
      have HK1 : Hid (¬ k = 1) := hc1
      have hc1H : Hid (¬ (k = 1)) := hc1
      clear hc1
      by_cases hc2 : k = 2
      · have hc2b : ((k : Int) == (2 : Int)) = true := by simpa using hc2
        have hc2n : ((k : Int) != (2 : Int)) = false := by simpa using hc2
        have HK2 : Hid (k = 2) := hc2
        have hc2H : Hid (k = 2) := hc2
        clear hc2
        have cv1_1 : (w2).cell? ⟨qv1, 1, none⟩ = some (.string a) := (cell_of HBv1_2.out 1).trans rfl
        go_wp2_with fail
        refine (l3Path_any a _ HAM.out).mono ?_
        rintro e w3 ⟨up, rfl, htup, bw⟩
        have hb3 : Below w.heap.size w (w3) := hb2.trans (bw.mono hb2.size)
        have HM3 : Hid ((w2).heap.size ≤ (w3).heap.size) := bw.size
        have HBv1_3 : Hid ((w3).heap[qv1]? = some (.cells #[.int .i64 k, .string a, .string b, .int .i64 t] 25)) := blk_below HBv1_2.out bw
        clear hb2 HBv1_2 bw
        clear cv1_0 cv1_1
        cases up with
        | false =>
          have Hup : Hid (¬ PathOk a) := fun h => nomatch htup.2 h
          clear htup
          go_wp2_with fail
          go_ret
          refine ⟨false, rfl, ?_, hb3⟩
          have zHut := Hut.out
          have zHK1 := HK1.out
          have zHK2 := HK2.out
          have zHup := Hup.out
          unfold BanP
          first
            | (simp_all; done)
            | (constructor
               · intro h
                 first
                   | (cases h; done)
                   | exact ⟨zHut, .inl ⟨.inl zHK1, zHup, zHBE⟩⟩
                   | exact ⟨zHut, .inl ⟨.inr zHK2, zHup, zHBE⟩⟩
                   | exact ⟨zHut, .inr ⟨zHK3, zHuk, zv.1 h⟩⟩
                   | exact ⟨zHut, .inr ⟨zHK3, zHuk, zHuv⟩⟩
               · rintro ⟨h1, (⟨h2 | h2, h3, h4⟩ | ⟨h2, h3, h4⟩)⟩
                 all_goals first
                   | rfl
                   | exact zv.2 h4
                   | (exfalso; first | exact zHut h1 | exact zHup h3 | exact zHuk h3 | exact zHBE h4 | exact zHuv h4 | omega))
        | true =>
          have Hup : Hid (PathOk a) := htup.1 rfl
          clear htup
          have cv1_2 : (w3).cell? ⟨qv1, 2, none⟩ = some (.string b) := (cell_of HBv1_3.out 2).trans rfl
          by_cases hc3 : b = ⟨#[]⟩
          · have hc3b : (b).toList.isEmpty = true := isEmpty_yes (by rw [hc3]; rfl)
            have HBE : Hid (b = ⟨#[]⟩) := hc3
            go_wp2_with fail
            go_ret
            refine ⟨true, rfl, ?_, hb3⟩
            have zHut := Hut.out
            have zHK1 := HK1.out
            have zHK2 := HK2.out
            have zHup := Hup.out
            have zHBE := HBE.out
            unfold BanP
            first
              | (simp_all; done)
              | (constructor
                 · intro h
                   first
                     | (cases h; done)
                     | exact ⟨zHut, .inl ⟨.inl zHK1, zHup, zHBE⟩⟩
                     | exact ⟨zHut, .inl ⟨.inr zHK2, zHup, zHBE⟩⟩
                     | exact ⟨zHut, .inr ⟨zHK3, zHuk, zv.1 h⟩⟩
                     | exact ⟨zHut, .inr ⟨zHK3, zHuk, zHuv⟩⟩
                 · rintro ⟨h1, (⟨h2 | h2, h3, h4⟩ | ⟨h2, h3, h4⟩)⟩
                   all_goals first
                     | rfl
                     | exact zv.2 h4
                     | (exfalso; first | exact zHut h1 | exact zHup h3 | exact zHuk h3 | exact zHBE h4 | exact zHuv h4 | omega))
          · have hc3b : (b).toList.isEmpty = false := isEmpty_no (Nat.pos_of_ne_zero (fun e => hc3 (empty_text e)))
            have HBE : Hid (¬ b = ⟨#[]⟩) := hc3
            go_wp2_with fail
            go_ret
            refine ⟨false, rfl, ?_, hb3⟩
            have zHut := Hut.out
            have zHK1 := HK1.out
            have zHK2 := HK2.out
            have zHup := Hup.out
            have zHBE := HBE.out
            unfold BanP
            first
              | (simp_all; done)
              | (constructor
                 · intro h
                   first
                     | (cases h; done)
                     | exact ⟨zHut, .inl ⟨.inl zHK1, zHup, zHBE⟩⟩
                     | exact ⟨zHut, .inl ⟨.inr zHK2, zHup, zHBE⟩⟩
                     | exact ⟨zHut, .inr ⟨zHK3, zHuk, zv.1 h⟩⟩
                     | exact ⟨zHut, .inr ⟨zHK3, zHuk, zHuv⟩⟩
                 · rintro ⟨h1, (⟨h2 | h2, h3, h4⟩ | ⟨h2, h3, h4⟩)⟩
                   all_goals first
                     | rfl
                     | exact zv.2 h4
                     | (exfalso; first | exact zHut h1 | exact zHup h3 | exact zHuk h3 | exact zHBE h4 | exact zHuv h4 | omega))
      · have hc2b : ((k : Int) == (2 : Int)) = false := by simpa using hc2
        have hc2n : ((k : Int) != (2 : Int)) = true := by simpa using hc2
        have HK2 : Hid (¬ k = 2) := hc2
        have hc2H : Hid (¬ (k = 2)) := hc2
        clear hc2
        by_cases hc3 : k = 3
        · have hc3b : ((k : Int) == (3 : Int)) = true := by simpa using hc3
          have hc3n : ((k : Int) != (3 : Int)) = false := by simpa using hc3
          have HK3 : Hid (k = 3) := hc3
          have hc3H : Hid (k = 3) := hc3
          clear hc3
          have cv1_1 : (w2).cell? ⟨qv1, 1, none⟩ = some (.string a) := (cell_of HBv1_2.out 1).trans rfl
          go_wp2_with fail
          refine (specTokenOk_any a _ HAM.out).mono ?_
          rintro e w3 ⟨uk, rfl, htuk, bw⟩
          have hb3 : Below w.heap.size w (w3) := hb2.trans (bw.mono hb2.size)
          have HM3 : Hid ((w2).heap.size ≤ (w3).heap.size) := bw.size
          have HBv1_3 : Hid ((w3).heap[qv1]? = some (.cells #[.int .i64 k, .string a, .string b, .int .i64 t] 25)) := blk_below HBv1_2.out bw
          clear hb2 HBv1_2 bw
          clear cv1_0 cv1_1
          cases uk with
          | false =>
            have Huk : Hid (¬ TokOk a) := fun h => nomatch htuk.2 h
            clear htuk
            go_wp2_with fail
            go_ret
            refine ⟨false, rfl, ?_, hb3⟩
            have zHut := Hut.out
            have zHK1 := HK1.out
            have zHK2 := HK2.out
            have zHK3 := HK3.out
            have zHuk := Huk.out
            unfold BanP
            first
              | (simp_all; done)
              | (constructor
                 · intro h
                   first
                     | (cases h; done)
                     | exact ⟨zHut, .inl ⟨.inl zHK1, zHup, zHBE⟩⟩
                     | exact ⟨zHut, .inl ⟨.inr zHK2, zHup, zHBE⟩⟩
                     | exact ⟨zHut, .inr ⟨zHK3, zHuk, zv.1 h⟩⟩
                     | exact ⟨zHut, .inr ⟨zHK3, zHuk, zHuv⟩⟩
                 · rintro ⟨h1, (⟨h2 | h2, h3, h4⟩ | ⟨h2, h3, h4⟩)⟩
                   all_goals first
                     | rfl
                     | exact zv.2 h4
                     | (exfalso; first | exact zHut h1 | exact zHup h3 | exact zHuk h3 | exact zHBE h4 | exact zHuv h4 | omega))
          | true =>
            have Huk : Hid (TokOk a) := htuk.1 rfl
            clear htuk
            have cv1_2 : (w3).cell? ⟨qv1, 2, none⟩ = some (.string b) := (cell_of HBv1_3.out 2).trans rfl
            go_wp2_with fail
            refine (specValueOk_any b _ HBM.out).mono ?_
            rintro e w4 ⟨uv, rfl, htuv, bw⟩
            have hb4 : Below w.heap.size w (w4) := hb3.trans (bw.mono hb3.size)
            have HM4 : Hid ((w3).heap.size ≤ (w4).heap.size) := bw.size
            have HBv1_4 : Hid ((w4).heap[qv1]? = some (.cells #[.int .i64 k, .string a, .string b, .int .i64 t] 25)) := blk_below HBv1_3.out bw
            clear hb3 HBv1_3 bw
            clear cv1_2
            go_wp2_with fail
            go_ret
            refine ⟨uv, rfl, ?_, hb4⟩
            have zHut := Hut.out
            have zHK1 := HK1.out
            have zHK2 := HK2.out
            have zHK3 := HK3.out
            have zHuk := Huk.out
            have zv := htuv
            unfold BanP
            first
              | (simp_all; done)
              | (constructor
                 · intro h
                   first
                     | (cases h; done)
                     | exact ⟨zHut, .inl ⟨.inl zHK1, zHup, zHBE⟩⟩
                     | exact ⟨zHut, .inl ⟨.inr zHK2, zHup, zHBE⟩⟩
                     | exact ⟨zHut, .inr ⟨zHK3, zHuk, zv.1 h⟩⟩
                     | exact ⟨zHut, .inr ⟨zHK3, zHuk, zHuv⟩⟩
                 · rintro ⟨h1, (⟨h2 | h2, h3, h4⟩ | ⟨h2, h3, h4⟩)⟩
                   all_goals first
                     | rfl
                     | exact zv.2 h4
                     | (exfalso; first | exact zHut h1 | exact zHup h3 | exact zHuk h3 | exact zHBE h4 | exact zHuv h4 | omega))
        · have hc3b : ((k : Int) == (3 : Int)) = false := by simpa using hc3
          have hc3n : ((k : Int) != (3 : Int)) = true := by simpa using hc3
          have HK3 : Hid (¬ k = 3) := hc3
          have hc3H : Hid (¬ (k = 3)) := hc3
          clear hc3
          go_wp2_with fail
          go_ret
          refine ⟨false, rfl, ?_, hb2⟩
          have zHut := Hut.out
          have zHK1 := HK1.out
          have zHK2 := HK2.out
          have zHK3 := HK3.out
          unfold BanP
          first
            | (simp_all; done)
            | (constructor
               · intro h
                 first
                   | (cases h; done)
                   | exact ⟨zHut, .inl ⟨.inl zHK1, zHup, zHBE⟩⟩
                   | exact ⟨zHut, .inl ⟨.inr zHK2, zHup, zHBE⟩⟩
                   | exact ⟨zHut, .inr ⟨zHK3, zHuk, zv.1 h⟩⟩
                   | exact ⟨zHut, .inr ⟨zHK3, zHuk, zHuv⟩⟩
               · rintro ⟨h1, (⟨h2 | h2, h3, h4⟩ | ⟨h2, h3, h4⟩)⟩
                 all_goals first
                   | rfl
                   | exact zv.2 h4
                   | (exfalso; first | exact zHut h1 | exact zHup h3 | exact zHuk h3 | exact zHBE h4 | exact zHuv h4 | omega))

end Go.Proofs.YtlmenolcgaakeaaDoor

namespace Go.Proofs.YtlmenolcgaakeaaDoor
open Go.RowKit
open Go.Lib hiding intOf

set_option maxHeartbeats 8000000 in
set_option maxRecDepth 100000 in
theorem specBanText_any (k : Int) (a b : ByteArray) (t : Int) (w : World) (ha : a.size ≤ maxLen) (hb : b.size ≤ maxLen) :
    Calls Tryd.prog 9 #[.agg #[.int .i64 k, .string a, .string b, .int .i64 t]] w fun e w' => TextOf (BanP k a b t) (banT k a b t) w e w' := by
  have HAM : Hid (a.size ≤ maxLen) := ha
  have HBM : Hid (b.size ≤ maxLen) := hb
  obtain ⟨tt, htt⟩ : ∃ x, x = numTextI t := ⟨_, rfl⟩
  have HTT : Hid (numTextI t = tt) := htt.symm
  clear ha hb htt
  have hb0 : Below w.heap.size w w := Below.refl _ _
  go_enter Tryd.func9, Tryd.ntmps9
  go_upto_region 1 with fail
  obtain ⟨qv1, hqv1⟩ : ∃ q, q = (w).heap.size := ⟨_, rfl⟩
  obtain ⟨w1, hW1⟩ : ∃ W, W = (w).alloc (.cells #[.int .i64 k, .string a, .string b, .int .i64 t] 25) := ⟨_, rfl⟩
  have hz1 : (w).heap.size = qv1 := hqv1.symm
  first | rw [← hW1, ← hqv1] | rw [← hW1]
  have hs1 : w1.heap.size = qv1 + 1 := by rw [hW1, ← hz1]; simp
  have bw : Below (w).heap.size (w) w1 := by rw [hW1]; exact (Below.refl _ _).alloc (Nat.le_refl _) _
  have hb1 : Below w.heap.size w (w1) := hb0.trans (bw.mono hb0.size)
  have HM1 : Hid ((w).heap.size ≤ (w1).heap.size) := bw.size
  have HBv1_1 : Hid ((w1).heap[qv1]? = some (.cells #[.int .i64 k, .string a, .string b, .int .i64 t] 25)) := by show _ = _; rw [hW1, ← hz1]; exact heap_alloc_new _ _
  have HGv1 : Hid (w.heap.size ≤ qv1) := by show _ ≤ _; rw [← hz1]; exact hb0.size
  clear hb0 bw hW1 hz1
  clear hs1 hqv1
  have cv1_0 : (w1).cell? ⟨qv1, 0, none⟩ = some (.int .i64 k) := (cell_of HBv1_1.out 0).trans rfl
  have cv1_1 : (w1).cell? ⟨qv1, 1, none⟩ = some (.string a) := (cell_of HBv1_1.out 1).trans rfl
  have cv1_2 : (w1).cell? ⟨qv1, 2, none⟩ = some (.string b) := (cell_of HBv1_1.out 2).trans rfl
  have cv1_3 : (w1).cell? ⟨qv1, 3, none⟩ = some (.int .i64 t) := (cell_of HBv1_1.out 3).trans rfl
  go_wp2_with fail
  refine (specBanOk_any k a b t _ HAM.out HBM.out).mono ?_
  rintro e w2 ⟨ub, rfl, htub, bw⟩
  have hb2 : Below w.heap.size w (w2) := hb1.trans (bw.mono hb1.size)
  have HM2 : Hid ((w1).heap.size ≤ (w2).heap.size) := bw.size
  have HBv1_2 : Hid ((w2).heap[qv1]? = some (.cells #[.int .i64 k, .string a, .string b, .int .i64 t] 25)) := blk_below HBv1_1.out bw
  clear hb1 HBv1_1 bw
  clear cv1_0 cv1_1 cv1_2 cv1_3
  cases ub with
  | false =>
    have HF : Hid (¬ BanP k a b t) := fun h => nomatch htub.2 h
    clear htub
    go_wp2_with fail
    go_ret
    exact ⟨⟨#[]⟩, rfl, fun h => absurd h HF.out, fun _ => rfl, hb2⟩
  | true =>
    have HOK : Hid (BanP k a b t) := htub.1 rfl
    clear htub
    have HT : Hid (0 ≤ t ∧ t ≤ 1000000) := HOK.out.1
    have za : a.size ≤ 60 := HOK.out.a_size.1
    have zb : b.size ≤ 60 := HOK.out.a_size.2
    have ztt : tt.size ≤ 8 := by rw [← HTT.out, numTextI_of HT.out.1]; exact numText_size _
    rcases HOK.out.kinds with rfl | rfl | rfl
    · go_upto_region 3 with fail
      refine wp_region_held_drew (S := fun W => W.heap[qv1]? = some (.cells #[.int .i64 1, .string a, .string b, .int .i64 t] 25)) (by kernel_rfl) HBv1_2.out (fun _ => ?_)
      obtain ⟨w3, hX⟩ : ∃ X, X = w2.drew := ⟨_, rfl⟩
      have bw : Below w2.heap.size w2 w3 := by rw [hX]; exact (Below.refl _ _).drew
      rw [← hX]
      have hb3 : Below w.heap.size w (w3) := hb2.trans (bw.mono hb2.size)
      have HM3 : Hid ((w2).heap.size ≤ (w3).heap.size) := bw.size
      have HBv1_3 : Hid ((w3).heap[qv1]? = some (.cells #[.int .i64 1, .string a, .string b, .int .i64 t] 25)) := blk_below HBv1_2.out bw
      have hS3 : w3.heap[qv1]? = some (.cells #[.int .i64 1, .string a, .string b, .int .i64 t] 25) := HBv1_3.out
      clear hb2 HBv1_2 bw hX
      refine wpAnyH_takeD (i := 1) (v := .pointer (some ⟨qv1, 0, none⟩)) (some 8) rfl rfl (by kernel_rfl) (by kernel_rfl) (by kernel_rfl) (fun _ _ _ h => h) (Or.inl ⟨by rfl, by intro W _; go_simp⟩) hS3 ?_
      simp only [Act.put, List.setIfInBounds_toArray, List.set_cons_zero, List.set_cons_succ]
      refine wpAnyH_takeD (i := 2) (v := .int .i64 1) (some 9) rfl rfl (by kernel_rfl) (by kernel_rfl) (by kernel_rfl) (fun _ _ _ h => h) (Or.inl ⟨by rfl, by intro W hW; have hhv1 := hW; have y0 := (cell_of hhv1 0).trans rfl; go_simp⟩) hS3 ?_
      simp only [Act.put, List.setIfInBounds_toArray, List.set_cons_zero, List.set_cons_succ]
      refine wpAnyH_takeD (i := 7) (v := .pointer (some ⟨qv1, 3, none⟩)) (some 14) rfl rfl (by kernel_rfl) (by kernel_rfl) (by kernel_rfl) (fun _ _ _ h => h) (Or.inl ⟨by rfl, by intro W _; go_simp⟩) hS3 ?_
      simp only [Act.put, List.setIfInBounds_toArray, List.set_cons_zero, List.set_cons_succ]
      refine wpAnyH_takeD (i := 8) (v := .int .i64 t) (some 15) rfl rfl (by kernel_rfl) (by kernel_rfl) (by kernel_rfl) (fun _ _ _ h => h) (Or.inl ⟨by rfl, by intro W hW; have hhv1 := hW; have y3 := (cell_of hhv1 3).trans rfl; go_simp⟩) hS3 ?_
      simp only [Act.put, List.setIfInBounds_toArray, List.set_cons_zero, List.set_cons_succ]
      refine wpAnyH_takeD (i := 12) (v := .pointer (some ⟨qv1, 1, none⟩)) (some 19) rfl rfl (by kernel_rfl) (by kernel_rfl) (by kernel_rfl) (fun _ _ _ h => h) (Or.inl ⟨by rfl, by intro W _; go_simp⟩) hS3 ?_
      simp only [Act.put, List.setIfInBounds_toArray, List.set_cons_zero, List.set_cons_succ]
      refine wpAnyH_takeD (i := 13) (v := .string a) (some 20) rfl rfl (by kernel_rfl) (by kernel_rfl) (by kernel_rfl) (fun _ _ _ h => h) (Or.inl ⟨by rfl, by intro W hW; have hhv1 := hW; have y1 := (cell_of hhv1 1).trans rfl; go_simp⟩) hS3 ?_
      simp only [Act.put, List.setIfInBounds_toArray, List.set_cons_zero, List.set_cons_succ]
      refine wpAnyH_ready (rs := [0, 9]) (by kernel_rfl) (by simp) ?_
      refine AllReadyH.cons rfl (fun K hK => ?_) (AllReadyH.cons rfl (fun K hK => ?_) AllReadyH.nil)
      · go_simp
        have bw : Below w3.heap.size w3 (w3.alloc (.cells #[.string ⟨#[]⟩, .string ⟨#[112, 97, 116, 104]⟩, .string ⟨#[98, 101, 108, 111, 119]⟩, .string ⟨#[102, 105, 101, 108, 100]⟩] 9)) := (Below.refl _ _).alloc (Nat.le_refl _) _
        have hSA : (w3.alloc (.cells #[.string ⟨#[]⟩, .string ⟨#[112, 97, 116, 104]⟩, .string ⟨#[98, 101, 108, 111, 119]⟩, .string ⟨#[102, 105, 101, 108, 100]⟩] 9)).heap[qv1]? = some (.cells #[.int .i64 1, .string a, .string b, .int .i64 t] 25) := blk_below HBv1_3.out bw
        refine hK.out _ _ hSA (fun _ => ?_)
        clear hK K hSA bw hS3
        obtain ⟨qv2, hqv2⟩ : ∃ o, o = w3.heap.size := ⟨_, rfl⟩
        obtain ⟨w4, hXj⟩ : ∃ X, X = (w3.alloc (.cells #[.string ⟨#[]⟩, .string ⟨#[112, 97, 116, 104]⟩, .string ⟨#[98, 101, 108, 111, 119]⟩, .string ⟨#[102, 105, 101, 108, 100]⟩] 9)) := ⟨_, rfl⟩
        rw [← hqv2, ← hXj]
        have bw : Below w3.heap.size w3 w4 := by rw [hXj]; exact (Below.refl _ _).alloc (Nat.le_refl _) _
        have hb4 : Below w.heap.size w (w4) := hb3.trans (bw.mono hb3.size)
        have HM4 : Hid ((w3).heap.size ≤ (w4).heap.size) := bw.size
        have HBv1_4 : Hid ((w4).heap[qv1]? = some (.cells #[.int .i64 1, .string a, .string b, .int .i64 t] 25)) := blk_below HBv1_3.out bw
        have HNv1v2 : Hid (qv1 ≠ qv2) := fun e => by have h1 := (Array.getElem?_eq_some_iff.1 HBv1_3.out).1; omega
        have HBv2_4 : Hid ((w4).heap[qv2]? = some (.cells #[.string ⟨#[]⟩, .string ⟨#[112, 97, 116, 104]⟩, .string ⟨#[98, 101, 108, 111, 119]⟩, .string ⟨#[102, 105, 101, 108, 100]⟩] 9)) := by show _ = _; rw [hXj, hqv2]; exact heap_alloc_new _ _
        have HGv2 : Hid (w.heap.size ≤ qv2) := by show _ ≤ _; rw [hqv2]; exact hb3.size
        have hS4 : w4.heap[qv1]? = some (.cells #[.int .i64 1, .string a, .string b, .int .i64 t] 25) := HBv1_4.out
        clear hb3 HBv1_3 bw hXj hqv2
        refine wpAnyH_takeD (i := 3) (v := .pointer (some ⟨qv2, 1, none⟩)) (some 10) rfl rfl (by kernel_rfl) (by kernel_rfl) (by kernel_rfl) (fun _ _ _ h => h) (Or.inl ⟨by rfl, by intro W _; go_simp⟩) hS4 ?_
        simp only [Act.put, List.setIfInBounds_toArray, List.set_cons_zero, List.set_cons_succ]
        refine wpAnyH_ready (rs := [4, 9]) (by kernel_rfl) (by simp) ?_
        refine AllReadyH.cons rfl (fun K hK => ?_) (AllReadyH.cons rfl (fun K hK => ?_) AllReadyH.nil)
        · have ylt : (w4).cell? ⟨qv2, 1, none⟩ = some (.string ⟨#[112, 97, 116, 104]⟩) := (cell_of HBv2_4.out 1).trans rfl
          go_simp
          refine hK.out _ _ hS4 (fun _ => ?_)
          clear hK K ylt
          refine wpAnyH_takeD (i := 5) (v := .string (⟨#[98, 97, 110, 32]⟩ ++ ⟨#[112, 97, 116, 104]⟩)) (some 12) rfl rfl (by kernel_rfl) (by kernel_rfl) (by kernel_rfl) (fun _ _ _ h => h) (Or.inl ⟨by rfl, by intro W _; go_simp <;> omega⟩) hS4 ?_
          simp only [Act.put, List.setIfInBounds_toArray, List.set_cons_zero, List.set_cons_succ]
          refine wpAnyH_takeD (i := 6) (v := .string ((⟨#[98, 97, 110, 32]⟩ ++ ⟨#[112, 97, 116, 104]⟩) ++ ⟨#[32]⟩)) (some 13) rfl rfl (by kernel_rfl) (by kernel_rfl) (by kernel_rfl) (fun _ _ _ h => h) (Or.inl ⟨by rfl, by intro W _; go_simp <;> omega⟩) hS4 ?_
          simp only [Act.put, List.setIfInBounds_toArray, List.set_cons_zero, List.set_cons_succ]
          refine wpAnyH_ready (rs := [9]) (by kernel_rfl) (by simp) ?_
          refine AllReadyH.cons rfl (fun K hK => ?_) AllReadyH.nil
          go_simp
          refine (specNumText_int t _ (by have := HT.out; omega) (by have := HT.out; omega)).mono ?_
          rintro e w5 ⟨rfl, bw⟩
          rw [HTT.out]
          have hb5 : Below w.heap.size w (w5) := hb4.trans (bw.mono hb4.size)
          have HM5 : Hid ((w4).heap.size ≤ (w5).heap.size) := bw.size
          have HBv1_5 : Hid ((w5).heap[qv1]? = some (.cells #[.int .i64 1, .string a, .string b, .int .i64 t] 25)) := blk_below HBv1_4.out bw
          have HBv2_5 : Hid ((w5).heap[qv2]? = some (.cells #[.string ⟨#[]⟩, .string ⟨#[112, 97, 116, 104]⟩, .string ⟨#[98, 101, 108, 111, 119]⟩, .string ⟨#[102, 105, 101, 108, 100]⟩] 9)) := blk_below HBv2_4.out bw
          clear hb4 HBv1_4 HBv2_4 bw
          have hS5 : w5.heap[qv1]? = some (.cells #[.int .i64 1, .string a, .string b, .int .i64 t] 25) := HBv1_5.out
          refine hK.out _ _ hS5 (fun _ => ?_)
          clear hK K hS4
          refine wpAnyH_takeD (i := 10) (v := .string (((⟨#[98, 97, 110, 32]⟩ ++ ⟨#[112, 97, 116, 104]⟩) ++ ⟨#[32]⟩) ++ tt)) (some 17) rfl rfl (by kernel_rfl) (by kernel_rfl) (by kernel_rfl) (fun _ _ _ h => h) (Or.inl ⟨by rfl, by intro W _; go_simp <;> omega⟩) hS5 ?_
          simp only [Act.put, List.setIfInBounds_toArray, List.set_cons_zero, List.set_cons_succ]
          refine wpAnyH_takeD (i := 11) (v := .string ((((⟨#[98, 97, 110, 32]⟩ ++ ⟨#[112, 97, 116, 104]⟩) ++ ⟨#[32]⟩) ++ tt) ++ ⟨#[32]⟩)) (some 18) rfl rfl (by kernel_rfl) (by kernel_rfl) (by kernel_rfl) (fun _ _ _ h => h) (Or.inl ⟨by rfl, by intro W _; go_simp <;> omega⟩) hS5 ?_
          simp only [Act.put, List.setIfInBounds_toArray, List.set_cons_zero, List.set_cons_succ]
          refine wpAnyH_takeD (i := 14) (v := .string (((((⟨#[98, 97, 110, 32]⟩ ++ ⟨#[112, 97, 116, 104]⟩) ++ ⟨#[32]⟩) ++ tt) ++ ⟨#[32]⟩) ++ a)) (some 21) rfl rfl (by kernel_rfl) (by kernel_rfl) (by kernel_rfl) (fun _ _ _ h => h) (Or.inl ⟨by rfl, by intro W _; go_simp <;> omega⟩) hS5 ?_
          simp only [Act.put, List.setIfInBounds_toArray, List.set_cons_zero, List.set_cons_succ]
          refine wpAnyH_takeD (i := 15) (v := .string (((((⟨#[98, 97, 110, 32]⟩ ++ ⟨#[112, 97, 116, 104]⟩) ++ ⟨#[32]⟩) ++ tt) ++ ⟨#[32]⟩) ++ a)) (some 3) rfl rfl (by kernel_rfl) (by kernel_rfl) (by kernel_rfl) (fun _ _ _ h => h) (Or.inl ⟨by rfl, by intro W _; go_simp⟩) hS5 ?_
          simp only [Act.put, List.setIfInBounds_toArray, List.set_cons_zero, List.set_cons_succ]
          clear hS5
          refine wpAnyH_done (by kernel_rfl) ?_ _
          have cv1_0 : (w5).cell? ⟨qv1, 0, none⟩ = some (.int .i64 1) := (cell_of HBv1_5.out 0).trans rfl
          go_wp2_with fail
          go_ret
          exact ⟨_, rfl, fun _ => by rw [← HTT.out, numTextI_of HT.out.1]; rfl, fun h => absurd HOK.out h, hb5⟩
        · go_simp
          refine (specNumText_int t _ (by have := HT.out; omega) (by have := HT.out; omega)).mono ?_
          rintro e w5 ⟨rfl, bw⟩
          rw [HTT.out]
          have hb5 : Below w.heap.size w (w5) := hb4.trans (bw.mono hb4.size)
          have HM5 : Hid ((w4).heap.size ≤ (w5).heap.size) := bw.size
          have HBv1_5 : Hid ((w5).heap[qv1]? = some (.cells #[.int .i64 1, .string a, .string b, .int .i64 t] 25)) := blk_below HBv1_4.out bw
          have HBv2_5 : Hid ((w5).heap[qv2]? = some (.cells #[.string ⟨#[]⟩, .string ⟨#[112, 97, 116, 104]⟩, .string ⟨#[98, 101, 108, 111, 119]⟩, .string ⟨#[102, 105, 101, 108, 100]⟩] 9)) := blk_below HBv2_4.out bw
          clear hb4 HBv1_4 HBv2_4 bw
          have hS5 : w5.heap[qv1]? = some (.cells #[.int .i64 1, .string a, .string b, .int .i64 t] 25) := HBv1_5.out
          refine hK.out _ _ hS5 (fun _ => ?_)
          clear hK K hS4
          refine wpAnyH_ready (rs := [4]) (by kernel_rfl) (by simp) ?_
          refine AllReadyH.cons rfl (fun K hK => ?_) AllReadyH.nil
          have ylt : (w5).cell? ⟨qv2, 1, none⟩ = some (.string ⟨#[112, 97, 116, 104]⟩) := (cell_of HBv2_5.out 1).trans rfl
          go_simp
          refine hK.out _ _ hS5 (fun _ => ?_)
          clear hK K ylt
          refine wpAnyH_takeD (i := 5) (v := .string (⟨#[98, 97, 110, 32]⟩ ++ ⟨#[112, 97, 116, 104]⟩)) (some 12) rfl rfl (by kernel_rfl) (by kernel_rfl) (by kernel_rfl) (fun _ _ _ h => h) (Or.inl ⟨by rfl, by intro W _; go_simp <;> omega⟩) hS5 ?_
          simp only [Act.put, List.setIfInBounds_toArray, List.set_cons_zero, List.set_cons_succ]
          refine wpAnyH_takeD (i := 6) (v := .string ((⟨#[98, 97, 110, 32]⟩ ++ ⟨#[112, 97, 116, 104]⟩) ++ ⟨#[32]⟩)) (some 13) rfl rfl (by kernel_rfl) (by kernel_rfl) (by kernel_rfl) (fun _ _ _ h => h) (Or.inl ⟨by rfl, by intro W _; go_simp <;> omega⟩) hS5 ?_
          simp only [Act.put, List.setIfInBounds_toArray, List.set_cons_zero, List.set_cons_succ]
          refine wpAnyH_takeD (i := 10) (v := .string (((⟨#[98, 97, 110, 32]⟩ ++ ⟨#[112, 97, 116, 104]⟩) ++ ⟨#[32]⟩) ++ tt)) (some 17) rfl rfl (by kernel_rfl) (by kernel_rfl) (by kernel_rfl) (fun _ _ _ h => h) (Or.inl ⟨by rfl, by intro W _; go_simp <;> omega⟩) hS5 ?_
          simp only [Act.put, List.setIfInBounds_toArray, List.set_cons_zero, List.set_cons_succ]
          refine wpAnyH_takeD (i := 11) (v := .string ((((⟨#[98, 97, 110, 32]⟩ ++ ⟨#[112, 97, 116, 104]⟩) ++ ⟨#[32]⟩) ++ tt) ++ ⟨#[32]⟩)) (some 18) rfl rfl (by kernel_rfl) (by kernel_rfl) (by kernel_rfl) (fun _ _ _ h => h) (Or.inl ⟨by rfl, by intro W _; go_simp <;> omega⟩) hS5 ?_
          simp only [Act.put, List.setIfInBounds_toArray, List.set_cons_zero, List.set_cons_succ]
          refine wpAnyH_takeD (i := 14) (v := .string (((((⟨#[98, 97, 110, 32]⟩ ++ ⟨#[112, 97, 116, 104]⟩) ++ ⟨#[32]⟩) ++ tt) ++ ⟨#[32]⟩) ++ a)) (some 21) rfl rfl (by kernel_rfl) (by kernel_rfl) (by kernel_rfl) (fun _ _ _ h => h) (Or.inl ⟨by rfl, by intro W _; go_simp <;> omega⟩) hS5 ?_
          simp only [Act.put, List.setIfInBounds_toArray, List.set_cons_zero, List.set_cons_succ]
          refine wpAnyH_takeD (i := 15) (v := .string (((((⟨#[98, 97, 110, 32]⟩ ++ ⟨#[112, 97, 116, 104]⟩) ++ ⟨#[32]⟩) ++ tt) ++ ⟨#[32]⟩) ++ a)) (some 3) rfl rfl (by kernel_rfl) (by kernel_rfl) (by kernel_rfl) (fun _ _ _ h => h) (Or.inl ⟨by rfl, by intro W _; go_simp⟩) hS5 ?_
          simp only [Act.put, List.setIfInBounds_toArray, List.set_cons_zero, List.set_cons_succ]
          clear hS5
          refine wpAnyH_done (by kernel_rfl) ?_ _
          have cv1_0 : (w5).cell? ⟨qv1, 0, none⟩ = some (.int .i64 1) := (cell_of HBv1_5.out 0).trans rfl
          go_wp2_with fail
          go_ret
          exact ⟨_, rfl, fun _ => by rw [← HTT.out, numTextI_of HT.out.1]; rfl, fun h => absurd HOK.out h, hb5⟩
      · go_simp
        refine (specNumText_int t _ (by have := HT.out; omega) (by have := HT.out; omega)).mono ?_
        rintro e w4 ⟨rfl, bw⟩
        rw [HTT.out]
        have hb4 : Below w.heap.size w (w4) := hb3.trans (bw.mono hb3.size)
        have HM4 : Hid ((w3).heap.size ≤ (w4).heap.size) := bw.size
        have HBv1_4 : Hid ((w4).heap[qv1]? = some (.cells #[.int .i64 1, .string a, .string b, .int .i64 t] 25)) := blk_below HBv1_3.out bw
        clear hb3 HBv1_3 bw
        have hS4 : w4.heap[qv1]? = some (.cells #[.int .i64 1, .string a, .string b, .int .i64 t] 25) := HBv1_4.out
        refine hK.out _ _ hS4 (fun _ => ?_)
        clear hK K hS3
        refine wpAnyH_ready (rs := [0]) (by kernel_rfl) (by simp) ?_
        refine AllReadyH.cons rfl (fun K hK => ?_) AllReadyH.nil
        go_simp
        have bw : Below w4.heap.size w4 (w4.alloc (.cells #[.string ⟨#[]⟩, .string ⟨#[112, 97, 116, 104]⟩, .string ⟨#[98, 101, 108, 111, 119]⟩, .string ⟨#[102, 105, 101, 108, 100]⟩] 9)) := (Below.refl _ _).alloc (Nat.le_refl _) _
        have hSA : (w4.alloc (.cells #[.string ⟨#[]⟩, .string ⟨#[112, 97, 116, 104]⟩, .string ⟨#[98, 101, 108, 111, 119]⟩, .string ⟨#[102, 105, 101, 108, 100]⟩] 9)).heap[qv1]? = some (.cells #[.int .i64 1, .string a, .string b, .int .i64 t] 25) := blk_below HBv1_4.out bw
        refine hK.out _ _ hSA (fun _ => ?_)
        clear hK K hSA bw hS4
        obtain ⟨qv2, hqv2⟩ : ∃ o, o = w4.heap.size := ⟨_, rfl⟩
        obtain ⟨w5, hXj⟩ : ∃ X, X = (w4.alloc (.cells #[.string ⟨#[]⟩, .string ⟨#[112, 97, 116, 104]⟩, .string ⟨#[98, 101, 108, 111, 119]⟩, .string ⟨#[102, 105, 101, 108, 100]⟩] 9)) := ⟨_, rfl⟩
        rw [← hqv2, ← hXj]
        have bw : Below w4.heap.size w4 w5 := by rw [hXj]; exact (Below.refl _ _).alloc (Nat.le_refl _) _
        have hb5 : Below w.heap.size w (w5) := hb4.trans (bw.mono hb4.size)
        have HM5 : Hid ((w4).heap.size ≤ (w5).heap.size) := bw.size
        have HBv1_5 : Hid ((w5).heap[qv1]? = some (.cells #[.int .i64 1, .string a, .string b, .int .i64 t] 25)) := blk_below HBv1_4.out bw
        have HNv1v2 : Hid (qv1 ≠ qv2) := fun e => by have h1 := (Array.getElem?_eq_some_iff.1 HBv1_4.out).1; omega
        have HBv2_5 : Hid ((w5).heap[qv2]? = some (.cells #[.string ⟨#[]⟩, .string ⟨#[112, 97, 116, 104]⟩, .string ⟨#[98, 101, 108, 111, 119]⟩, .string ⟨#[102, 105, 101, 108, 100]⟩] 9)) := by show _ = _; rw [hXj, hqv2]; exact heap_alloc_new _ _
        have HGv2 : Hid (w.heap.size ≤ qv2) := by show _ ≤ _; rw [hqv2]; exact hb4.size
        have hS5 : w5.heap[qv1]? = some (.cells #[.int .i64 1, .string a, .string b, .int .i64 t] 25) := HBv1_5.out
        clear hb4 HBv1_4 bw hXj hqv2
        refine wpAnyH_takeD (i := 3) (v := .pointer (some ⟨qv2, 1, none⟩)) (some 10) rfl rfl (by kernel_rfl) (by kernel_rfl) (by kernel_rfl) (fun _ _ _ h => h) (Or.inl ⟨by rfl, by intro W _; go_simp⟩) hS5 ?_
        simp only [Act.put, List.setIfInBounds_toArray, List.set_cons_zero, List.set_cons_succ]
        refine wpAnyH_ready (rs := [4]) (by kernel_rfl) (by simp) ?_
        refine AllReadyH.cons rfl (fun K hK => ?_) AllReadyH.nil
        have ylt : (w5).cell? ⟨qv2, 1, none⟩ = some (.string ⟨#[112, 97, 116, 104]⟩) := (cell_of HBv2_5.out 1).trans rfl
        go_simp
        refine hK.out _ _ hS5 (fun _ => ?_)
        clear hK K ylt
        refine wpAnyH_takeD (i := 5) (v := .string (⟨#[98, 97, 110, 32]⟩ ++ ⟨#[112, 97, 116, 104]⟩)) (some 12) rfl rfl (by kernel_rfl) (by kernel_rfl) (by kernel_rfl) (fun _ _ _ h => h) (Or.inl ⟨by rfl, by intro W _; go_simp <;> omega⟩) hS5 ?_
        simp only [Act.put, List.setIfInBounds_toArray, List.set_cons_zero, List.set_cons_succ]
        refine wpAnyH_takeD (i := 6) (v := .string ((⟨#[98, 97, 110, 32]⟩ ++ ⟨#[112, 97, 116, 104]⟩) ++ ⟨#[32]⟩)) (some 13) rfl rfl (by kernel_rfl) (by kernel_rfl) (by kernel_rfl) (fun _ _ _ h => h) (Or.inl ⟨by rfl, by intro W _; go_simp <;> omega⟩) hS5 ?_
        simp only [Act.put, List.setIfInBounds_toArray, List.set_cons_zero, List.set_cons_succ]
        refine wpAnyH_takeD (i := 10) (v := .string (((⟨#[98, 97, 110, 32]⟩ ++ ⟨#[112, 97, 116, 104]⟩) ++ ⟨#[32]⟩) ++ tt)) (some 17) rfl rfl (by kernel_rfl) (by kernel_rfl) (by kernel_rfl) (fun _ _ _ h => h) (Or.inl ⟨by rfl, by intro W _; go_simp <;> omega⟩) hS5 ?_
        simp only [Act.put, List.setIfInBounds_toArray, List.set_cons_zero, List.set_cons_succ]
        refine wpAnyH_takeD (i := 11) (v := .string ((((⟨#[98, 97, 110, 32]⟩ ++ ⟨#[112, 97, 116, 104]⟩) ++ ⟨#[32]⟩) ++ tt) ++ ⟨#[32]⟩)) (some 18) rfl rfl (by kernel_rfl) (by kernel_rfl) (by kernel_rfl) (fun _ _ _ h => h) (Or.inl ⟨by rfl, by intro W _; go_simp <;> omega⟩) hS5 ?_
        simp only [Act.put, List.setIfInBounds_toArray, List.set_cons_zero, List.set_cons_succ]
        refine wpAnyH_takeD (i := 14) (v := .string (((((⟨#[98, 97, 110, 32]⟩ ++ ⟨#[112, 97, 116, 104]⟩) ++ ⟨#[32]⟩) ++ tt) ++ ⟨#[32]⟩) ++ a)) (some 21) rfl rfl (by kernel_rfl) (by kernel_rfl) (by kernel_rfl) (fun _ _ _ h => h) (Or.inl ⟨by rfl, by intro W _; go_simp <;> omega⟩) hS5 ?_
        simp only [Act.put, List.setIfInBounds_toArray, List.set_cons_zero, List.set_cons_succ]
        refine wpAnyH_takeD (i := 15) (v := .string (((((⟨#[98, 97, 110, 32]⟩ ++ ⟨#[112, 97, 116, 104]⟩) ++ ⟨#[32]⟩) ++ tt) ++ ⟨#[32]⟩) ++ a)) (some 3) rfl rfl (by kernel_rfl) (by kernel_rfl) (by kernel_rfl) (fun _ _ _ h => h) (Or.inl ⟨by rfl, by intro W _; go_simp⟩) hS5 ?_
        simp only [Act.put, List.setIfInBounds_toArray, List.set_cons_zero, List.set_cons_succ]
        clear hS5
        refine wpAnyH_done (by kernel_rfl) ?_ _
        have cv1_0 : (w5).cell? ⟨qv1, 0, none⟩ = some (.int .i64 1) := (cell_of HBv1_5.out 0).trans rfl
        go_wp2_with fail
        go_ret
        exact ⟨_, rfl, fun _ => by rw [← HTT.out, numTextI_of HT.out.1]; rfl, fun h => absurd HOK.out h, hb5⟩
    · go_upto_region 3 with fail
      refine wp_region_held_drew (S := fun W => W.heap[qv1]? = some (.cells #[.int .i64 2, .string a, .string b, .int .i64 t] 25)) (by kernel_rfl) HBv1_2.out (fun _ => ?_)
      obtain ⟨w3, hX⟩ : ∃ X, X = w2.drew := ⟨_, rfl⟩
      have bw : Below w2.heap.size w2 w3 := by rw [hX]; exact (Below.refl _ _).drew
      rw [← hX]
      have hb3 : Below w.heap.size w (w3) := hb2.trans (bw.mono hb2.size)
      have HM3 : Hid ((w2).heap.size ≤ (w3).heap.size) := bw.size
      have HBv1_3 : Hid ((w3).heap[qv1]? = some (.cells #[.int .i64 2, .string a, .string b, .int .i64 t] 25)) := blk_below HBv1_2.out bw
      have hS3 : w3.heap[qv1]? = some (.cells #[.int .i64 2, .string a, .string b, .int .i64 t] 25) := HBv1_3.out
      clear hb2 HBv1_2 bw hX
      refine wpAnyH_takeD (i := 1) (v := .pointer (some ⟨qv1, 0, none⟩)) (some 8) rfl rfl (by kernel_rfl) (by kernel_rfl) (by kernel_rfl) (fun _ _ _ h => h) (Or.inl ⟨by rfl, by intro W _; go_simp⟩) hS3 ?_
      simp only [Act.put, List.setIfInBounds_toArray, List.set_cons_zero, List.set_cons_succ]
      refine wpAnyH_takeD (i := 2) (v := .int .i64 2) (some 9) rfl rfl (by kernel_rfl) (by kernel_rfl) (by kernel_rfl) (fun _ _ _ h => h) (Or.inl ⟨by rfl, by intro W hW; have hhv1 := hW; have y0 := (cell_of hhv1 0).trans rfl; go_simp⟩) hS3 ?_
      simp only [Act.put, List.setIfInBounds_toArray, List.set_cons_zero, List.set_cons_succ]
      refine wpAnyH_takeD (i := 7) (v := .pointer (some ⟨qv1, 3, none⟩)) (some 14) rfl rfl (by kernel_rfl) (by kernel_rfl) (by kernel_rfl) (fun _ _ _ h => h) (Or.inl ⟨by rfl, by intro W _; go_simp⟩) hS3 ?_
      simp only [Act.put, List.setIfInBounds_toArray, List.set_cons_zero, List.set_cons_succ]
      refine wpAnyH_takeD (i := 8) (v := .int .i64 t) (some 15) rfl rfl (by kernel_rfl) (by kernel_rfl) (by kernel_rfl) (fun _ _ _ h => h) (Or.inl ⟨by rfl, by intro W hW; have hhv1 := hW; have y3 := (cell_of hhv1 3).trans rfl; go_simp⟩) hS3 ?_
      simp only [Act.put, List.setIfInBounds_toArray, List.set_cons_zero, List.set_cons_succ]
      refine wpAnyH_takeD (i := 12) (v := .pointer (some ⟨qv1, 1, none⟩)) (some 19) rfl rfl (by kernel_rfl) (by kernel_rfl) (by kernel_rfl) (fun _ _ _ h => h) (Or.inl ⟨by rfl, by intro W _; go_simp⟩) hS3 ?_
      simp only [Act.put, List.setIfInBounds_toArray, List.set_cons_zero, List.set_cons_succ]
      refine wpAnyH_takeD (i := 13) (v := .string a) (some 20) rfl rfl (by kernel_rfl) (by kernel_rfl) (by kernel_rfl) (fun _ _ _ h => h) (Or.inl ⟨by rfl, by intro W hW; have hhv1 := hW; have y1 := (cell_of hhv1 1).trans rfl; go_simp⟩) hS3 ?_
      simp only [Act.put, List.setIfInBounds_toArray, List.set_cons_zero, List.set_cons_succ]
      refine wpAnyH_ready (rs := [0, 9]) (by kernel_rfl) (by simp) ?_
      refine AllReadyH.cons rfl (fun K hK => ?_) (AllReadyH.cons rfl (fun K hK => ?_) AllReadyH.nil)
      · go_simp
        have bw : Below w3.heap.size w3 (w3.alloc (.cells #[.string ⟨#[]⟩, .string ⟨#[112, 97, 116, 104]⟩, .string ⟨#[98, 101, 108, 111, 119]⟩, .string ⟨#[102, 105, 101, 108, 100]⟩] 9)) := (Below.refl _ _).alloc (Nat.le_refl _) _
        have hSA : (w3.alloc (.cells #[.string ⟨#[]⟩, .string ⟨#[112, 97, 116, 104]⟩, .string ⟨#[98, 101, 108, 111, 119]⟩, .string ⟨#[102, 105, 101, 108, 100]⟩] 9)).heap[qv1]? = some (.cells #[.int .i64 2, .string a, .string b, .int .i64 t] 25) := blk_below HBv1_3.out bw
        refine hK.out _ _ hSA (fun _ => ?_)
        clear hK K hSA bw hS3
        obtain ⟨qv2, hqv2⟩ : ∃ o, o = w3.heap.size := ⟨_, rfl⟩
        obtain ⟨w4, hXj⟩ : ∃ X, X = (w3.alloc (.cells #[.string ⟨#[]⟩, .string ⟨#[112, 97, 116, 104]⟩, .string ⟨#[98, 101, 108, 111, 119]⟩, .string ⟨#[102, 105, 101, 108, 100]⟩] 9)) := ⟨_, rfl⟩
        rw [← hqv2, ← hXj]
        have bw : Below w3.heap.size w3 w4 := by rw [hXj]; exact (Below.refl _ _).alloc (Nat.le_refl _) _
        have hb4 : Below w.heap.size w (w4) := hb3.trans (bw.mono hb3.size)
        have HM4 : Hid ((w3).heap.size ≤ (w4).heap.size) := bw.size
        have HBv1_4 : Hid ((w4).heap[qv1]? = some (.cells #[.int .i64 2, .string a, .string b, .int .i64 t] 25)) := blk_below HBv1_3.out bw
        have HNv1v2 : Hid (qv1 ≠ qv2) := fun e => by have h1 := (Array.getElem?_eq_some_iff.1 HBv1_3.out).1; omega
        have HBv2_4 : Hid ((w4).heap[qv2]? = some (.cells #[.string ⟨#[]⟩, .string ⟨#[112, 97, 116, 104]⟩, .string ⟨#[98, 101, 108, 111, 119]⟩, .string ⟨#[102, 105, 101, 108, 100]⟩] 9)) := by show _ = _; rw [hXj, hqv2]; exact heap_alloc_new _ _
        have HGv2 : Hid (w.heap.size ≤ qv2) := by show _ ≤ _; rw [hqv2]; exact hb3.size
        have hS4 : w4.heap[qv1]? = some (.cells #[.int .i64 2, .string a, .string b, .int .i64 t] 25) := HBv1_4.out
        clear hb3 HBv1_3 bw hXj hqv2
        refine wpAnyH_takeD (i := 3) (v := .pointer (some ⟨qv2, 2, none⟩)) (some 10) rfl rfl (by kernel_rfl) (by kernel_rfl) (by kernel_rfl) (fun _ _ _ h => h) (Or.inl ⟨by rfl, by intro W _; go_simp⟩) hS4 ?_
        simp only [Act.put, List.setIfInBounds_toArray, List.set_cons_zero, List.set_cons_succ]
        refine wpAnyH_ready (rs := [4, 9]) (by kernel_rfl) (by simp) ?_
        refine AllReadyH.cons rfl (fun K hK => ?_) (AllReadyH.cons rfl (fun K hK => ?_) AllReadyH.nil)
        · have ylt : (w4).cell? ⟨qv2, 2, none⟩ = some (.string ⟨#[98, 101, 108, 111, 119]⟩) := (cell_of HBv2_4.out 2).trans rfl
          go_simp
          refine hK.out _ _ hS4 (fun _ => ?_)
          clear hK K ylt
          refine wpAnyH_takeD (i := 5) (v := .string (⟨#[98, 97, 110, 32]⟩ ++ ⟨#[98, 101, 108, 111, 119]⟩)) (some 12) rfl rfl (by kernel_rfl) (by kernel_rfl) (by kernel_rfl) (fun _ _ _ h => h) (Or.inl ⟨by rfl, by intro W _; go_simp <;> omega⟩) hS4 ?_
          simp only [Act.put, List.setIfInBounds_toArray, List.set_cons_zero, List.set_cons_succ]
          refine wpAnyH_takeD (i := 6) (v := .string ((⟨#[98, 97, 110, 32]⟩ ++ ⟨#[98, 101, 108, 111, 119]⟩) ++ ⟨#[32]⟩)) (some 13) rfl rfl (by kernel_rfl) (by kernel_rfl) (by kernel_rfl) (fun _ _ _ h => h) (Or.inl ⟨by rfl, by intro W _; go_simp <;> omega⟩) hS4 ?_
          simp only [Act.put, List.setIfInBounds_toArray, List.set_cons_zero, List.set_cons_succ]
          refine wpAnyH_ready (rs := [9]) (by kernel_rfl) (by simp) ?_
          refine AllReadyH.cons rfl (fun K hK => ?_) AllReadyH.nil
          go_simp
          refine (specNumText_int t _ (by have := HT.out; omega) (by have := HT.out; omega)).mono ?_
          rintro e w5 ⟨rfl, bw⟩
          rw [HTT.out]
          have hb5 : Below w.heap.size w (w5) := hb4.trans (bw.mono hb4.size)
          have HM5 : Hid ((w4).heap.size ≤ (w5).heap.size) := bw.size
          have HBv1_5 : Hid ((w5).heap[qv1]? = some (.cells #[.int .i64 2, .string a, .string b, .int .i64 t] 25)) := blk_below HBv1_4.out bw
          have HBv2_5 : Hid ((w5).heap[qv2]? = some (.cells #[.string ⟨#[]⟩, .string ⟨#[112, 97, 116, 104]⟩, .string ⟨#[98, 101, 108, 111, 119]⟩, .string ⟨#[102, 105, 101, 108, 100]⟩] 9)) := blk_below HBv2_4.out bw
          clear hb4 HBv1_4 HBv2_4 bw
          have hS5 : w5.heap[qv1]? = some (.cells #[.int .i64 2, .string a, .string b, .int .i64 t] 25) := HBv1_5.out
          refine hK.out _ _ hS5 (fun _ => ?_)
          clear hK K hS4
          refine wpAnyH_takeD (i := 10) (v := .string (((⟨#[98, 97, 110, 32]⟩ ++ ⟨#[98, 101, 108, 111, 119]⟩) ++ ⟨#[32]⟩) ++ tt)) (some 17) rfl rfl (by kernel_rfl) (by kernel_rfl) (by kernel_rfl) (fun _ _ _ h => h) (Or.inl ⟨by rfl, by intro W _; go_simp <;> omega⟩) hS5 ?_
          simp only [Act.put, List.setIfInBounds_toArray, List.set_cons_zero, List.set_cons_succ]
          refine wpAnyH_takeD (i := 11) (v := .string ((((⟨#[98, 97, 110, 32]⟩ ++ ⟨#[98, 101, 108, 111, 119]⟩) ++ ⟨#[32]⟩) ++ tt) ++ ⟨#[32]⟩)) (some 18) rfl rfl (by kernel_rfl) (by kernel_rfl) (by kernel_rfl) (fun _ _ _ h => h) (Or.inl ⟨by rfl, by intro W _; go_simp <;> omega⟩) hS5 ?_
          simp only [Act.put, List.setIfInBounds_toArray, List.set_cons_zero, List.set_cons_succ]
          refine wpAnyH_takeD (i := 14) (v := .string (((((⟨#[98, 97, 110, 32]⟩ ++ ⟨#[98, 101, 108, 111, 119]⟩) ++ ⟨#[32]⟩) ++ tt) ++ ⟨#[32]⟩) ++ a)) (some 21) rfl rfl (by kernel_rfl) (by kernel_rfl) (by kernel_rfl) (fun _ _ _ h => h) (Or.inl ⟨by rfl, by intro W _; go_simp <;> omega⟩) hS5 ?_
          simp only [Act.put, List.setIfInBounds_toArray, List.set_cons_zero, List.set_cons_succ]
          refine wpAnyH_takeD (i := 15) (v := .string (((((⟨#[98, 97, 110, 32]⟩ ++ ⟨#[98, 101, 108, 111, 119]⟩) ++ ⟨#[32]⟩) ++ tt) ++ ⟨#[32]⟩) ++ a)) (some 3) rfl rfl (by kernel_rfl) (by kernel_rfl) (by kernel_rfl) (fun _ _ _ h => h) (Or.inl ⟨by rfl, by intro W _; go_simp⟩) hS5 ?_
          simp only [Act.put, List.setIfInBounds_toArray, List.set_cons_zero, List.set_cons_succ]
          clear hS5
          refine wpAnyH_done (by kernel_rfl) ?_ _
          have cv1_0 : (w5).cell? ⟨qv1, 0, none⟩ = some (.int .i64 2) := (cell_of HBv1_5.out 0).trans rfl
          go_wp2_with fail
          go_ret
          exact ⟨_, rfl, fun _ => by rw [← HTT.out, numTextI_of HT.out.1]; rfl, fun h => absurd HOK.out h, hb5⟩
        · go_simp
          refine (specNumText_int t _ (by have := HT.out; omega) (by have := HT.out; omega)).mono ?_
          rintro e w5 ⟨rfl, bw⟩
          rw [HTT.out]
          have hb5 : Below w.heap.size w (w5) := hb4.trans (bw.mono hb4.size)
          have HM5 : Hid ((w4).heap.size ≤ (w5).heap.size) := bw.size
          have HBv1_5 : Hid ((w5).heap[qv1]? = some (.cells #[.int .i64 2, .string a, .string b, .int .i64 t] 25)) := blk_below HBv1_4.out bw
          have HBv2_5 : Hid ((w5).heap[qv2]? = some (.cells #[.string ⟨#[]⟩, .string ⟨#[112, 97, 116, 104]⟩, .string ⟨#[98, 101, 108, 111, 119]⟩, .string ⟨#[102, 105, 101, 108, 100]⟩] 9)) := blk_below HBv2_4.out bw
          clear hb4 HBv1_4 HBv2_4 bw
          have hS5 : w5.heap[qv1]? = some (.cells #[.int .i64 2, .string a, .string b, .int .i64 t] 25) := HBv1_5.out
          refine hK.out _ _ hS5 (fun _ => ?_)
          clear hK K hS4
          refine wpAnyH_ready (rs := [4]) (by kernel_rfl) (by simp) ?_
          refine AllReadyH.cons rfl (fun K hK => ?_) AllReadyH.nil
          have ylt : (w5).cell? ⟨qv2, 2, none⟩ = some (.string ⟨#[98, 101, 108, 111, 119]⟩) := (cell_of HBv2_5.out 2).trans rfl
          go_simp
          refine hK.out _ _ hS5 (fun _ => ?_)
          clear hK K ylt
          refine wpAnyH_takeD (i := 5) (v := .string (⟨#[98, 97, 110, 32]⟩ ++ ⟨#[98, 101, 108, 111, 119]⟩)) (some 12) rfl rfl (by kernel_rfl) (by kernel_rfl) (by kernel_rfl) (fun _ _ _ h => h) (Or.inl ⟨by rfl, by intro W _; go_simp <;> omega⟩) hS5 ?_
          simp only [Act.put, List.setIfInBounds_toArray, List.set_cons_zero, List.set_cons_succ]
          refine wpAnyH_takeD (i := 6) (v := .string ((⟨#[98, 97, 110, 32]⟩ ++ ⟨#[98, 101, 108, 111, 119]⟩) ++ ⟨#[32]⟩)) (some 13) rfl rfl (by kernel_rfl) (by kernel_rfl) (by kernel_rfl) (fun _ _ _ h => h) (Or.inl ⟨by rfl, by intro W _; go_simp <;> omega⟩) hS5 ?_
          simp only [Act.put, List.setIfInBounds_toArray, List.set_cons_zero, List.set_cons_succ]
          refine wpAnyH_takeD (i := 10) (v := .string (((⟨#[98, 97, 110, 32]⟩ ++ ⟨#[98, 101, 108, 111, 119]⟩) ++ ⟨#[32]⟩) ++ tt)) (some 17) rfl rfl (by kernel_rfl) (by kernel_rfl) (by kernel_rfl) (fun _ _ _ h => h) (Or.inl ⟨by rfl, by intro W _; go_simp <;> omega⟩) hS5 ?_
          simp only [Act.put, List.setIfInBounds_toArray, List.set_cons_zero, List.set_cons_succ]
          refine wpAnyH_takeD (i := 11) (v := .string ((((⟨#[98, 97, 110, 32]⟩ ++ ⟨#[98, 101, 108, 111, 119]⟩) ++ ⟨#[32]⟩) ++ tt) ++ ⟨#[32]⟩)) (some 18) rfl rfl (by kernel_rfl) (by kernel_rfl) (by kernel_rfl) (fun _ _ _ h => h) (Or.inl ⟨by rfl, by intro W _; go_simp <;> omega⟩) hS5 ?_
          simp only [Act.put, List.setIfInBounds_toArray, List.set_cons_zero, List.set_cons_succ]
          refine wpAnyH_takeD (i := 14) (v := .string (((((⟨#[98, 97, 110, 32]⟩ ++ ⟨#[98, 101, 108, 111, 119]⟩) ++ ⟨#[32]⟩) ++ tt) ++ ⟨#[32]⟩) ++ a)) (some 21) rfl rfl (by kernel_rfl) (by kernel_rfl) (by kernel_rfl) (fun _ _ _ h => h) (Or.inl ⟨by rfl, by intro W _; go_simp <;> omega⟩) hS5 ?_
          simp only [Act.put, List.setIfInBounds_toArray, List.set_cons_zero, List.set_cons_succ]
          refine wpAnyH_takeD (i := 15) (v := .string (((((⟨#[98, 97, 110, 32]⟩ ++ ⟨#[98, 101, 108, 111, 119]⟩) ++ ⟨#[32]⟩) ++ tt) ++ ⟨#[32]⟩) ++ a)) (some 3) rfl rfl (by kernel_rfl) (by kernel_rfl) (by kernel_rfl) (fun _ _ _ h => h) (Or.inl ⟨by rfl, by intro W _; go_simp⟩) hS5 ?_
          simp only [Act.put, List.setIfInBounds_toArray, List.set_cons_zero, List.set_cons_succ]
          clear hS5
          refine wpAnyH_done (by kernel_rfl) ?_ _
          have cv1_0 : (w5).cell? ⟨qv1, 0, none⟩ = some (.int .i64 2) := (cell_of HBv1_5.out 0).trans rfl
          go_wp2_with fail
          go_ret
          exact ⟨_, rfl, fun _ => by rw [← HTT.out, numTextI_of HT.out.1]; rfl, fun h => absurd HOK.out h, hb5⟩
      · go_simp
        refine (specNumText_int t _ (by have := HT.out; omega) (by have := HT.out; omega)).mono ?_
        rintro e w4 ⟨rfl, bw⟩
        rw [HTT.out]
        have hb4 : Below w.heap.size w (w4) := hb3.trans (bw.mono hb3.size)
        have HM4 : Hid ((w3).heap.size ≤ (w4).heap.size) := bw.size
        have HBv1_4 : Hid ((w4).heap[qv1]? = some (.cells #[.int .i64 2, .string a, .string b, .int .i64 t] 25)) := blk_below HBv1_3.out bw
        clear hb3 HBv1_3 bw
        have hS4 : w4.heap[qv1]? = some (.cells #[.int .i64 2, .string a, .string b, .int .i64 t] 25) := HBv1_4.out
        refine hK.out _ _ hS4 (fun _ => ?_)
        clear hK K hS3
        refine wpAnyH_ready (rs := [0]) (by kernel_rfl) (by simp) ?_
        refine AllReadyH.cons rfl (fun K hK => ?_) AllReadyH.nil
        go_simp
        have bw : Below w4.heap.size w4 (w4.alloc (.cells #[.string ⟨#[]⟩, .string ⟨#[112, 97, 116, 104]⟩, .string ⟨#[98, 101, 108, 111, 119]⟩, .string ⟨#[102, 105, 101, 108, 100]⟩] 9)) := (Below.refl _ _).alloc (Nat.le_refl _) _
        have hSA : (w4.alloc (.cells #[.string ⟨#[]⟩, .string ⟨#[112, 97, 116, 104]⟩, .string ⟨#[98, 101, 108, 111, 119]⟩, .string ⟨#[102, 105, 101, 108, 100]⟩] 9)).heap[qv1]? = some (.cells #[.int .i64 2, .string a, .string b, .int .i64 t] 25) := blk_below HBv1_4.out bw
        refine hK.out _ _ hSA (fun _ => ?_)
        clear hK K hSA bw hS4
        obtain ⟨qv2, hqv2⟩ : ∃ o, o = w4.heap.size := ⟨_, rfl⟩
        obtain ⟨w5, hXj⟩ : ∃ X, X = (w4.alloc (.cells #[.string ⟨#[]⟩, .string ⟨#[112, 97, 116, 104]⟩, .string ⟨#[98, 101, 108, 111, 119]⟩, .string ⟨#[102, 105, 101, 108, 100]⟩] 9)) := ⟨_, rfl⟩
        rw [← hqv2, ← hXj]
        have bw : Below w4.heap.size w4 w5 := by rw [hXj]; exact (Below.refl _ _).alloc (Nat.le_refl _) _
        have hb5 : Below w.heap.size w (w5) := hb4.trans (bw.mono hb4.size)
        have HM5 : Hid ((w4).heap.size ≤ (w5).heap.size) := bw.size
        have HBv1_5 : Hid ((w5).heap[qv1]? = some (.cells #[.int .i64 2, .string a, .string b, .int .i64 t] 25)) := blk_below HBv1_4.out bw
        have HNv1v2 : Hid (qv1 ≠ qv2) := fun e => by have h1 := (Array.getElem?_eq_some_iff.1 HBv1_4.out).1; omega
        have HBv2_5 : Hid ((w5).heap[qv2]? = some (.cells #[.string ⟨#[]⟩, .string ⟨#[112, 97, 116, 104]⟩, .string ⟨#[98, 101, 108, 111, 119]⟩, .string ⟨#[102, 105, 101, 108, 100]⟩] 9)) := by show _ = _; rw [hXj, hqv2]; exact heap_alloc_new _ _
        have HGv2 : Hid (w.heap.size ≤ qv2) := by show _ ≤ _; rw [hqv2]; exact hb4.size
        have hS5 : w5.heap[qv1]? = some (.cells #[.int .i64 2, .string a, .string b, .int .i64 t] 25) := HBv1_5.out
        clear hb4 HBv1_4 bw hXj hqv2
        refine wpAnyH_takeD (i := 3) (v := .pointer (some ⟨qv2, 2, none⟩)) (some 10) rfl rfl (by kernel_rfl) (by kernel_rfl) (by kernel_rfl) (fun _ _ _ h => h) (Or.inl ⟨by rfl, by intro W _; go_simp⟩) hS5 ?_
        simp only [Act.put, List.setIfInBounds_toArray, List.set_cons_zero, List.set_cons_succ]
        refine wpAnyH_ready (rs := [4]) (by kernel_rfl) (by simp) ?_
        refine AllReadyH.cons rfl (fun K hK => ?_) AllReadyH.nil
        have ylt : (w5).cell? ⟨qv2, 2, none⟩ = some (.string ⟨#[98, 101, 108, 111, 119]⟩) := (cell_of HBv2_5.out 2).trans rfl
        go_simp
        refine hK.out _ _ hS5 (fun _ => ?_)
        clear hK K ylt
        refine wpAnyH_takeD (i := 5) (v := .string (⟨#[98, 97, 110, 32]⟩ ++ ⟨#[98, 101, 108, 111, 119]⟩)) (some 12) rfl rfl (by kernel_rfl) (by kernel_rfl) (by kernel_rfl) (fun _ _ _ h => h) (Or.inl ⟨by rfl, by intro W _; go_simp <;> omega⟩) hS5 ?_
        simp only [Act.put, List.setIfInBounds_toArray, List.set_cons_zero, List.set_cons_succ]
        refine wpAnyH_takeD (i := 6) (v := .string ((⟨#[98, 97, 110, 32]⟩ ++ ⟨#[98, 101, 108, 111, 119]⟩) ++ ⟨#[32]⟩)) (some 13) rfl rfl (by kernel_rfl) (by kernel_rfl) (by kernel_rfl) (fun _ _ _ h => h) (Or.inl ⟨by rfl, by intro W _; go_simp <;> omega⟩) hS5 ?_
        simp only [Act.put, List.setIfInBounds_toArray, List.set_cons_zero, List.set_cons_succ]
        refine wpAnyH_takeD (i := 10) (v := .string (((⟨#[98, 97, 110, 32]⟩ ++ ⟨#[98, 101, 108, 111, 119]⟩) ++ ⟨#[32]⟩) ++ tt)) (some 17) rfl rfl (by kernel_rfl) (by kernel_rfl) (by kernel_rfl) (fun _ _ _ h => h) (Or.inl ⟨by rfl, by intro W _; go_simp <;> omega⟩) hS5 ?_
        simp only [Act.put, List.setIfInBounds_toArray, List.set_cons_zero, List.set_cons_succ]
        refine wpAnyH_takeD (i := 11) (v := .string ((((⟨#[98, 97, 110, 32]⟩ ++ ⟨#[98, 101, 108, 111, 119]⟩) ++ ⟨#[32]⟩) ++ tt) ++ ⟨#[32]⟩)) (some 18) rfl rfl (by kernel_rfl) (by kernel_rfl) (by kernel_rfl) (fun _ _ _ h => h) (Or.inl ⟨by rfl, by intro W _; go_simp <;> omega⟩) hS5 ?_
        simp only [Act.put, List.setIfInBounds_toArray, List.set_cons_zero, List.set_cons_succ]
        refine wpAnyH_takeD (i := 14) (v := .string (((((⟨#[98, 97, 110, 32]⟩ ++ ⟨#[98, 101, 108, 111, 119]⟩) ++ ⟨#[32]⟩) ++ tt) ++ ⟨#[32]⟩) ++ a)) (some 21) rfl rfl (by kernel_rfl) (by kernel_rfl) (by kernel_rfl) (fun _ _ _ h => h) (Or.inl ⟨by rfl, by intro W _; go_simp <;> omega⟩) hS5 ?_
        simp only [Act.put, List.setIfInBounds_toArray, List.set_cons_zero, List.set_cons_succ]
        refine wpAnyH_takeD (i := 15) (v := .string (((((⟨#[98, 97, 110, 32]⟩ ++ ⟨#[98, 101, 108, 111, 119]⟩) ++ ⟨#[32]⟩) ++ tt) ++ ⟨#[32]⟩) ++ a)) (some 3) rfl rfl (by kernel_rfl) (by kernel_rfl) (by kernel_rfl) (fun _ _ _ h => h) (Or.inl ⟨by rfl, by intro W _; go_simp⟩) hS5 ?_
        simp only [Act.put, List.setIfInBounds_toArray, List.set_cons_zero, List.set_cons_succ]
        clear hS5
        refine wpAnyH_done (by kernel_rfl) ?_ _
        have cv1_0 : (w5).cell? ⟨qv1, 0, none⟩ = some (.int .i64 2) := (cell_of HBv1_5.out 0).trans rfl
        go_wp2_with fail
        go_ret
        exact ⟨_, rfl, fun _ => by rw [← HTT.out, numTextI_of HT.out.1]; rfl, fun h => absurd HOK.out h, hb5⟩
    · go_upto_region 3 with fail
      refine wp_region_held_drew (S := fun W => W.heap[qv1]? = some (.cells #[.int .i64 3, .string a, .string b, .int .i64 t] 25)) (by kernel_rfl) HBv1_2.out (fun _ => ?_)
      obtain ⟨w3, hX⟩ : ∃ X, X = w2.drew := ⟨_, rfl⟩
      have bw : Below w2.heap.size w2 w3 := by rw [hX]; exact (Below.refl _ _).drew
      rw [← hX]
      have hb3 : Below w.heap.size w (w3) := hb2.trans (bw.mono hb2.size)
      have HM3 : Hid ((w2).heap.size ≤ (w3).heap.size) := bw.size
      have HBv1_3 : Hid ((w3).heap[qv1]? = some (.cells #[.int .i64 3, .string a, .string b, .int .i64 t] 25)) := blk_below HBv1_2.out bw
      have hS3 : w3.heap[qv1]? = some (.cells #[.int .i64 3, .string a, .string b, .int .i64 t] 25) := HBv1_3.out
      clear hb2 HBv1_2 bw hX
      refine wpAnyH_takeD (i := 1) (v := .pointer (some ⟨qv1, 0, none⟩)) (some 8) rfl rfl (by kernel_rfl) (by kernel_rfl) (by kernel_rfl) (fun _ _ _ h => h) (Or.inl ⟨by rfl, by intro W _; go_simp⟩) hS3 ?_
      simp only [Act.put, List.setIfInBounds_toArray, List.set_cons_zero, List.set_cons_succ]
      refine wpAnyH_takeD (i := 2) (v := .int .i64 3) (some 9) rfl rfl (by kernel_rfl) (by kernel_rfl) (by kernel_rfl) (fun _ _ _ h => h) (Or.inl ⟨by rfl, by intro W hW; have hhv1 := hW; have y0 := (cell_of hhv1 0).trans rfl; go_simp⟩) hS3 ?_
      simp only [Act.put, List.setIfInBounds_toArray, List.set_cons_zero, List.set_cons_succ]
      refine wpAnyH_takeD (i := 7) (v := .pointer (some ⟨qv1, 3, none⟩)) (some 14) rfl rfl (by kernel_rfl) (by kernel_rfl) (by kernel_rfl) (fun _ _ _ h => h) (Or.inl ⟨by rfl, by intro W _; go_simp⟩) hS3 ?_
      simp only [Act.put, List.setIfInBounds_toArray, List.set_cons_zero, List.set_cons_succ]
      refine wpAnyH_takeD (i := 8) (v := .int .i64 t) (some 15) rfl rfl (by kernel_rfl) (by kernel_rfl) (by kernel_rfl) (fun _ _ _ h => h) (Or.inl ⟨by rfl, by intro W hW; have hhv1 := hW; have y3 := (cell_of hhv1 3).trans rfl; go_simp⟩) hS3 ?_
      simp only [Act.put, List.setIfInBounds_toArray, List.set_cons_zero, List.set_cons_succ]
      refine wpAnyH_takeD (i := 12) (v := .pointer (some ⟨qv1, 1, none⟩)) (some 19) rfl rfl (by kernel_rfl) (by kernel_rfl) (by kernel_rfl) (fun _ _ _ h => h) (Or.inl ⟨by rfl, by intro W _; go_simp⟩) hS3 ?_
      simp only [Act.put, List.setIfInBounds_toArray, List.set_cons_zero, List.set_cons_succ]
      refine wpAnyH_takeD (i := 13) (v := .string a) (some 20) rfl rfl (by kernel_rfl) (by kernel_rfl) (by kernel_rfl) (fun _ _ _ h => h) (Or.inl ⟨by rfl, by intro W hW; have hhv1 := hW; have y1 := (cell_of hhv1 1).trans rfl; go_simp⟩) hS3 ?_
      simp only [Act.put, List.setIfInBounds_toArray, List.set_cons_zero, List.set_cons_succ]
      refine wpAnyH_ready (rs := [0, 9]) (by kernel_rfl) (by simp) ?_
      refine AllReadyH.cons rfl (fun K hK => ?_) (AllReadyH.cons rfl (fun K hK => ?_) AllReadyH.nil)
      · go_simp
        have bw : Below w3.heap.size w3 (w3.alloc (.cells #[.string ⟨#[]⟩, .string ⟨#[112, 97, 116, 104]⟩, .string ⟨#[98, 101, 108, 111, 119]⟩, .string ⟨#[102, 105, 101, 108, 100]⟩] 9)) := (Below.refl _ _).alloc (Nat.le_refl _) _
        have hSA : (w3.alloc (.cells #[.string ⟨#[]⟩, .string ⟨#[112, 97, 116, 104]⟩, .string ⟨#[98, 101, 108, 111, 119]⟩, .string ⟨#[102, 105, 101, 108, 100]⟩] 9)).heap[qv1]? = some (.cells #[.int .i64 3, .string a, .string b, .int .i64 t] 25) := blk_below HBv1_3.out bw
        refine hK.out _ _ hSA (fun _ => ?_)
        clear hK K hSA bw hS3
        obtain ⟨qv2, hqv2⟩ : ∃ o, o = w3.heap.size := ⟨_, rfl⟩
        obtain ⟨w4, hXj⟩ : ∃ X, X = (w3.alloc (.cells #[.string ⟨#[]⟩, .string ⟨#[112, 97, 116, 104]⟩, .string ⟨#[98, 101, 108, 111, 119]⟩, .string ⟨#[102, 105, 101, 108, 100]⟩] 9)) := ⟨_, rfl⟩
        rw [← hqv2, ← hXj]
        have bw : Below w3.heap.size w3 w4 := by rw [hXj]; exact (Below.refl _ _).alloc (Nat.le_refl _) _
        have hb4 : Below w.heap.size w (w4) := hb3.trans (bw.mono hb3.size)
        have HM4 : Hid ((w3).heap.size ≤ (w4).heap.size) := bw.size
        have HBv1_4 : Hid ((w4).heap[qv1]? = some (.cells #[.int .i64 3, .string a, .string b, .int .i64 t] 25)) := blk_below HBv1_3.out bw
        have HNv1v2 : Hid (qv1 ≠ qv2) := fun e => by have h1 := (Array.getElem?_eq_some_iff.1 HBv1_3.out).1; omega
        have HBv2_4 : Hid ((w4).heap[qv2]? = some (.cells #[.string ⟨#[]⟩, .string ⟨#[112, 97, 116, 104]⟩, .string ⟨#[98, 101, 108, 111, 119]⟩, .string ⟨#[102, 105, 101, 108, 100]⟩] 9)) := by show _ = _; rw [hXj, hqv2]; exact heap_alloc_new _ _
        have HGv2 : Hid (w.heap.size ≤ qv2) := by show _ ≤ _; rw [hqv2]; exact hb3.size
        have hS4 : w4.heap[qv1]? = some (.cells #[.int .i64 3, .string a, .string b, .int .i64 t] 25) := HBv1_4.out
        clear hb3 HBv1_3 bw hXj hqv2
        refine wpAnyH_takeD (i := 3) (v := .pointer (some ⟨qv2, 3, none⟩)) (some 10) rfl rfl (by kernel_rfl) (by kernel_rfl) (by kernel_rfl) (fun _ _ _ h => h) (Or.inl ⟨by rfl, by intro W _; go_simp⟩) hS4 ?_
        simp only [Act.put, List.setIfInBounds_toArray, List.set_cons_zero, List.set_cons_succ]
        refine wpAnyH_ready (rs := [4, 9]) (by kernel_rfl) (by simp) ?_
        refine AllReadyH.cons rfl (fun K hK => ?_) (AllReadyH.cons rfl (fun K hK => ?_) AllReadyH.nil)
        · have ylt : (w4).cell? ⟨qv2, 3, none⟩ = some (.string ⟨#[102, 105, 101, 108, 100]⟩) := (cell_of HBv2_4.out 3).trans rfl
          go_simp
          refine hK.out _ _ hS4 (fun _ => ?_)
          clear hK K ylt
          refine wpAnyH_takeD (i := 5) (v := .string (⟨#[98, 97, 110, 32]⟩ ++ ⟨#[102, 105, 101, 108, 100]⟩)) (some 12) rfl rfl (by kernel_rfl) (by kernel_rfl) (by kernel_rfl) (fun _ _ _ h => h) (Or.inl ⟨by rfl, by intro W _; go_simp <;> omega⟩) hS4 ?_
          simp only [Act.put, List.setIfInBounds_toArray, List.set_cons_zero, List.set_cons_succ]
          refine wpAnyH_takeD (i := 6) (v := .string ((⟨#[98, 97, 110, 32]⟩ ++ ⟨#[102, 105, 101, 108, 100]⟩) ++ ⟨#[32]⟩)) (some 13) rfl rfl (by kernel_rfl) (by kernel_rfl) (by kernel_rfl) (fun _ _ _ h => h) (Or.inl ⟨by rfl, by intro W _; go_simp <;> omega⟩) hS4 ?_
          simp only [Act.put, List.setIfInBounds_toArray, List.set_cons_zero, List.set_cons_succ]
          refine wpAnyH_ready (rs := [9]) (by kernel_rfl) (by simp) ?_
          refine AllReadyH.cons rfl (fun K hK => ?_) AllReadyH.nil
          go_simp
          refine (specNumText_int t _ (by have := HT.out; omega) (by have := HT.out; omega)).mono ?_
          rintro e w5 ⟨rfl, bw⟩
          rw [HTT.out]
          have hb5 : Below w.heap.size w (w5) := hb4.trans (bw.mono hb4.size)
          have HM5 : Hid ((w4).heap.size ≤ (w5).heap.size) := bw.size
          have HBv1_5 : Hid ((w5).heap[qv1]? = some (.cells #[.int .i64 3, .string a, .string b, .int .i64 t] 25)) := blk_below HBv1_4.out bw
          have HBv2_5 : Hid ((w5).heap[qv2]? = some (.cells #[.string ⟨#[]⟩, .string ⟨#[112, 97, 116, 104]⟩, .string ⟨#[98, 101, 108, 111, 119]⟩, .string ⟨#[102, 105, 101, 108, 100]⟩] 9)) := blk_below HBv2_4.out bw
          clear hb4 HBv1_4 HBv2_4 bw
          have hS5 : w5.heap[qv1]? = some (.cells #[.int .i64 3, .string a, .string b, .int .i64 t] 25) := HBv1_5.out
          refine hK.out _ _ hS5 (fun _ => ?_)
          clear hK K hS4
          refine wpAnyH_takeD (i := 10) (v := .string (((⟨#[98, 97, 110, 32]⟩ ++ ⟨#[102, 105, 101, 108, 100]⟩) ++ ⟨#[32]⟩) ++ tt)) (some 17) rfl rfl (by kernel_rfl) (by kernel_rfl) (by kernel_rfl) (fun _ _ _ h => h) (Or.inl ⟨by rfl, by intro W _; go_simp <;> omega⟩) hS5 ?_
          simp only [Act.put, List.setIfInBounds_toArray, List.set_cons_zero, List.set_cons_succ]
          refine wpAnyH_takeD (i := 11) (v := .string ((((⟨#[98, 97, 110, 32]⟩ ++ ⟨#[102, 105, 101, 108, 100]⟩) ++ ⟨#[32]⟩) ++ tt) ++ ⟨#[32]⟩)) (some 18) rfl rfl (by kernel_rfl) (by kernel_rfl) (by kernel_rfl) (fun _ _ _ h => h) (Or.inl ⟨by rfl, by intro W _; go_simp <;> omega⟩) hS5 ?_
          simp only [Act.put, List.setIfInBounds_toArray, List.set_cons_zero, List.set_cons_succ]
          refine wpAnyH_takeD (i := 14) (v := .string (((((⟨#[98, 97, 110, 32]⟩ ++ ⟨#[102, 105, 101, 108, 100]⟩) ++ ⟨#[32]⟩) ++ tt) ++ ⟨#[32]⟩) ++ a)) (some 21) rfl rfl (by kernel_rfl) (by kernel_rfl) (by kernel_rfl) (fun _ _ _ h => h) (Or.inl ⟨by rfl, by intro W _; go_simp <;> omega⟩) hS5 ?_
          simp only [Act.put, List.setIfInBounds_toArray, List.set_cons_zero, List.set_cons_succ]
          refine wpAnyH_takeD (i := 15) (v := .string (((((⟨#[98, 97, 110, 32]⟩ ++ ⟨#[102, 105, 101, 108, 100]⟩) ++ ⟨#[32]⟩) ++ tt) ++ ⟨#[32]⟩) ++ a)) (some 3) rfl rfl (by kernel_rfl) (by kernel_rfl) (by kernel_rfl) (fun _ _ _ h => h) (Or.inl ⟨by rfl, by intro W _; go_simp⟩) hS5 ?_
          simp only [Act.put, List.setIfInBounds_toArray, List.set_cons_zero, List.set_cons_succ]
          clear hS5
          refine wpAnyH_done (by kernel_rfl) ?_ _
          have cv1_0 : (w5).cell? ⟨qv1, 0, none⟩ = some (.int .i64 3) := (cell_of HBv1_5.out 0).trans rfl
          have cv1_2 : (w5).cell? ⟨qv1, 2, none⟩ = some (.string b) := (cell_of HBv1_5.out 2).trans rfl
          go_wp2_with fail
          go_ret
          exact ⟨_, rfl, fun _ => by rw [← HTT.out, numTextI_of HT.out.1]; rfl, fun h => absurd HOK.out h, hb5⟩
        · go_simp
          refine (specNumText_int t _ (by have := HT.out; omega) (by have := HT.out; omega)).mono ?_
          rintro e w5 ⟨rfl, bw⟩
          rw [HTT.out]
          have hb5 : Below w.heap.size w (w5) := hb4.trans (bw.mono hb4.size)
          have HM5 : Hid ((w4).heap.size ≤ (w5).heap.size) := bw.size
          have HBv1_5 : Hid ((w5).heap[qv1]? = some (.cells #[.int .i64 3, .string a, .string b, .int .i64 t] 25)) := blk_below HBv1_4.out bw
          have HBv2_5 : Hid ((w5).heap[qv2]? = some (.cells #[.string ⟨#[]⟩, .string ⟨#[112, 97, 116, 104]⟩, .string ⟨#[98, 101, 108, 111, 119]⟩, .string ⟨#[102, 105, 101, 108, 100]⟩] 9)) := blk_below HBv2_4.out bw
          clear hb4 HBv1_4 HBv2_4 bw
          have hS5 : w5.heap[qv1]? = some (.cells #[.int .i64 3, .string a, .string b, .int .i64 t] 25) := HBv1_5.out
          refine hK.out _ _ hS5 (fun _ => ?_)
          clear hK K hS4
          refine wpAnyH_ready (rs := [4]) (by kernel_rfl) (by simp) ?_
          refine AllReadyH.cons rfl (fun K hK => ?_) AllReadyH.nil
          have ylt : (w5).cell? ⟨qv2, 3, none⟩ = some (.string ⟨#[102, 105, 101, 108, 100]⟩) := (cell_of HBv2_5.out 3).trans rfl
          go_simp
          refine hK.out _ _ hS5 (fun _ => ?_)
          clear hK K ylt
          refine wpAnyH_takeD (i := 5) (v := .string (⟨#[98, 97, 110, 32]⟩ ++ ⟨#[102, 105, 101, 108, 100]⟩)) (some 12) rfl rfl (by kernel_rfl) (by kernel_rfl) (by kernel_rfl) (fun _ _ _ h => h) (Or.inl ⟨by rfl, by intro W _; go_simp <;> omega⟩) hS5 ?_
          simp only [Act.put, List.setIfInBounds_toArray, List.set_cons_zero, List.set_cons_succ]
          refine wpAnyH_takeD (i := 6) (v := .string ((⟨#[98, 97, 110, 32]⟩ ++ ⟨#[102, 105, 101, 108, 100]⟩) ++ ⟨#[32]⟩)) (some 13) rfl rfl (by kernel_rfl) (by kernel_rfl) (by kernel_rfl) (fun _ _ _ h => h) (Or.inl ⟨by rfl, by intro W _; go_simp <;> omega⟩) hS5 ?_
          simp only [Act.put, List.setIfInBounds_toArray, List.set_cons_zero, List.set_cons_succ]
          refine wpAnyH_takeD (i := 10) (v := .string (((⟨#[98, 97, 110, 32]⟩ ++ ⟨#[102, 105, 101, 108, 100]⟩) ++ ⟨#[32]⟩) ++ tt)) (some 17) rfl rfl (by kernel_rfl) (by kernel_rfl) (by kernel_rfl) (fun _ _ _ h => h) (Or.inl ⟨by rfl, by intro W _; go_simp <;> omega⟩) hS5 ?_
          simp only [Act.put, List.setIfInBounds_toArray, List.set_cons_zero, List.set_cons_succ]
          refine wpAnyH_takeD (i := 11) (v := .string ((((⟨#[98, 97, 110, 32]⟩ ++ ⟨#[102, 105, 101, 108, 100]⟩) ++ ⟨#[32]⟩) ++ tt) ++ ⟨#[32]⟩)) (some 18) rfl rfl (by kernel_rfl) (by kernel_rfl) (by kernel_rfl) (fun _ _ _ h => h) (Or.inl ⟨by rfl, by intro W _; go_simp <;> omega⟩) hS5 ?_
          simp only [Act.put, List.setIfInBounds_toArray, List.set_cons_zero, List.set_cons_succ]
          refine wpAnyH_takeD (i := 14) (v := .string (((((⟨#[98, 97, 110, 32]⟩ ++ ⟨#[102, 105, 101, 108, 100]⟩) ++ ⟨#[32]⟩) ++ tt) ++ ⟨#[32]⟩) ++ a)) (some 21) rfl rfl (by kernel_rfl) (by kernel_rfl) (by kernel_rfl) (fun _ _ _ h => h) (Or.inl ⟨by rfl, by intro W _; go_simp <;> omega⟩) hS5 ?_
          simp only [Act.put, List.setIfInBounds_toArray, List.set_cons_zero, List.set_cons_succ]
          refine wpAnyH_takeD (i := 15) (v := .string (((((⟨#[98, 97, 110, 32]⟩ ++ ⟨#[102, 105, 101, 108, 100]⟩) ++ ⟨#[32]⟩) ++ tt) ++ ⟨#[32]⟩) ++ a)) (some 3) rfl rfl (by kernel_rfl) (by kernel_rfl) (by kernel_rfl) (fun _ _ _ h => h) (Or.inl ⟨by rfl, by intro W _; go_simp⟩) hS5 ?_
          simp only [Act.put, List.setIfInBounds_toArray, List.set_cons_zero, List.set_cons_succ]
          clear hS5
          refine wpAnyH_done (by kernel_rfl) ?_ _
          have cv1_0 : (w5).cell? ⟨qv1, 0, none⟩ = some (.int .i64 3) := (cell_of HBv1_5.out 0).trans rfl
          have cv1_2 : (w5).cell? ⟨qv1, 2, none⟩ = some (.string b) := (cell_of HBv1_5.out 2).trans rfl
          go_wp2_with fail
          go_ret
          exact ⟨_, rfl, fun _ => by rw [← HTT.out, numTextI_of HT.out.1]; rfl, fun h => absurd HOK.out h, hb5⟩
      · go_simp
        refine (specNumText_int t _ (by have := HT.out; omega) (by have := HT.out; omega)).mono ?_
        rintro e w4 ⟨rfl, bw⟩
        rw [HTT.out]
        have hb4 : Below w.heap.size w (w4) := hb3.trans (bw.mono hb3.size)
        have HM4 : Hid ((w3).heap.size ≤ (w4).heap.size) := bw.size
        have HBv1_4 : Hid ((w4).heap[qv1]? = some (.cells #[.int .i64 3, .string a, .string b, .int .i64 t] 25)) := blk_below HBv1_3.out bw
        clear hb3 HBv1_3 bw
        have hS4 : w4.heap[qv1]? = some (.cells #[.int .i64 3, .string a, .string b, .int .i64 t] 25) := HBv1_4.out
        refine hK.out _ _ hS4 (fun _ => ?_)
        clear hK K hS3
        refine wpAnyH_ready (rs := [0]) (by kernel_rfl) (by simp) ?_
        refine AllReadyH.cons rfl (fun K hK => ?_) AllReadyH.nil
        go_simp
        have bw : Below w4.heap.size w4 (w4.alloc (.cells #[.string ⟨#[]⟩, .string ⟨#[112, 97, 116, 104]⟩, .string ⟨#[98, 101, 108, 111, 119]⟩, .string ⟨#[102, 105, 101, 108, 100]⟩] 9)) := (Below.refl _ _).alloc (Nat.le_refl _) _
        have hSA : (w4.alloc (.cells #[.string ⟨#[]⟩, .string ⟨#[112, 97, 116, 104]⟩, .string ⟨#[98, 101, 108, 111, 119]⟩, .string ⟨#[102, 105, 101, 108, 100]⟩] 9)).heap[qv1]? = some (.cells #[.int .i64 3, .string a, .string b, .int .i64 t] 25) := blk_below HBv1_4.out bw
        refine hK.out _ _ hSA (fun _ => ?_)
        clear hK K hSA bw hS4
        obtain ⟨qv2, hqv2⟩ : ∃ o, o = w4.heap.size := ⟨_, rfl⟩
        obtain ⟨w5, hXj⟩ : ∃ X, X = (w4.alloc (.cells #[.string ⟨#[]⟩, .string ⟨#[112, 97, 116, 104]⟩, .string ⟨#[98, 101, 108, 111, 119]⟩, .string ⟨#[102, 105, 101, 108, 100]⟩] 9)) := ⟨_, rfl⟩
        rw [← hqv2, ← hXj]
        have bw : Below w4.heap.size w4 w5 := by rw [hXj]; exact (Below.refl _ _).alloc (Nat.le_refl _) _
        have hb5 : Below w.heap.size w (w5) := hb4.trans (bw.mono hb4.size)
        have HM5 : Hid ((w4).heap.size ≤ (w5).heap.size) := bw.size
        have HBv1_5 : Hid ((w5).heap[qv1]? = some (.cells #[.int .i64 3, .string a, .string b, .int .i64 t] 25)) := blk_below HBv1_4.out bw
        have HNv1v2 : Hid (qv1 ≠ qv2) := fun e => by have h1 := (Array.getElem?_eq_some_iff.1 HBv1_4.out).1; omega
        have HBv2_5 : Hid ((w5).heap[qv2]? = some (.cells #[.string ⟨#[]⟩, .string ⟨#[112, 97, 116, 104]⟩, .string ⟨#[98, 101, 108, 111, 119]⟩, .string ⟨#[102, 105, 101, 108, 100]⟩] 9)) := by show _ = _; rw [hXj, hqv2]; exact heap_alloc_new _ _
        have HGv2 : Hid (w.heap.size ≤ qv2) := by show _ ≤ _; rw [hqv2]; exact hb4.size
        have hS5 : w5.heap[qv1]? = some (.cells #[.int .i64 3, .string a, .string b, .int .i64 t] 25) := HBv1_5.out
        clear hb4 HBv1_4 bw hXj hqv2
        refine wpAnyH_takeD (i := 3) (v := .pointer (some ⟨qv2, 3, none⟩)) (some 10) rfl rfl (by kernel_rfl) (by kernel_rfl) (by kernel_rfl) (fun _ _ _ h => h) (Or.inl ⟨by rfl, by intro W _; go_simp⟩) hS5 ?_
        simp only [Act.put, List.setIfInBounds_toArray, List.set_cons_zero, List.set_cons_succ]
        refine wpAnyH_ready (rs := [4]) (by kernel_rfl) (by simp) ?_
        refine AllReadyH.cons rfl (fun K hK => ?_) AllReadyH.nil
        have ylt : (w5).cell? ⟨qv2, 3, none⟩ = some (.string ⟨#[102, 105, 101, 108, 100]⟩) := (cell_of HBv2_5.out 3).trans rfl
        go_simp
        refine hK.out _ _ hS5 (fun _ => ?_)
        clear hK K ylt
        refine wpAnyH_takeD (i := 5) (v := .string (⟨#[98, 97, 110, 32]⟩ ++ ⟨#[102, 105, 101, 108, 100]⟩)) (some 12) rfl rfl (by kernel_rfl) (by kernel_rfl) (by kernel_rfl) (fun _ _ _ h => h) (Or.inl ⟨by rfl, by intro W _; go_simp <;> omega⟩) hS5 ?_
        simp only [Act.put, List.setIfInBounds_toArray, List.set_cons_zero, List.set_cons_succ]
        refine wpAnyH_takeD (i := 6) (v := .string ((⟨#[98, 97, 110, 32]⟩ ++ ⟨#[102, 105, 101, 108, 100]⟩) ++ ⟨#[32]⟩)) (some 13) rfl rfl (by kernel_rfl) (by kernel_rfl) (by kernel_rfl) (fun _ _ _ h => h) (Or.inl ⟨by rfl, by intro W _; go_simp <;> omega⟩) hS5 ?_
        simp only [Act.put, List.setIfInBounds_toArray, List.set_cons_zero, List.set_cons_succ]
        refine wpAnyH_takeD (i := 10) (v := .string (((⟨#[98, 97, 110, 32]⟩ ++ ⟨#[102, 105, 101, 108, 100]⟩) ++ ⟨#[32]⟩) ++ tt)) (some 17) rfl rfl (by kernel_rfl) (by kernel_rfl) (by kernel_rfl) (fun _ _ _ h => h) (Or.inl ⟨by rfl, by intro W _; go_simp <;> omega⟩) hS5 ?_
        simp only [Act.put, List.setIfInBounds_toArray, List.set_cons_zero, List.set_cons_succ]
        refine wpAnyH_takeD (i := 11) (v := .string ((((⟨#[98, 97, 110, 32]⟩ ++ ⟨#[102, 105, 101, 108, 100]⟩) ++ ⟨#[32]⟩) ++ tt) ++ ⟨#[32]⟩)) (some 18) rfl rfl (by kernel_rfl) (by kernel_rfl) (by kernel_rfl) (fun _ _ _ h => h) (Or.inl ⟨by rfl, by intro W _; go_simp <;> omega⟩) hS5 ?_
        simp only [Act.put, List.setIfInBounds_toArray, List.set_cons_zero, List.set_cons_succ]
        refine wpAnyH_takeD (i := 14) (v := .string (((((⟨#[98, 97, 110, 32]⟩ ++ ⟨#[102, 105, 101, 108, 100]⟩) ++ ⟨#[32]⟩) ++ tt) ++ ⟨#[32]⟩) ++ a)) (some 21) rfl rfl (by kernel_rfl) (by kernel_rfl) (by kernel_rfl) (fun _ _ _ h => h) (Or.inl ⟨by rfl, by intro W _; go_simp <;> omega⟩) hS5 ?_
        simp only [Act.put, List.setIfInBounds_toArray, List.set_cons_zero, List.set_cons_succ]
        refine wpAnyH_takeD (i := 15) (v := .string (((((⟨#[98, 97, 110, 32]⟩ ++ ⟨#[102, 105, 101, 108, 100]⟩) ++ ⟨#[32]⟩) ++ tt) ++ ⟨#[32]⟩) ++ a)) (some 3) rfl rfl (by kernel_rfl) (by kernel_rfl) (by kernel_rfl) (fun _ _ _ h => h) (Or.inl ⟨by rfl, by intro W _; go_simp⟩) hS5 ?_
        simp only [Act.put, List.setIfInBounds_toArray, List.set_cons_zero, List.set_cons_succ]
        clear hS5
        refine wpAnyH_done (by kernel_rfl) ?_ _
        have cv1_0 : (w5).cell? ⟨qv1, 0, none⟩ = some (.int .i64 3) := (cell_of HBv1_5.out 0).trans rfl
        have cv1_2 : (w5).cell? ⟨qv1, 2, none⟩ = some (.string b) := (cell_of HBv1_5.out 2).trans rfl
        go_wp2_with fail
        go_ret
        exact ⟨_, rfl, fun _ => by rw [← HTT.out, numTextI_of HT.out.1]; rfl, fun h => absurd HOK.out h, hb5⟩

end Go.Proofs.YtlmenolcgaakeaaDoor

namespace Go.Proofs.YtlmenolcgaakeaaDoor
open Go.RowKit
open Go.Lib hiding intOf

/-- A drawn ban of short texts; the cursor alone was turned. -/
def BanDrawn (w : World) (c : Nat) (a : Option Addr) (len cap : Nat) (e : Ending) (w' : World) : Prop :=
  ∃ (k : Int) (p b : ByteArray) (t : Int), e = .returned (.agg #[.int .i64 k, .string p, .string b, .int .i64 t]) ∧ (-10 ≤ k ∧ k ≤ 10) ∧ p.size ≤ 64 ∧ b.size ≤ 64 ∧ (-9223372036854775808 ≤ t ∧ t ≤ 9223372036854775807) ∧ CurAt w' c a len cap ∧ w.grownBy w' (some c)
def BanDrew (w : World) (e : Ending) (w' : World) : Prop :=
  ∃ (k : Int) (p b : ByteArray) (t : Int), e = .returned (.agg #[.int .i64 k, .string p, .string b, .int .i64 t]) ∧ (-10 ≤ k ∧ k ≤ 10) ∧ p.size ≤ 64 ∧ b.size ≤ 64 ∧ (-9223372036854775808 ≤ t ∧ t ≤ 9223372036854775807) ∧ Below w.heap.size w w'

set_option maxHeartbeats 8000000 in
set_option maxRecDepth 100000 in
theorem l11DrawRight_any (t : Int) (ht : -9223372036854775808 ≤ t ∧ t ≤ 9223372036854775807) (c B : Nat) (a : Option Addr) (len cap : Nat) (zs : List Int) (w : World) (hcur : CurAt w c a len cap) (hcode : CodeAt w B a len zs) (hB : B ≤ c) :
    Calls Tryd.prog 28 #[.pointer (some ⟨c, 0, none⟩), .int .i64 t] w fun e w' => BanDrawn w c a len cap e w' := by
  have HCO : Hid (∀ W, w.grownBy W (some c) → CodeAt W B a len zs) := fun W h => hcode.grown h hB
  have HBC : Hid (B ≤ c) := hB
  have EU_0 : Hid (CurAt w c a len cap) := hcur
  clear hcode hB hcur
  have HTT : Hid (-9223372036854775808 ≤ t ∧ t ≤ 9223372036854775807) := ht
  clear ht
  have hb0 : w.grownBy w (some c) := World.grownBy.refl _ _
  go_enter Tryd.func28, Tryd.ntmps28
  go_upto_region 1 with fail
  obtain ⟨qv1, hqv1⟩ : ∃ q, q = (w).heap.size := ⟨_, rfl⟩
  obtain ⟨w1, hW1⟩ : ∃ W, W = (w).alloc (.cells #[.int .i64 0, .string ⟨#[]⟩, .string ⟨#[]⟩, .int .i64 0] 25) := ⟨_, rfl⟩
  have hz1 : (w).heap.size = qv1 := hqv1.symm
  first | rw [← hW1, ← hqv1] | rw [← hW1]
  have hs1 : w1.heap.size = qv1 + 1 := by rw [hW1, ← hz1]; simp
  have bw : Below (w).heap.size (w) w1 := by rw [hW1]; exact (Below.refl _ _).alloc (Nat.le_refl _) _
  have hb1 : w.grownBy w1 (some c) := grown_then hb0 (grown_below bw _)
  have HM1 : Hid ((w).heap.size ≤ (w1).heap.size) := bw.size
  have EU_1 : Hid (CurAt w1 c a len cap) := EU_0.out.below bw EU_0.out.lt
  have HBv1_1 : Hid ((w1).heap[qv1]? = some (.cells #[.int .i64 0, .string ⟨#[]⟩, .string ⟨#[]⟩, .int .i64 0] 25)) := by show _ = _; rw [hW1, ← hz1]; exact heap_alloc_new _ _
  have HGv1 : Hid (w.heap.size ≤ qv1) := by show _ ≤ _; rw [← hz1]; exact hb0.size
  have HNCv1 : Hid (qv1 ≠ c) := fun e => by have h1 := EU_0.out.lt; omega
  clear hb0 EU_0 bw hW1 hz1
  clear hs1 hqv1
  go_wp2_with fail
  refine (l1Below_any c B 3 a len cap zs _ EU_1.out (HCO.out _ hb1) HBC.out (by decide) (by decide)).mono ?_
  rintro e w2 ⟨n1, rfl, hn01, hn11, hcu, hg⟩
  have hb2 : w.grownBy w2 (some c) := grown_then hb1 hg
  have HM2 : Hid ((w1).heap.size ≤ (w2).heap.size) := hg.size
  have HBv1_2 : Hid ((w2).heap[qv1]? = some (.cells #[.int .i64 0, .string ⟨#[]⟩, .string ⟨#[]⟩, .int .i64 0] 25)) := (hg.block _ (Array.getElem?_eq_some_iff.1 HBv1_1.out).1 (fun e => HNCv1.out (Option.some.inj e))).trans HBv1_1.out
  have EU_2 : Hid (CurAt w2 c a len cap) := hcu
  clear hb1 HBv1_1 EU_1 hg hcu
  by_cases hc1 : n1 = 0
  · have hc1b : ((n1 : Int) == (0 : Int)) = true := by simpa using hc1
    have hc1n : ((n1 : Int) != (0 : Int)) = false := by simpa using hc1
    have hc1H : Hid (n1 = 0) := hc1
    clear hc1
    go_wp2_with fail
    obtain ⟨qv2, hqv2⟩ : ∃ q, q = (w2).heap.size := ⟨_, rfl⟩
    obtain ⟨w3, hW3⟩ : ∃ W, W = (w2).alloc (.cells #[.string ⟨#[47]⟩, .string ⟨#[47, 97]⟩, .string ⟨#[47, 97, 47, 98]⟩, .string ⟨#[47, 98]⟩] 9) := ⟨_, rfl⟩
    have hz3 : (w2).heap.size = qv2 := hqv2.symm
    first | rw [← hW3, ← hqv2] | rw [← hW3]
    have hs3 : w3.heap.size = qv2 + 1 := by rw [hW3, ← hz3]; simp
    have bw : Below (w2).heap.size (w2) w3 := by rw [hW3]; exact (Below.refl _ _).alloc (Nat.le_refl _) _
    have hb3 : w.grownBy w3 (some c) := grown_then hb2 (grown_below bw _)
    have HM3 : Hid ((w2).heap.size ≤ (w3).heap.size) := bw.size
    have HBv1_3 : Hid ((w3).heap[qv1]? = some (.cells #[.int .i64 0, .string ⟨#[]⟩, .string ⟨#[]⟩, .int .i64 0] 25)) := blk_below HBv1_2.out bw
    have EU_3 : Hid (CurAt w3 c a len cap) := EU_2.out.below bw EU_2.out.lt
    have HNv1v2 : Hid (qv1 ≠ qv2) := fun e => by have h1 := (Array.getElem?_eq_some_iff.1 HBv1_2.out).1; omega
    have HBv2_3 : Hid ((w3).heap[qv2]? = some (.cells #[.string ⟨#[47]⟩, .string ⟨#[47, 97]⟩, .string ⟨#[47, 97, 47, 98]⟩, .string ⟨#[47, 98]⟩] 9)) := by show _ = _; rw [hW3, ← hz3]; exact heap_alloc_new _ _
    have HGv2 : Hid (w.heap.size ≤ qv2) := by show _ ≤ _; rw [← hz3]; exact hb2.size
    have HNCv2 : Hid (qv2 ≠ c) := fun e => by have h1 := EU_2.out.lt; omega
    clear hb2 HBv1_2 EU_2 bw hW3 hz3
    clear hs3 hqv2
    have HLS : Hid (ListAt w3 qv2 4 (textAt [⟨#[47]⟩, ⟨#[47, 97]⟩, ⟨#[47, 97, 47, 98]⟩, ⟨#[47, 98]⟩])) := by
      intro j hj
      match j, hj with
      | 0, _ => exact (cell_of HBv2_3.out 0).trans rfl
      | 1, _ => exact (cell_of HBv2_3.out 1).trans rfl
      | 2, _ => exact (cell_of HBv2_3.out 2).trans rfl
      | 3, _ => exact (cell_of HBv2_3.out 3).trans rfl
    refine (l1Pick_any c B qv2 4 (textAt [⟨#[47]⟩, ⟨#[47, 97]⟩, ⟨#[47, 97, 47, 98]⟩, ⟨#[47, 98]⟩]) a len cap zs _ EU_3.out (HCO.out _ hb3) HBC.out (by decide) (by decide) HLS.out HNCv2.out).mono ?_
    rintro e w4 ⟨jx, hjx, rfl, hcu, hg⟩
    obtain ⟨x2, hx2⟩ : ∃ x, x = textAt [⟨#[47]⟩, ⟨#[47, 97]⟩, ⟨#[47, 97, 47, 98]⟩, ⟨#[47, 98]⟩] jx := ⟨_, rfl⟩
    rw [← hx2]
    have HXx2 : Hid (x2.size ≤ 64) := by show _ ≤ _; rw [hx2]; exact (show ∀ j, j < 4 → (textAt [⟨#[47]⟩, ⟨#[47, 97]⟩, ⟨#[47, 97, 47, 98]⟩, ⟨#[47, 98]⟩] j).size ≤ 64 by decide) jx hjx
    clear hx2 hjx HLS
    have hb4 : w.grownBy w4 (some c) := grown_then hb3 hg
    have HM4 : Hid ((w3).heap.size ≤ (w4).heap.size) := hg.size
    have HBv1_4 : Hid ((w4).heap[qv1]? = some (.cells #[.int .i64 0, .string ⟨#[]⟩, .string ⟨#[]⟩, .int .i64 0] 25)) := (hg.block _ (Array.getElem?_eq_some_iff.1 HBv1_3.out).1 (fun e => HNCv1.out (Option.some.inj e))).trans HBv1_3.out
    have HBv2_4 : Hid ((w4).heap[qv2]? = some (.cells #[.string ⟨#[47]⟩, .string ⟨#[47, 97]⟩, .string ⟨#[47, 97, 47, 98]⟩, .string ⟨#[47, 98]⟩] 9)) := (hg.block _ (Array.getElem?_eq_some_iff.1 HBv2_3.out).1 (fun e => HNCv2.out (Option.some.inj e))).trans HBv2_3.out
    have EU_4 : Hid (CurAt w4 c a len cap) := hcu
    clear hb3 HBv1_3 HBv2_3 EU_3 hg hcu
    clear HBv2_4
    have cv1_0 : (w4).cell? ⟨qv1, 0, none⟩ = some (.int .i64 0) := (cell_of HBv1_4.out 0).trans rfl
    have fcv1_0 : (w4).frozen? ⟨qv1, 0, none⟩ = false := frozen_of HBv1_4.out 0
    have cv1_1 : (w4).cell? ⟨qv1, 1, none⟩ = some (.string ⟨#[]⟩) := (cell_of HBv1_4.out 1).trans rfl
    have fcv1_1 : (w4).frozen? ⟨qv1, 1, none⟩ = false := frozen_of HBv1_4.out 1
    have cv1_2 : (w4).cell? ⟨qv1, 2, none⟩ = some (.string ⟨#[]⟩) := (cell_of HBv1_4.out 2).trans rfl
    have fcv1_2 : (w4).frozen? ⟨qv1, 2, none⟩ = false := frozen_of HBv1_4.out 2
    have cv1_3 : (w4).cell? ⟨qv1, 3, none⟩ = some (.int .i64 0) := (cell_of HBv1_4.out 3).trans rfl
    have fcv1_3 : (w4).frozen? ⟨qv1, 3, none⟩ = false := frozen_of HBv1_4.out 3
    go_wp2_with fail
    obtain ⟨w5, hW5⟩ : ∃ W, W = (w4).setCell ⟨qv1, 0, none⟩ (.int .i64 1) := ⟨_, rfl⟩
    rw [← hW5]
    have hb5 : w.grownBy w5 (some c) := by rw [hW5]; exact (grown_own hb4 HGv1.out 0 _)
    have HM5 : Hid ((w4).heap.size ≤ w5.heap.size) := by show _ ≤ _; rw [hW5]; simp
    have EU_5 : Hid (CurAt w5 c a len cap) := by show CurAt _ _ _ _ _; rw [hW5]; exact cur_set EU_4.out HNCv1.out _ _
    have HBv1_5 : Hid ((w5).heap[qv1]? = some (.cells #[.int .i64 1, .string ⟨#[]⟩, .string ⟨#[]⟩, .int .i64 0] 25)) := by show _ = _; rw [hW5]; have h := heap_set _ _ 0 _ _ _ (.int .i64 1) HBv1_4.out; simpa using h
    clear hb4 HBv1_4 EU_4 hW5
    obtain ⟨w6, hW6⟩ : ∃ W, W = (w5).setCell ⟨qv1, 1, none⟩ (.string x2) := ⟨_, rfl⟩
    rw [← hW6]
    have hb6 : w.grownBy w6 (some c) := by rw [hW6]; exact (grown_own hb5 HGv1.out 1 _)
    have HM6 : Hid ((w5).heap.size ≤ w6.heap.size) := by show _ ≤ _; rw [hW6]; simp
    have EU_6 : Hid (CurAt w6 c a len cap) := by show CurAt _ _ _ _ _; rw [hW6]; exact cur_set EU_5.out HNCv1.out _ _
    have HBv1_6 : Hid ((w6).heap[qv1]? = some (.cells #[.int .i64 1, .string x2, .string ⟨#[]⟩, .int .i64 0] 25)) := by show _ = _; rw [hW6]; have h := heap_set _ _ 1 _ _ _ (.string x2) HBv1_5.out; simpa using h
    clear hb5 HBv1_5 EU_5 hW6
    obtain ⟨w7, hW7⟩ : ∃ W, W = (w6).setCell ⟨qv1, 2, none⟩ (.string ⟨#[]⟩) := ⟨_, rfl⟩
    rw [← hW7]
    have hb7 : w.grownBy w7 (some c) := by rw [hW7]; exact (grown_own hb6 HGv1.out 2 _)
    have HM7 : Hid ((w6).heap.size ≤ w7.heap.size) := by show _ ≤ _; rw [hW7]; simp
    have EU_7 : Hid (CurAt w7 c a len cap) := by show CurAt _ _ _ _ _; rw [hW7]; exact cur_set EU_6.out HNCv1.out _ _
    have HBv1_7 : Hid ((w7).heap[qv1]? = some (.cells #[.int .i64 1, .string x2, .string ⟨#[]⟩, .int .i64 0] 25)) := by show _ = _; rw [hW7]; have h := heap_set _ _ 2 _ _ _ (.string ⟨#[]⟩) HBv1_6.out; simpa using h
    clear hb6 HBv1_6 EU_6 hW7
    obtain ⟨w8, hW8⟩ : ∃ W, W = (w7).setCell ⟨qv1, 3, none⟩ (.int .i64 t) := ⟨_, rfl⟩
    rw [← hW8]
    have hb8 : w.grownBy w8 (some c) := by rw [hW8]; exact (grown_own hb7 HGv1.out 3 _)
    have HM8 : Hid ((w7).heap.size ≤ w8.heap.size) := by show _ ≤ _; rw [hW8]; simp
    have EU_8 : Hid (CurAt w8 c a len cap) := by show CurAt _ _ _ _ _; rw [hW8]; exact cur_set EU_7.out HNCv1.out _ _
    have HBv1_8 : Hid ((w8).heap[qv1]? = some (.cells #[.int .i64 1, .string x2, .string ⟨#[]⟩, .int .i64 t] 25)) := by show _ = _; rw [hW8]; have h := heap_set _ _ 3 _ _ _ (.int .i64 t) HBv1_7.out; simpa using h
    clear hb7 HBv1_7 EU_7 hW8
    have kv1_0 : (w8).cell? ⟨qv1, 0, none⟩ = some (.int .i64 1) := (cell_of HBv1_8.out 0).trans rfl
    have kv1_1 : (w8).cell? ⟨qv1, 1, none⟩ = some (.string x2) := (cell_of HBv1_8.out 1).trans rfl
    have kv1_2 : (w8).cell? ⟨qv1, 2, none⟩ = some (.string ⟨#[]⟩) := (cell_of HBv1_8.out 2).trans rfl
    have kv1_3 : (w8).cell? ⟨qv1, 3, none⟩ = some (.int .i64 t) := (cell_of HBv1_8.out 3).trans rfl
    refine bodyPost_ret (v := .agg #[.int .i64 1, .string x2, .string ⟨#[]⟩, .int .i64 t]) (by simp [results, Tryd.results28, go_sem, kv1_0, kv1_1, kv1_2, kv1_3]) rfl ?_
    exact ⟨_, _, _, _, rfl, (by constructor <;> omega), HXx2.out, (by decide), HTT.out, EU_8.out, hb8⟩
  · have hc1b : ((n1 : Int) == (0 : Int)) = false := by simpa using hc1
    have hc1n : ((n1 : Int) != (0 : Int)) = true := by simpa using hc1
    have hc1H : Hid (¬ (n1 = 0)) := hc1
    clear hc1
    by_cases hc2 : n1 = 1
    · have hc2b : ((n1 : Int) == (1 : Int)) = true := by simpa using hc2
      have hc2n : ((n1 : Int) != (1 : Int)) = false := by simpa using hc2
      have hc2H : Hid (n1 = 1) := hc2
      clear hc2
      go_wp2_with fail
      obtain ⟨qv2, hqv2⟩ : ∃ q, q = (w2).heap.size := ⟨_, rfl⟩
      obtain ⟨w3, hW3⟩ : ∃ W, W = (w2).alloc (.cells #[.string ⟨#[47]⟩, .string ⟨#[47, 97]⟩, .string ⟨#[47, 98, 47, 99]⟩] 9) := ⟨_, rfl⟩
      have hz3 : (w2).heap.size = qv2 := hqv2.symm
      first | rw [← hW3, ← hqv2] | rw [← hW3]
      have hs3 : w3.heap.size = qv2 + 1 := by rw [hW3, ← hz3]; simp
      have bw : Below (w2).heap.size (w2) w3 := by rw [hW3]; exact (Below.refl _ _).alloc (Nat.le_refl _) _
      have hb3 : w.grownBy w3 (some c) := grown_then hb2 (grown_below bw _)
      have HM3 : Hid ((w2).heap.size ≤ (w3).heap.size) := bw.size
      have HBv1_3 : Hid ((w3).heap[qv1]? = some (.cells #[.int .i64 0, .string ⟨#[]⟩, .string ⟨#[]⟩, .int .i64 0] 25)) := blk_below HBv1_2.out bw
      have EU_3 : Hid (CurAt w3 c a len cap) := EU_2.out.below bw EU_2.out.lt
      have HNv1v2 : Hid (qv1 ≠ qv2) := fun e => by have h1 := (Array.getElem?_eq_some_iff.1 HBv1_2.out).1; omega
      have HBv2_3 : Hid ((w3).heap[qv2]? = some (.cells #[.string ⟨#[47]⟩, .string ⟨#[47, 97]⟩, .string ⟨#[47, 98, 47, 99]⟩] 9)) := by show _ = _; rw [hW3, ← hz3]; exact heap_alloc_new _ _
      have HGv2 : Hid (w.heap.size ≤ qv2) := by show _ ≤ _; rw [← hz3]; exact hb2.size
      have HNCv2 : Hid (qv2 ≠ c) := fun e => by have h1 := EU_2.out.lt; omega
      clear hb2 HBv1_2 EU_2 bw hW3 hz3
      clear hs3 hqv2
      have HLS : Hid (ListAt w3 qv2 3 (textAt [⟨#[47]⟩, ⟨#[47, 97]⟩, ⟨#[47, 98, 47, 99]⟩])) := by
        intro j hj
        match j, hj with
        | 0, _ => exact (cell_of HBv2_3.out 0).trans rfl
        | 1, _ => exact (cell_of HBv2_3.out 1).trans rfl
        | 2, _ => exact (cell_of HBv2_3.out 2).trans rfl
      refine (l1Pick_any c B qv2 3 (textAt [⟨#[47]⟩, ⟨#[47, 97]⟩, ⟨#[47, 98, 47, 99]⟩]) a len cap zs _ EU_3.out (HCO.out _ hb3) HBC.out (by decide) (by decide) HLS.out HNCv2.out).mono ?_
      rintro e w4 ⟨jx, hjx, rfl, hcu, hg⟩
      obtain ⟨x2, hx2⟩ : ∃ x, x = textAt [⟨#[47]⟩, ⟨#[47, 97]⟩, ⟨#[47, 98, 47, 99]⟩] jx := ⟨_, rfl⟩
      rw [← hx2]
      have HXx2 : Hid (x2.size ≤ 64) := by show _ ≤ _; rw [hx2]; exact (show ∀ j, j < 3 → (textAt [⟨#[47]⟩, ⟨#[47, 97]⟩, ⟨#[47, 98, 47, 99]⟩] j).size ≤ 64 by decide) jx hjx
      clear hx2 hjx HLS
      have hb4 : w.grownBy w4 (some c) := grown_then hb3 hg
      have HM4 : Hid ((w3).heap.size ≤ (w4).heap.size) := hg.size
      have HBv1_4 : Hid ((w4).heap[qv1]? = some (.cells #[.int .i64 0, .string ⟨#[]⟩, .string ⟨#[]⟩, .int .i64 0] 25)) := (hg.block _ (Array.getElem?_eq_some_iff.1 HBv1_3.out).1 (fun e => HNCv1.out (Option.some.inj e))).trans HBv1_3.out
      have HBv2_4 : Hid ((w4).heap[qv2]? = some (.cells #[.string ⟨#[47]⟩, .string ⟨#[47, 97]⟩, .string ⟨#[47, 98, 47, 99]⟩] 9)) := (hg.block _ (Array.getElem?_eq_some_iff.1 HBv2_3.out).1 (fun e => HNCv2.out (Option.some.inj e))).trans HBv2_3.out
      have EU_4 : Hid (CurAt w4 c a len cap) := hcu
      clear hb3 HBv1_3 HBv2_3 EU_3 hg hcu
      clear HBv2_4
      have cv1_0 : (w4).cell? ⟨qv1, 0, none⟩ = some (.int .i64 0) := (cell_of HBv1_4.out 0).trans rfl
      have fcv1_0 : (w4).frozen? ⟨qv1, 0, none⟩ = false := frozen_of HBv1_4.out 0
      have cv1_1 : (w4).cell? ⟨qv1, 1, none⟩ = some (.string ⟨#[]⟩) := (cell_of HBv1_4.out 1).trans rfl
      have fcv1_1 : (w4).frozen? ⟨qv1, 1, none⟩ = false := frozen_of HBv1_4.out 1
      have cv1_2 : (w4).cell? ⟨qv1, 2, none⟩ = some (.string ⟨#[]⟩) := (cell_of HBv1_4.out 2).trans rfl
      have fcv1_2 : (w4).frozen? ⟨qv1, 2, none⟩ = false := frozen_of HBv1_4.out 2
      have cv1_3 : (w4).cell? ⟨qv1, 3, none⟩ = some (.int .i64 0) := (cell_of HBv1_4.out 3).trans rfl
      have fcv1_3 : (w4).frozen? ⟨qv1, 3, none⟩ = false := frozen_of HBv1_4.out 3
      go_wp2_with fail
      obtain ⟨w5, hW5⟩ : ∃ W, W = (w4).setCell ⟨qv1, 0, none⟩ (.int .i64 2) := ⟨_, rfl⟩
      rw [← hW5]
      have hb5 : w.grownBy w5 (some c) := by rw [hW5]; exact (grown_own hb4 HGv1.out 0 _)
      have HM5 : Hid ((w4).heap.size ≤ w5.heap.size) := by show _ ≤ _; rw [hW5]; simp
      have EU_5 : Hid (CurAt w5 c a len cap) := by show CurAt _ _ _ _ _; rw [hW5]; exact cur_set EU_4.out HNCv1.out _ _
      have HBv1_5 : Hid ((w5).heap[qv1]? = some (.cells #[.int .i64 2, .string ⟨#[]⟩, .string ⟨#[]⟩, .int .i64 0] 25)) := by show _ = _; rw [hW5]; have h := heap_set _ _ 0 _ _ _ (.int .i64 2) HBv1_4.out; simpa using h
      clear hb4 HBv1_4 EU_4 hW5
      obtain ⟨w6, hW6⟩ : ∃ W, W = (w5).setCell ⟨qv1, 1, none⟩ (.string x2) := ⟨_, rfl⟩
      rw [← hW6]
      have hb6 : w.grownBy w6 (some c) := by rw [hW6]; exact (grown_own hb5 HGv1.out 1 _)
      have HM6 : Hid ((w5).heap.size ≤ w6.heap.size) := by show _ ≤ _; rw [hW6]; simp
      have EU_6 : Hid (CurAt w6 c a len cap) := by show CurAt _ _ _ _ _; rw [hW6]; exact cur_set EU_5.out HNCv1.out _ _
      have HBv1_6 : Hid ((w6).heap[qv1]? = some (.cells #[.int .i64 2, .string x2, .string ⟨#[]⟩, .int .i64 0] 25)) := by show _ = _; rw [hW6]; have h := heap_set _ _ 1 _ _ _ (.string x2) HBv1_5.out; simpa using h
      clear hb5 HBv1_5 EU_5 hW6
      obtain ⟨w7, hW7⟩ : ∃ W, W = (w6).setCell ⟨qv1, 2, none⟩ (.string ⟨#[]⟩) := ⟨_, rfl⟩
      rw [← hW7]
      have hb7 : w.grownBy w7 (some c) := by rw [hW7]; exact (grown_own hb6 HGv1.out 2 _)
      have HM7 : Hid ((w6).heap.size ≤ w7.heap.size) := by show _ ≤ _; rw [hW7]; simp
      have EU_7 : Hid (CurAt w7 c a len cap) := by show CurAt _ _ _ _ _; rw [hW7]; exact cur_set EU_6.out HNCv1.out _ _
      have HBv1_7 : Hid ((w7).heap[qv1]? = some (.cells #[.int .i64 2, .string x2, .string ⟨#[]⟩, .int .i64 0] 25)) := by show _ = _; rw [hW7]; have h := heap_set _ _ 2 _ _ _ (.string ⟨#[]⟩) HBv1_6.out; simpa using h
      clear hb6 HBv1_6 EU_6 hW7
      obtain ⟨w8, hW8⟩ : ∃ W, W = (w7).setCell ⟨qv1, 3, none⟩ (.int .i64 t) := ⟨_, rfl⟩
      rw [← hW8]
      have hb8 : w.grownBy w8 (some c) := by rw [hW8]; exact (grown_own hb7 HGv1.out 3 _)
      have HM8 : Hid ((w7).heap.size ≤ w8.heap.size) := by show _ ≤ _; rw [hW8]; simp
      have EU_8 : Hid (CurAt w8 c a len cap) := by show CurAt _ _ _ _ _; rw [hW8]; exact cur_set EU_7.out HNCv1.out _ _
      have HBv1_8 : Hid ((w8).heap[qv1]? = some (.cells #[.int .i64 2, .string x2, .string ⟨#[]⟩, .int .i64 t] 25)) := by show _ = _; rw [hW8]; have h := heap_set _ _ 3 _ _ _ (.int .i64 t) HBv1_7.out; simpa using h
      clear hb7 HBv1_7 EU_7 hW8
      have kv1_0 : (w8).cell? ⟨qv1, 0, none⟩ = some (.int .i64 2) := (cell_of HBv1_8.out 0).trans rfl
      have kv1_1 : (w8).cell? ⟨qv1, 1, none⟩ = some (.string x2) := (cell_of HBv1_8.out 1).trans rfl
      have kv1_2 : (w8).cell? ⟨qv1, 2, none⟩ = some (.string ⟨#[]⟩) := (cell_of HBv1_8.out 2).trans rfl
      have kv1_3 : (w8).cell? ⟨qv1, 3, none⟩ = some (.int .i64 t) := (cell_of HBv1_8.out 3).trans rfl
      refine bodyPost_ret (v := .agg #[.int .i64 2, .string x2, .string ⟨#[]⟩, .int .i64 t]) (by simp [results, Tryd.results28, go_sem, kv1_0, kv1_1, kv1_2, kv1_3]) rfl ?_
      exact ⟨_, _, _, _, rfl, (by constructor <;> omega), HXx2.out, (by decide), HTT.out, EU_8.out, hb8⟩
    · have hc2b : ((n1 : Int) == (1 : Int)) = false := by simpa using hc2
      have hc2n : ((n1 : Int) != (1 : Int)) = true := by simpa using hc2
      have hc2H : Hid (¬ (n1 = 1)) := hc2
      clear hc2
      go_wp2_with fail
      obtain ⟨qv2, hqv2⟩ : ∃ q, q = (w2).heap.size := ⟨_, rfl⟩
      obtain ⟨w3, hW3⟩ : ∃ W, W = (w2).alloc (.cells #[.string ⟨#[101, 116, 97, 103]⟩, .string ⟨#[120, 45, 97]⟩] 9) := ⟨_, rfl⟩
      have hz3 : (w2).heap.size = qv2 := hqv2.symm
      first | rw [← hW3, ← hqv2] | rw [← hW3]
      have hs3 : w3.heap.size = qv2 + 1 := by rw [hW3, ← hz3]; simp
      have bw : Below (w2).heap.size (w2) w3 := by rw [hW3]; exact (Below.refl _ _).alloc (Nat.le_refl _) _
      have hb3 : w.grownBy w3 (some c) := grown_then hb2 (grown_below bw _)
      have HM3 : Hid ((w2).heap.size ≤ (w3).heap.size) := bw.size
      have HBv1_3 : Hid ((w3).heap[qv1]? = some (.cells #[.int .i64 0, .string ⟨#[]⟩, .string ⟨#[]⟩, .int .i64 0] 25)) := blk_below HBv1_2.out bw
      have EU_3 : Hid (CurAt w3 c a len cap) := EU_2.out.below bw EU_2.out.lt
      have HNv1v2 : Hid (qv1 ≠ qv2) := fun e => by have h1 := (Array.getElem?_eq_some_iff.1 HBv1_2.out).1; omega
      have HBv2_3 : Hid ((w3).heap[qv2]? = some (.cells #[.string ⟨#[101, 116, 97, 103]⟩, .string ⟨#[120, 45, 97]⟩] 9)) := by show _ = _; rw [hW3, ← hz3]; exact heap_alloc_new _ _
      have HGv2 : Hid (w.heap.size ≤ qv2) := by show _ ≤ _; rw [← hz3]; exact hb2.size
      have HNCv2 : Hid (qv2 ≠ c) := fun e => by have h1 := EU_2.out.lt; omega
      clear hb2 HBv1_2 EU_2 bw hW3 hz3
      clear hs3 hqv2
      have HLS : Hid (ListAt w3 qv2 2 (textAt [⟨#[101, 116, 97, 103]⟩, ⟨#[120, 45, 97]⟩])) := by
        intro j hj
        match j, hj with
        | 0, _ => exact (cell_of HBv2_3.out 0).trans rfl
        | 1, _ => exact (cell_of HBv2_3.out 1).trans rfl
      refine (l1Pick_any c B qv2 2 (textAt [⟨#[101, 116, 97, 103]⟩, ⟨#[120, 45, 97]⟩]) a len cap zs _ EU_3.out (HCO.out _ hb3) HBC.out (by decide) (by decide) HLS.out HNCv2.out).mono ?_
      rintro e w4 ⟨jx, hjx, rfl, hcu, hg⟩
      obtain ⟨x2, hx2⟩ : ∃ x, x = textAt [⟨#[101, 116, 97, 103]⟩, ⟨#[120, 45, 97]⟩] jx := ⟨_, rfl⟩
      rw [← hx2]
      have HXx2 : Hid (x2.size ≤ 64) := by show _ ≤ _; rw [hx2]; exact (show ∀ j, j < 2 → (textAt [⟨#[101, 116, 97, 103]⟩, ⟨#[120, 45, 97]⟩] j).size ≤ 64 by decide) jx hjx
      clear hx2 hjx HLS
      have hb4 : w.grownBy w4 (some c) := grown_then hb3 hg
      have HM4 : Hid ((w3).heap.size ≤ (w4).heap.size) := hg.size
      have HBv1_4 : Hid ((w4).heap[qv1]? = some (.cells #[.int .i64 0, .string ⟨#[]⟩, .string ⟨#[]⟩, .int .i64 0] 25)) := (hg.block _ (Array.getElem?_eq_some_iff.1 HBv1_3.out).1 (fun e => HNCv1.out (Option.some.inj e))).trans HBv1_3.out
      have HBv2_4 : Hid ((w4).heap[qv2]? = some (.cells #[.string ⟨#[101, 116, 97, 103]⟩, .string ⟨#[120, 45, 97]⟩] 9)) := (hg.block _ (Array.getElem?_eq_some_iff.1 HBv2_3.out).1 (fun e => HNCv2.out (Option.some.inj e))).trans HBv2_3.out
      have EU_4 : Hid (CurAt w4 c a len cap) := hcu
      clear hb3 HBv1_3 HBv2_3 EU_3 hg hcu
      clear HBv2_4
      go_wp2_with fail
      obtain ⟨qv3, hqv3⟩ : ∃ q, q = (w4).heap.size := ⟨_, rfl⟩
      obtain ⟨w5, hW5⟩ : ∃ W, W = (w4).alloc (.cells #[.string ⟨#[97]⟩, .string ⟨#[98]⟩, .string ⟨#[49]⟩] 9) := ⟨_, rfl⟩
      have hz5 : (w4).heap.size = qv3 := hqv3.symm
      first | rw [← hW5, ← hqv3] | rw [← hW5]
      have hs5 : w5.heap.size = qv3 + 1 := by rw [hW5, ← hz5]; simp
      have bw : Below (w4).heap.size (w4) w5 := by rw [hW5]; exact (Below.refl _ _).alloc (Nat.le_refl _) _
      have hb5 : w.grownBy w5 (some c) := grown_then hb4 (grown_below bw _)
      have HM5 : Hid ((w4).heap.size ≤ (w5).heap.size) := bw.size
      have HBv1_5 : Hid ((w5).heap[qv1]? = some (.cells #[.int .i64 0, .string ⟨#[]⟩, .string ⟨#[]⟩, .int .i64 0] 25)) := blk_below HBv1_4.out bw
      have EU_5 : Hid (CurAt w5 c a len cap) := EU_4.out.below bw EU_4.out.lt
      have HNv1v3 : Hid (qv1 ≠ qv3) := fun e => by have h1 := (Array.getElem?_eq_some_iff.1 HBv1_4.out).1; omega
      have HBv3_5 : Hid ((w5).heap[qv3]? = some (.cells #[.string ⟨#[97]⟩, .string ⟨#[98]⟩, .string ⟨#[49]⟩] 9)) := by show _ = _; rw [hW5, ← hz5]; exact heap_alloc_new _ _
      have HGv3 : Hid (w.heap.size ≤ qv3) := by show _ ≤ _; rw [← hz5]; exact hb4.size
      have HNCv3 : Hid (qv3 ≠ c) := fun e => by have h1 := EU_4.out.lt; omega
      clear hb4 HBv1_4 EU_4 bw hW5 hz5
      clear hs5 hqv3
      have HLS : Hid (ListAt w5 qv3 3 (textAt [⟨#[97]⟩, ⟨#[98]⟩, ⟨#[49]⟩])) := by
        intro j hj
        match j, hj with
        | 0, _ => exact (cell_of HBv3_5.out 0).trans rfl
        | 1, _ => exact (cell_of HBv3_5.out 1).trans rfl
        | 2, _ => exact (cell_of HBv3_5.out 2).trans rfl
      refine (l1Pick_any c B qv3 3 (textAt [⟨#[97]⟩, ⟨#[98]⟩, ⟨#[49]⟩]) a len cap zs _ EU_5.out (HCO.out _ hb5) HBC.out (by decide) (by decide) HLS.out HNCv3.out).mono ?_
      rintro e w6 ⟨jx, hjx, rfl, hcu, hg⟩
      obtain ⟨x3, hx3⟩ : ∃ x, x = textAt [⟨#[97]⟩, ⟨#[98]⟩, ⟨#[49]⟩] jx := ⟨_, rfl⟩
      rw [← hx3]
      have HXx3 : Hid (x3.size ≤ 64) := by show _ ≤ _; rw [hx3]; exact (show ∀ j, j < 3 → (textAt [⟨#[97]⟩, ⟨#[98]⟩, ⟨#[49]⟩] j).size ≤ 64 by decide) jx hjx
      clear hx3 hjx HLS
      have hb6 : w.grownBy w6 (some c) := grown_then hb5 hg
      have HM6 : Hid ((w5).heap.size ≤ (w6).heap.size) := hg.size
      have HBv1_6 : Hid ((w6).heap[qv1]? = some (.cells #[.int .i64 0, .string ⟨#[]⟩, .string ⟨#[]⟩, .int .i64 0] 25)) := (hg.block _ (Array.getElem?_eq_some_iff.1 HBv1_5.out).1 (fun e => HNCv1.out (Option.some.inj e))).trans HBv1_5.out
      have HBv3_6 : Hid ((w6).heap[qv3]? = some (.cells #[.string ⟨#[97]⟩, .string ⟨#[98]⟩, .string ⟨#[49]⟩] 9)) := (hg.block _ (Array.getElem?_eq_some_iff.1 HBv3_5.out).1 (fun e => HNCv3.out (Option.some.inj e))).trans HBv3_5.out
      have EU_6 : Hid (CurAt w6 c a len cap) := hcu
      clear hb5 HBv1_5 HBv3_5 EU_5 hg hcu
      clear HBv3_6
      have cv1_0 : (w6).cell? ⟨qv1, 0, none⟩ = some (.int .i64 0) := (cell_of HBv1_6.out 0).trans rfl
      have fcv1_0 : (w6).frozen? ⟨qv1, 0, none⟩ = false := frozen_of HBv1_6.out 0
      have cv1_1 : (w6).cell? ⟨qv1, 1, none⟩ = some (.string ⟨#[]⟩) := (cell_of HBv1_6.out 1).trans rfl
      have fcv1_1 : (w6).frozen? ⟨qv1, 1, none⟩ = false := frozen_of HBv1_6.out 1
      have cv1_2 : (w6).cell? ⟨qv1, 2, none⟩ = some (.string ⟨#[]⟩) := (cell_of HBv1_6.out 2).trans rfl
      have fcv1_2 : (w6).frozen? ⟨qv1, 2, none⟩ = false := frozen_of HBv1_6.out 2
      have cv1_3 : (w6).cell? ⟨qv1, 3, none⟩ = some (.int .i64 0) := (cell_of HBv1_6.out 3).trans rfl
      have fcv1_3 : (w6).frozen? ⟨qv1, 3, none⟩ = false := frozen_of HBv1_6.out 3
      go_wp2_with fail
      obtain ⟨w7, hW7⟩ : ∃ W, W = (w6).setCell ⟨qv1, 0, none⟩ (.int .i64 3) := ⟨_, rfl⟩
      rw [← hW7]
      have hb7 : w.grownBy w7 (some c) := by rw [hW7]; exact (grown_own hb6 HGv1.out 0 _)
      have HM7 : Hid ((w6).heap.size ≤ w7.heap.size) := by show _ ≤ _; rw [hW7]; simp
      have EU_7 : Hid (CurAt w7 c a len cap) := by show CurAt _ _ _ _ _; rw [hW7]; exact cur_set EU_6.out HNCv1.out _ _
      have HBv1_7 : Hid ((w7).heap[qv1]? = some (.cells #[.int .i64 3, .string ⟨#[]⟩, .string ⟨#[]⟩, .int .i64 0] 25)) := by show _ = _; rw [hW7]; have h := heap_set _ _ 0 _ _ _ (.int .i64 3) HBv1_6.out; simpa using h
      clear hb6 HBv1_6 EU_6 hW7
      obtain ⟨w8, hW8⟩ : ∃ W, W = (w7).setCell ⟨qv1, 1, none⟩ (.string x2) := ⟨_, rfl⟩
      rw [← hW8]
      have hb8 : w.grownBy w8 (some c) := by rw [hW8]; exact (grown_own hb7 HGv1.out 1 _)
      have HM8 : Hid ((w7).heap.size ≤ w8.heap.size) := by show _ ≤ _; rw [hW8]; simp
      have EU_8 : Hid (CurAt w8 c a len cap) := by show CurAt _ _ _ _ _; rw [hW8]; exact cur_set EU_7.out HNCv1.out _ _
      have HBv1_8 : Hid ((w8).heap[qv1]? = some (.cells #[.int .i64 3, .string x2, .string ⟨#[]⟩, .int .i64 0] 25)) := by show _ = _; rw [hW8]; have h := heap_set _ _ 1 _ _ _ (.string x2) HBv1_7.out; simpa using h
      clear hb7 HBv1_7 EU_7 hW8
      obtain ⟨w9, hW9⟩ : ∃ W, W = (w8).setCell ⟨qv1, 2, none⟩ (.string x3) := ⟨_, rfl⟩
      rw [← hW9]
      have hb9 : w.grownBy w9 (some c) := by rw [hW9]; exact (grown_own hb8 HGv1.out 2 _)
      have HM9 : Hid ((w8).heap.size ≤ w9.heap.size) := by show _ ≤ _; rw [hW9]; simp
      have EU_9 : Hid (CurAt w9 c a len cap) := by show CurAt _ _ _ _ _; rw [hW9]; exact cur_set EU_8.out HNCv1.out _ _
      have HBv1_9 : Hid ((w9).heap[qv1]? = some (.cells #[.int .i64 3, .string x2, .string x3, .int .i64 0] 25)) := by show _ = _; rw [hW9]; have h := heap_set _ _ 2 _ _ _ (.string x3) HBv1_8.out; simpa using h
      clear hb8 HBv1_8 EU_8 hW9
      obtain ⟨w10, hW10⟩ : ∃ W, W = (w9).setCell ⟨qv1, 3, none⟩ (.int .i64 t) := ⟨_, rfl⟩
      rw [← hW10]
      have hb10 : w.grownBy w10 (some c) := by rw [hW10]; exact (grown_own hb9 HGv1.out 3 _)
      have HM10 : Hid ((w9).heap.size ≤ w10.heap.size) := by show _ ≤ _; rw [hW10]; simp
      have EU_10 : Hid (CurAt w10 c a len cap) := by show CurAt _ _ _ _ _; rw [hW10]; exact cur_set EU_9.out HNCv1.out _ _
      have HBv1_10 : Hid ((w10).heap[qv1]? = some (.cells #[.int .i64 3, .string x2, .string x3, .int .i64 t] 25)) := by show _ = _; rw [hW10]; have h := heap_set _ _ 3 _ _ _ (.int .i64 t) HBv1_9.out; simpa using h
      clear hb9 HBv1_9 EU_9 hW10
      have kv1_0 : (w10).cell? ⟨qv1, 0, none⟩ = some (.int .i64 3) := (cell_of HBv1_10.out 0).trans rfl
      have kv1_1 : (w10).cell? ⟨qv1, 1, none⟩ = some (.string x2) := (cell_of HBv1_10.out 1).trans rfl
      have kv1_2 : (w10).cell? ⟨qv1, 2, none⟩ = some (.string x3) := (cell_of HBv1_10.out 2).trans rfl
      have kv1_3 : (w10).cell? ⟨qv1, 3, none⟩ = some (.int .i64 t) := (cell_of HBv1_10.out 3).trans rfl
      refine bodyPost_ret (v := .agg #[.int .i64 3, .string x2, .string x3, .int .i64 t]) (by simp [results, Tryd.results28, go_sem, kv1_0, kv1_1, kv1_2, kv1_3]) rfl ?_
      exact ⟨_, _, _, _, rfl, (by constructor <;> omega), HXx2.out, HXx3.out, HTT.out, EU_10.out, hb10⟩

set_option maxHeartbeats 8000000 in
set_option maxRecDepth 100000 in
theorem l11Draw_any (c B : Nat) (a : Option Addr) (len cap : Nat) (zs : List Int) (w : World) (hcur : CurAt w c a len cap) (hcode : CodeAt w B a len zs) (hB : B ≤ c) :
    Calls Tryd.prog 17 #[.pointer (some ⟨c, 0, none⟩)] w fun e w' => BanDrawn w c a len cap e w' := by
  have HCO : Hid (∀ W, w.grownBy W (some c) → CodeAt W B a len zs) := fun W h => hcode.grown h hB
  have HBC : Hid (B ≤ c) := hB
  have EU_0 : Hid (CurAt w c a len cap) := hcur
  clear hcode hB hcur
  have hb0 : w.grownBy w (some c) := World.grownBy.refl _ _
  go_enter Tryd.func17, Tryd.ntmps17
  go_upto_region 1 with fail
  obtain ⟨qv1, hqv1⟩ : ∃ q, q = (w).heap.size := ⟨_, rfl⟩
  obtain ⟨w1, hW1⟩ : ∃ W, W = (w).alloc (.cells #[.int .i64 0, .string ⟨#[]⟩, .string ⟨#[]⟩, .int .i64 0] 25) := ⟨_, rfl⟩
  have hz1 : (w).heap.size = qv1 := hqv1.symm
  first | rw [← hW1, ← hqv1] | rw [← hW1]
  have hs1 : w1.heap.size = qv1 + 1 := by rw [hW1, ← hz1]; simp
  have bw : Below (w).heap.size (w) w1 := by rw [hW1]; exact (Below.refl _ _).alloc (Nat.le_refl _) _
  have hb1 : w.grownBy w1 (some c) := grown_then hb0 (grown_below bw _)
  have HM1 : Hid ((w).heap.size ≤ (w1).heap.size) := bw.size
  have EU_1 : Hid (CurAt w1 c a len cap) := EU_0.out.below bw EU_0.out.lt
  have HBv1_1 : Hid ((w1).heap[qv1]? = some (.cells #[.int .i64 0, .string ⟨#[]⟩, .string ⟨#[]⟩, .int .i64 0] 25)) := by show _ = _; rw [hW1, ← hz1]; exact heap_alloc_new _ _
  have HGv1 : Hid (w.heap.size ≤ qv1) := by show _ ≤ _; rw [← hz1]; exact hb0.size
  have HNCv1 : Hid (qv1 ≠ c) := fun e => by have h1 := EU_0.out.lt; omega
  clear hb0 EU_0 bw hW1 hz1
  clear hs1 hqv1
  go_wp2_with fail
  refine (l1Below_any c B 40 a len cap zs _ EU_1.out (HCO.out _ hb1) HBC.out (by decide) (by decide)).mono ?_
  rintro e w2 ⟨n1, rfl, hn01, hn11, hcu, hg⟩
  have hb2 : w.grownBy w2 (some c) := grown_then hb1 hg
  have HM2 : Hid ((w1).heap.size ≤ (w2).heap.size) := hg.size
  have HBv1_2 : Hid ((w2).heap[qv1]? = some (.cells #[.int .i64 0, .string ⟨#[]⟩, .string ⟨#[]⟩, .int .i64 0] 25)) := (hg.block _ (Array.getElem?_eq_some_iff.1 HBv1_1.out).1 (fun e => HNCv1.out (Option.some.inj e))).trans HBv1_1.out
  have EU_2 : Hid (CurAt w2 c a len cap) := hcu
  clear hb1 HBv1_1 EU_1 hg hcu
  go_wp2_with fail
  refine (l11DrawRight_any n1 (by omega) c B a len cap zs _ EU_2.out (HCO.out _ hb2) HBC.out).mono ?_
  rintro e w3 ⟨k2, p2, b2, t2, rfl, hk2, hp2, hb2z, ht2, hcu, hg⟩
  have HKK : Hid (-10 ≤ k2 ∧ k2 ≤ 10) := hk2
  have HZp2 : Hid (p2.size ≤ 64) := hp2
  have HZb2 : Hid (b2.size ≤ 64) := hb2z
  have HTT2 : Hid (-9223372036854775808 ≤ t2 ∧ t2 ≤ 9223372036854775807) := ht2
  clear hk2 hp2 hb2z ht2
  have hb3 : w.grownBy w3 (some c) := grown_then hb2 hg
  have HM3 : Hid ((w2).heap.size ≤ (w3).heap.size) := hg.size
  have HBv1_3 : Hid ((w3).heap[qv1]? = some (.cells #[.int .i64 0, .string ⟨#[]⟩, .string ⟨#[]⟩, .int .i64 0] 25)) := (hg.block _ (Array.getElem?_eq_some_iff.1 HBv1_2.out).1 (fun e => HNCv1.out (Option.some.inj e))).trans HBv1_2.out
  have EU_3 : Hid (CurAt w3 c a len cap) := hcu
  clear hb2 HBv1_2 EU_2 hg hcu
  go_upto_region 2 with fail
  obtain ⟨qv2, hqv2⟩ : ∃ q, q = (w3).heap.size := ⟨_, rfl⟩
  obtain ⟨w4, hW4⟩ : ∃ W, W = (w3).alloc (.cells #[.int .i64 k2, .string p2, .string b2, .int .i64 t2] 25) := ⟨_, rfl⟩
  have hz4 : (w3).heap.size = qv2 := hqv2.symm
  first | rw [← hW4, ← hqv2] | rw [← hW4]
  have hs4 : w4.heap.size = qv2 + 1 := by rw [hW4, ← hz4]; simp
  have bw : Below (w3).heap.size (w3) w4 := by rw [hW4]; exact (Below.refl _ _).alloc (Nat.le_refl _) _
  have hb4 : w.grownBy w4 (some c) := grown_then hb3 (grown_below bw _)
  have HM4 : Hid ((w3).heap.size ≤ (w4).heap.size) := bw.size
  have HBv1_4 : Hid ((w4).heap[qv1]? = some (.cells #[.int .i64 0, .string ⟨#[]⟩, .string ⟨#[]⟩, .int .i64 0] 25)) := blk_below HBv1_3.out bw
  have EU_4 : Hid (CurAt w4 c a len cap) := EU_3.out.below bw EU_3.out.lt
  have HNv1v2 : Hid (qv1 ≠ qv2) := fun e => by have h1 := (Array.getElem?_eq_some_iff.1 HBv1_3.out).1; omega
  have HBv2_4 : Hid ((w4).heap[qv2]? = some (.cells #[.int .i64 k2, .string p2, .string b2, .int .i64 t2] 25)) := by show _ = _; rw [hW4, ← hz4]; exact heap_alloc_new _ _
  have HGv2 : Hid (w.heap.size ≤ qv2) := by show _ ≤ _; rw [← hz4]; exact hb3.size
  have HNCv2 : Hid (qv2 ≠ c) := fun e => by have h1 := EU_3.out.lt; omega
  clear hb3 HBv1_3 EU_3 bw hW4 hz4
  clear hs4 hqv2
  go_wp2_with fail
  refine (l1Below_any c B 15 a len cap zs _ EU_4.out (HCO.out _ hb4) HBC.out (by decide) (by decide)).mono ?_
  rintro e w5 ⟨n3, rfl, hn03, hn13, hcu, hg⟩
  have hb5 : w.grownBy w5 (some c) := grown_then hb4 hg
  have HM5 : Hid ((w4).heap.size ≤ (w5).heap.size) := hg.size
  have HBv1_5 : Hid ((w5).heap[qv1]? = some (.cells #[.int .i64 0, .string ⟨#[]⟩, .string ⟨#[]⟩, .int .i64 0] 25)) := (hg.block _ (Array.getElem?_eq_some_iff.1 HBv1_4.out).1 (fun e => HNCv1.out (Option.some.inj e))).trans HBv1_4.out
  have HBv2_5 : Hid ((w5).heap[qv2]? = some (.cells #[.int .i64 k2, .string p2, .string b2, .int .i64 t2] 25)) := (hg.block _ (Array.getElem?_eq_some_iff.1 HBv2_4.out).1 (fun e => HNCv2.out (Option.some.inj e))).trans HBv2_4.out
  have EU_5 : Hid (CurAt w5 c a len cap) := hcu
  clear hb4 HBv1_4 HBv2_4 EU_4 hg hcu
  by_cases hc1 : n3 = 0
  · have hc1b : ((n3 : Int) == (0 : Int)) = true := by simpa using hc1
    have hc1n : ((n3 : Int) != (0 : Int)) = false := by simpa using hc1
    have hc1H : Hid (n3 = 0) := hc1
    clear hc1
    go_wp2_with fail
    refine (l1Below_any c B 6 a len cap zs _ EU_5.out (HCO.out _ hb5) HBC.out (by decide) (by decide)).mono ?_
    rintro e w6 ⟨n4, rfl, hn04, hn14, hcu, hg⟩
    have hb6 : w.grownBy w6 (some c) := grown_then hb5 hg
    have HM6 : Hid ((w5).heap.size ≤ (w6).heap.size) := hg.size
    have HBv1_6 : Hid ((w6).heap[qv1]? = some (.cells #[.int .i64 0, .string ⟨#[]⟩, .string ⟨#[]⟩, .int .i64 0] 25)) := (hg.block _ (Array.getElem?_eq_some_iff.1 HBv1_5.out).1 (fun e => HNCv1.out (Option.some.inj e))).trans HBv1_5.out
    have HBv2_6 : Hid ((w6).heap[qv2]? = some (.cells #[.int .i64 k2, .string p2, .string b2, .int .i64 t2] 25)) := (hg.block _ (Array.getElem?_eq_some_iff.1 HBv2_5.out).1 (fun e => HNCv2.out (Option.some.inj e))).trans HBv2_5.out
    have EU_6 : Hid (CurAt w6 c a len cap) := hcu
    clear hb5 HBv1_5 HBv2_5 EU_5 hg hcu
    have cv2_0 : (w6).cell? ⟨qv2, 0, none⟩ = some (.int .i64 k2) := (cell_of HBv2_6.out 0).trans rfl
    have fcv2_0 : (w6).frozen? ⟨qv2, 0, none⟩ = false := frozen_of HBv2_6.out 0
    go_upto_region 11 with fail
    obtain ⟨w7, hW7⟩ : ∃ W, W = (w6).setCell ⟨qv2, 0, none⟩ (.int .i64 (n4 - 1)) := ⟨_, rfl⟩
    rw [← hW7]
    have hb7 : w.grownBy w7 (some c) := by rw [hW7]; exact (grown_own hb6 HGv2.out 0 _)
    have HM7 : Hid ((w6).heap.size ≤ w7.heap.size) := by show _ ≤ _; rw [hW7]; simp
    have HBv1_7 : Hid ((w7).heap[qv1]? = some (.cells #[.int .i64 0, .string ⟨#[]⟩, .string ⟨#[]⟩, .int .i64 0] 25)) := by show _ = _; rw [hW7, heap_setCell_other _ _ _ _ HNv1v2.out]; exact HBv1_6.out
    have EU_7 : Hid (CurAt w7 c a len cap) := by show CurAt _ _ _ _ _; rw [hW7]; exact cur_set EU_6.out HNCv2.out _ _
    have HBv2_7 : Hid ((w7).heap[qv2]? = some (.cells #[.int .i64 (n4 - 1), .string p2, .string b2, .int .i64 t2] 25)) := by show _ = _; rw [hW7]; have h := heap_set _ _ 0 _ _ _ (.int .i64 (n4 - 1)) HBv2_6.out; simpa using h
    clear hb6 HBv1_6 HBv2_6 EU_6 hW7
    clear cv2_0 fcv2_0
    have cv1_0 : (w7).cell? ⟨qv1, 0, none⟩ = some (.int .i64 0) := (cell_of HBv1_7.out 0).trans rfl
    have fcv1_0 : (w7).frozen? ⟨qv1, 0, none⟩ = false := frozen_of HBv1_7.out 0
    have cv1_1 : (w7).cell? ⟨qv1, 1, none⟩ = some (.string ⟨#[]⟩) := (cell_of HBv1_7.out 1).trans rfl
    have fcv1_1 : (w7).frozen? ⟨qv1, 1, none⟩ = false := frozen_of HBv1_7.out 1
    have cv1_2 : (w7).cell? ⟨qv1, 2, none⟩ = some (.string ⟨#[]⟩) := (cell_of HBv1_7.out 2).trans rfl
    have fcv1_2 : (w7).frozen? ⟨qv1, 2, none⟩ = false := frozen_of HBv1_7.out 2
    have cv1_3 : (w7).cell? ⟨qv1, 3, none⟩ = some (.int .i64 0) := (cell_of HBv1_7.out 3).trans rfl
    have fcv1_3 : (w7).frozen? ⟨qv1, 3, none⟩ = false := frozen_of HBv1_7.out 3
    have cv2_0 : (w7).cell? ⟨qv2, 0, none⟩ = some (.int .i64 (n4 - 1)) := (cell_of HBv2_7.out 0).trans rfl
    have cv2_1 : (w7).cell? ⟨qv2, 1, none⟩ = some (.string p2) := (cell_of HBv2_7.out 1).trans rfl
    have cv2_2 : (w7).cell? ⟨qv2, 2, none⟩ = some (.string b2) := (cell_of HBv2_7.out 2).trans rfl
    have cv2_3 : (w7).cell? ⟨qv2, 3, none⟩ = some (.int .i64 t2) := (cell_of HBv2_7.out 3).trans rfl
    go_wp2_with fail
    obtain ⟨w8, hW8⟩ : ∃ W, W = (w7).setCell ⟨qv1, 0, none⟩ (.int .i64 (n4 - 1)) := ⟨_, rfl⟩
    rw [← hW8]
    have hb8 : w.grownBy w8 (some c) := by rw [hW8]; exact (grown_own hb7 HGv1.out 0 _)
    have HM8 : Hid ((w7).heap.size ≤ w8.heap.size) := by show _ ≤ _; rw [hW8]; simp
    have HBv2_8 : Hid ((w8).heap[qv2]? = some (.cells #[.int .i64 (n4 - 1), .string p2, .string b2, .int .i64 t2] 25)) := by show _ = _; rw [hW8, heap_setCell_other _ _ _ _ HNv1v2.out.symm]; exact HBv2_7.out
    have EU_8 : Hid (CurAt w8 c a len cap) := by show CurAt _ _ _ _ _; rw [hW8]; exact cur_set EU_7.out HNCv1.out _ _
    have HBv1_8 : Hid ((w8).heap[qv1]? = some (.cells #[.int .i64 (n4 - 1), .string ⟨#[]⟩, .string ⟨#[]⟩, .int .i64 0] 25)) := by show _ = _; rw [hW8]; have h := heap_set _ _ 0 _ _ _ (.int .i64 (n4 - 1)) HBv1_7.out; simpa using h
    clear hb7 HBv1_7 HBv2_7 EU_7 hW8
    obtain ⟨w9, hW9⟩ : ∃ W, W = (w8).setCell ⟨qv1, 1, none⟩ (.string p2) := ⟨_, rfl⟩
    rw [← hW9]
    have hb9 : w.grownBy w9 (some c) := by rw [hW9]; exact (grown_own hb8 HGv1.out 1 _)
    have HM9 : Hid ((w8).heap.size ≤ w9.heap.size) := by show _ ≤ _; rw [hW9]; simp
    have HBv2_9 : Hid ((w9).heap[qv2]? = some (.cells #[.int .i64 (n4 - 1), .string p2, .string b2, .int .i64 t2] 25)) := by show _ = _; rw [hW9, heap_setCell_other _ _ _ _ HNv1v2.out.symm]; exact HBv2_8.out
    have EU_9 : Hid (CurAt w9 c a len cap) := by show CurAt _ _ _ _ _; rw [hW9]; exact cur_set EU_8.out HNCv1.out _ _
    have HBv1_9 : Hid ((w9).heap[qv1]? = some (.cells #[.int .i64 (n4 - 1), .string p2, .string ⟨#[]⟩, .int .i64 0] 25)) := by show _ = _; rw [hW9]; have h := heap_set _ _ 1 _ _ _ (.string p2) HBv1_8.out; simpa using h
    clear hb8 HBv1_8 HBv2_8 EU_8 hW9
    obtain ⟨w10, hW10⟩ : ∃ W, W = (w9).setCell ⟨qv1, 2, none⟩ (.string b2) := ⟨_, rfl⟩
    rw [← hW10]
    have hb10 : w.grownBy w10 (some c) := by rw [hW10]; exact (grown_own hb9 HGv1.out 2 _)
    have HM10 : Hid ((w9).heap.size ≤ w10.heap.size) := by show _ ≤ _; rw [hW10]; simp
    have HBv2_10 : Hid ((w10).heap[qv2]? = some (.cells #[.int .i64 (n4 - 1), .string p2, .string b2, .int .i64 t2] 25)) := by show _ = _; rw [hW10, heap_setCell_other _ _ _ _ HNv1v2.out.symm]; exact HBv2_9.out
    have EU_10 : Hid (CurAt w10 c a len cap) := by show CurAt _ _ _ _ _; rw [hW10]; exact cur_set EU_9.out HNCv1.out _ _
    have HBv1_10 : Hid ((w10).heap[qv1]? = some (.cells #[.int .i64 (n4 - 1), .string p2, .string b2, .int .i64 0] 25)) := by show _ = _; rw [hW10]; have h := heap_set _ _ 2 _ _ _ (.string b2) HBv1_9.out; simpa using h
    clear hb9 HBv1_9 HBv2_9 EU_9 hW10
    obtain ⟨w11, hW11⟩ : ∃ W, W = (w10).setCell ⟨qv1, 3, none⟩ (.int .i64 t2) := ⟨_, rfl⟩
    rw [← hW11]
    have hb11 : w.grownBy w11 (some c) := by rw [hW11]; exact (grown_own hb10 HGv1.out 3 _)
    have HM11 : Hid ((w10).heap.size ≤ w11.heap.size) := by show _ ≤ _; rw [hW11]; simp
    have HBv2_11 : Hid ((w11).heap[qv2]? = some (.cells #[.int .i64 (n4 - 1), .string p2, .string b2, .int .i64 t2] 25)) := by show _ = _; rw [hW11, heap_setCell_other _ _ _ _ HNv1v2.out.symm]; exact HBv2_10.out
    have EU_11 : Hid (CurAt w11 c a len cap) := by show CurAt _ _ _ _ _; rw [hW11]; exact cur_set EU_10.out HNCv1.out _ _
    have HBv1_11 : Hid ((w11).heap[qv1]? = some (.cells #[.int .i64 (n4 - 1), .string p2, .string b2, .int .i64 t2] 25)) := by show _ = _; rw [hW11]; have h := heap_set _ _ 3 _ _ _ (.int .i64 t2) HBv1_10.out; simpa using h
    clear hb10 HBv1_10 HBv2_10 EU_10 hW11
    have kv1_0 : (w11).cell? ⟨qv1, 0, none⟩ = some (.int .i64 (n4 - 1)) := (cell_of HBv1_11.out 0).trans rfl
    have kv1_1 : (w11).cell? ⟨qv1, 1, none⟩ = some (.string p2) := (cell_of HBv1_11.out 1).trans rfl
    have kv1_2 : (w11).cell? ⟨qv1, 2, none⟩ = some (.string b2) := (cell_of HBv1_11.out 2).trans rfl
    have kv1_3 : (w11).cell? ⟨qv1, 3, none⟩ = some (.int .i64 t2) := (cell_of HBv1_11.out 3).trans rfl
    refine bodyPost_ret (v := .agg #[.int .i64 (n4 - 1), .string p2, .string b2, .int .i64 t2]) (by simp [results, Tryd.results17, go_sem, kv1_0, kv1_1, kv1_2, kv1_3]) rfl ?_
    exact ⟨_, _, _, _, rfl, (by constructor <;> omega), HZp2.out, HZb2.out, HTT2.out, EU_11.out, hb11⟩
  · have hc1b : ((n3 : Int) == (0 : Int)) = false := by simpa using hc1
    have hc1n : ((n3 : Int) != (0 : Int)) = true := by simpa using hc1
    have hc1H : Hid (¬ (n3 = 0)) := hc1
    clear hc1
    by_cases hc2 : n3 = 1
    · have hc2b : ((n3 : Int) == (1 : Int)) = true := by simpa using hc2
      have hc2n : ((n3 : Int) != (1 : Int)) = false := by simpa using hc2
      have hc2H : Hid (n3 = 1) := hc2
      clear hc2
      go_wp2_with fail
      refine (l7DrawTime_any c B a len cap zs _ EU_5.out (HCO.out _ hb5) HBC.out).mono ?_
      rintro e w6 ⟨tm4, rfl, ht04, ht14, hcu, hg⟩
      have HTM4 : Hid (-9223372036854775808 ≤ tm4 ∧ tm4 ≤ 9223372036854775807) := ⟨ht04, ht14⟩
      clear ht04 ht14
      have hb6 : w.grownBy w6 (some c) := grown_then hb5 hg
      have HM6 : Hid ((w5).heap.size ≤ (w6).heap.size) := hg.size
      have HBv1_6 : Hid ((w6).heap[qv1]? = some (.cells #[.int .i64 0, .string ⟨#[]⟩, .string ⟨#[]⟩, .int .i64 0] 25)) := (hg.block _ (Array.getElem?_eq_some_iff.1 HBv1_5.out).1 (fun e => HNCv1.out (Option.some.inj e))).trans HBv1_5.out
      have HBv2_6 : Hid ((w6).heap[qv2]? = some (.cells #[.int .i64 k2, .string p2, .string b2, .int .i64 t2] 25)) := (hg.block _ (Array.getElem?_eq_some_iff.1 HBv2_5.out).1 (fun e => HNCv2.out (Option.some.inj e))).trans HBv2_5.out
      have EU_6 : Hid (CurAt w6 c a len cap) := hcu
      clear hb5 HBv1_5 HBv2_5 EU_5 hg hcu
      have cv2_3 : (w6).cell? ⟨qv2, 3, none⟩ = some (.int .i64 t2) := (cell_of HBv2_6.out 3).trans rfl
      have fcv2_3 : (w6).frozen? ⟨qv2, 3, none⟩ = false := frozen_of HBv2_6.out 3
      go_upto_region 11 with fail
      obtain ⟨w7, hW7⟩ : ∃ W, W = (w6).setCell ⟨qv2, 3, none⟩ (.int .i64 tm4) := ⟨_, rfl⟩
      rw [← hW7]
      have hb7 : w.grownBy w7 (some c) := by rw [hW7]; exact (grown_own hb6 HGv2.out 3 _)
      have HM7 : Hid ((w6).heap.size ≤ w7.heap.size) := by show _ ≤ _; rw [hW7]; simp
      have HBv1_7 : Hid ((w7).heap[qv1]? = some (.cells #[.int .i64 0, .string ⟨#[]⟩, .string ⟨#[]⟩, .int .i64 0] 25)) := by show _ = _; rw [hW7, heap_setCell_other _ _ _ _ HNv1v2.out]; exact HBv1_6.out
      have EU_7 : Hid (CurAt w7 c a len cap) := by show CurAt _ _ _ _ _; rw [hW7]; exact cur_set EU_6.out HNCv2.out _ _
      have HBv2_7 : Hid ((w7).heap[qv2]? = some (.cells #[.int .i64 k2, .string p2, .string b2, .int .i64 tm4] 25)) := by show _ = _; rw [hW7]; have h := heap_set _ _ 3 _ _ _ (.int .i64 tm4) HBv2_6.out; simpa using h
      clear hb6 HBv1_6 HBv2_6 EU_6 hW7
      clear cv2_3 fcv2_3
      have cv1_0 : (w7).cell? ⟨qv1, 0, none⟩ = some (.int .i64 0) := (cell_of HBv1_7.out 0).trans rfl
      have fcv1_0 : (w7).frozen? ⟨qv1, 0, none⟩ = false := frozen_of HBv1_7.out 0
      have cv1_1 : (w7).cell? ⟨qv1, 1, none⟩ = some (.string ⟨#[]⟩) := (cell_of HBv1_7.out 1).trans rfl
      have fcv1_1 : (w7).frozen? ⟨qv1, 1, none⟩ = false := frozen_of HBv1_7.out 1
      have cv1_2 : (w7).cell? ⟨qv1, 2, none⟩ = some (.string ⟨#[]⟩) := (cell_of HBv1_7.out 2).trans rfl
      have fcv1_2 : (w7).frozen? ⟨qv1, 2, none⟩ = false := frozen_of HBv1_7.out 2
      have cv1_3 : (w7).cell? ⟨qv1, 3, none⟩ = some (.int .i64 0) := (cell_of HBv1_7.out 3).trans rfl
      have fcv1_3 : (w7).frozen? ⟨qv1, 3, none⟩ = false := frozen_of HBv1_7.out 3
      have cv2_0 : (w7).cell? ⟨qv2, 0, none⟩ = some (.int .i64 k2) := (cell_of HBv2_7.out 0).trans rfl
      have cv2_1 : (w7).cell? ⟨qv2, 1, none⟩ = some (.string p2) := (cell_of HBv2_7.out 1).trans rfl
      have cv2_2 : (w7).cell? ⟨qv2, 2, none⟩ = some (.string b2) := (cell_of HBv2_7.out 2).trans rfl
      have cv2_3 : (w7).cell? ⟨qv2, 3, none⟩ = some (.int .i64 tm4) := (cell_of HBv2_7.out 3).trans rfl
      go_wp2_with fail
      obtain ⟨w8, hW8⟩ : ∃ W, W = (w7).setCell ⟨qv1, 0, none⟩ (.int .i64 k2) := ⟨_, rfl⟩
      rw [← hW8]
      have hb8 : w.grownBy w8 (some c) := by rw [hW8]; exact (grown_own hb7 HGv1.out 0 _)
      have HM8 : Hid ((w7).heap.size ≤ w8.heap.size) := by show _ ≤ _; rw [hW8]; simp
      have HBv2_8 : Hid ((w8).heap[qv2]? = some (.cells #[.int .i64 k2, .string p2, .string b2, .int .i64 tm4] 25)) := by show _ = _; rw [hW8, heap_setCell_other _ _ _ _ HNv1v2.out.symm]; exact HBv2_7.out
      have EU_8 : Hid (CurAt w8 c a len cap) := by show CurAt _ _ _ _ _; rw [hW8]; exact cur_set EU_7.out HNCv1.out _ _
      have HBv1_8 : Hid ((w8).heap[qv1]? = some (.cells #[.int .i64 k2, .string ⟨#[]⟩, .string ⟨#[]⟩, .int .i64 0] 25)) := by show _ = _; rw [hW8]; have h := heap_set _ _ 0 _ _ _ (.int .i64 k2) HBv1_7.out; simpa using h
      clear hb7 HBv1_7 HBv2_7 EU_7 hW8
      obtain ⟨w9, hW9⟩ : ∃ W, W = (w8).setCell ⟨qv1, 1, none⟩ (.string p2) := ⟨_, rfl⟩
      rw [← hW9]
      have hb9 : w.grownBy w9 (some c) := by rw [hW9]; exact (grown_own hb8 HGv1.out 1 _)
      have HM9 : Hid ((w8).heap.size ≤ w9.heap.size) := by show _ ≤ _; rw [hW9]; simp
      have HBv2_9 : Hid ((w9).heap[qv2]? = some (.cells #[.int .i64 k2, .string p2, .string b2, .int .i64 tm4] 25)) := by show _ = _; rw [hW9, heap_setCell_other _ _ _ _ HNv1v2.out.symm]; exact HBv2_8.out
      have EU_9 : Hid (CurAt w9 c a len cap) := by show CurAt _ _ _ _ _; rw [hW9]; exact cur_set EU_8.out HNCv1.out _ _
      have HBv1_9 : Hid ((w9).heap[qv1]? = some (.cells #[.int .i64 k2, .string p2, .string ⟨#[]⟩, .int .i64 0] 25)) := by show _ = _; rw [hW9]; have h := heap_set _ _ 1 _ _ _ (.string p2) HBv1_8.out; simpa using h
      clear hb8 HBv1_8 HBv2_8 EU_8 hW9
      obtain ⟨w10, hW10⟩ : ∃ W, W = (w9).setCell ⟨qv1, 2, none⟩ (.string b2) := ⟨_, rfl⟩
      rw [← hW10]
      have hb10 : w.grownBy w10 (some c) := by rw [hW10]; exact (grown_own hb9 HGv1.out 2 _)
      have HM10 : Hid ((w9).heap.size ≤ w10.heap.size) := by show _ ≤ _; rw [hW10]; simp
      have HBv2_10 : Hid ((w10).heap[qv2]? = some (.cells #[.int .i64 k2, .string p2, .string b2, .int .i64 tm4] 25)) := by show _ = _; rw [hW10, heap_setCell_other _ _ _ _ HNv1v2.out.symm]; exact HBv2_9.out
      have EU_10 : Hid (CurAt w10 c a len cap) := by show CurAt _ _ _ _ _; rw [hW10]; exact cur_set EU_9.out HNCv1.out _ _
      have HBv1_10 : Hid ((w10).heap[qv1]? = some (.cells #[.int .i64 k2, .string p2, .string b2, .int .i64 0] 25)) := by show _ = _; rw [hW10]; have h := heap_set _ _ 2 _ _ _ (.string b2) HBv1_9.out; simpa using h
      clear hb9 HBv1_9 HBv2_9 EU_9 hW10
      obtain ⟨w11, hW11⟩ : ∃ W, W = (w10).setCell ⟨qv1, 3, none⟩ (.int .i64 tm4) := ⟨_, rfl⟩
      rw [← hW11]
      have hb11 : w.grownBy w11 (some c) := by rw [hW11]; exact (grown_own hb10 HGv1.out 3 _)
      have HM11 : Hid ((w10).heap.size ≤ w11.heap.size) := by show _ ≤ _; rw [hW11]; simp
      have HBv2_11 : Hid ((w11).heap[qv2]? = some (.cells #[.int .i64 k2, .string p2, .string b2, .int .i64 tm4] 25)) := by show _ = _; rw [hW11, heap_setCell_other _ _ _ _ HNv1v2.out.symm]; exact HBv2_10.out
      have EU_11 : Hid (CurAt w11 c a len cap) := by show CurAt _ _ _ _ _; rw [hW11]; exact cur_set EU_10.out HNCv1.out _ _
      have HBv1_11 : Hid ((w11).heap[qv1]? = some (.cells #[.int .i64 k2, .string p2, .string b2, .int .i64 tm4] 25)) := by show _ = _; rw [hW11]; have h := heap_set _ _ 3 _ _ _ (.int .i64 tm4) HBv1_10.out; simpa using h
      clear hb10 HBv1_10 HBv2_10 EU_10 hW11
      have kv1_0 : (w11).cell? ⟨qv1, 0, none⟩ = some (.int .i64 k2) := (cell_of HBv1_11.out 0).trans rfl
      have kv1_1 : (w11).cell? ⟨qv1, 1, none⟩ = some (.string p2) := (cell_of HBv1_11.out 1).trans rfl
      have kv1_2 : (w11).cell? ⟨qv1, 2, none⟩ = some (.string b2) := (cell_of HBv1_11.out 2).trans rfl
      have kv1_3 : (w11).cell? ⟨qv1, 3, none⟩ = some (.int .i64 tm4) := (cell_of HBv1_11.out 3).trans rfl
      refine bodyPost_ret (v := .agg #[.int .i64 k2, .string p2, .string b2, .int .i64 tm4]) (by simp [results, Tryd.results17, go_sem, kv1_0, kv1_1, kv1_2, kv1_3]) rfl ?_
      exact ⟨_, _, _, _, rfl, HKK.out, HZp2.out, HZb2.out, HTM4.out, EU_11.out, hb11⟩
    · have hc2b : ((n3 : Int) == (1 : Int)) = false := by simpa using hc2
      have hc2n : ((n3 : Int) != (1 : Int)) = true := by simpa using hc2
      have hc2H : Hid (¬ (n3 = 1)) := hc2
      clear hc2
      by_cases hc3 : n3 = 2
      · have hc3b : ((n3 : Int) == (2 : Int)) = true := by simpa using hc3
        have hc3n : ((n3 : Int) != (2 : Int)) = false := by simpa using hc3
        have hc3H : Hid (n3 = 2) := hc3
        clear hc3
        go_wp2_with fail
        obtain ⟨qv3, hqv3⟩ : ∃ q, q = (w5).heap.size := ⟨_, rfl⟩
        obtain ⟨w6, hW6⟩ : ∃ W, W = (w5).alloc (.cells #[.string ⟨#[]⟩, .string ⟨#[65]⟩, .string ⟨#[47, 32]⟩] 9) := ⟨_, rfl⟩
        have hz6 : (w5).heap.size = qv3 := hqv3.symm
        first | rw [← hW6, ← hqv3] | rw [← hW6]
        have hs6 : w6.heap.size = qv3 + 1 := by rw [hW6, ← hz6]; simp
        have bw : Below (w5).heap.size (w5) w6 := by rw [hW6]; exact (Below.refl _ _).alloc (Nat.le_refl _) _
        have hb6 : w.grownBy w6 (some c) := grown_then hb5 (grown_below bw _)
        have HM6 : Hid ((w5).heap.size ≤ (w6).heap.size) := bw.size
        have HBv1_6 : Hid ((w6).heap[qv1]? = some (.cells #[.int .i64 0, .string ⟨#[]⟩, .string ⟨#[]⟩, .int .i64 0] 25)) := blk_below HBv1_5.out bw
        have HBv2_6 : Hid ((w6).heap[qv2]? = some (.cells #[.int .i64 k2, .string p2, .string b2, .int .i64 t2] 25)) := blk_below HBv2_5.out bw
        have EU_6 : Hid (CurAt w6 c a len cap) := EU_5.out.below bw EU_5.out.lt
        have HNv1v3 : Hid (qv1 ≠ qv3) := fun e => by have h1 := (Array.getElem?_eq_some_iff.1 HBv1_5.out).1; omega
        have HNv2v3 : Hid (qv2 ≠ qv3) := fun e => by have h1 := (Array.getElem?_eq_some_iff.1 HBv2_5.out).1; omega
        have HBv3_6 : Hid ((w6).heap[qv3]? = some (.cells #[.string ⟨#[]⟩, .string ⟨#[65]⟩, .string ⟨#[47, 32]⟩] 9)) := by show _ = _; rw [hW6, ← hz6]; exact heap_alloc_new _ _
        have HGv3 : Hid (w.heap.size ≤ qv3) := by show _ ≤ _; rw [← hz6]; exact hb5.size
        have HNCv3 : Hid (qv3 ≠ c) := fun e => by have h1 := EU_5.out.lt; omega
        clear hb5 HBv1_5 HBv2_5 EU_5 bw hW6 hz6
        clear hs6 hqv3
        have HLS : Hid (ListAt w6 qv3 3 (textAt [⟨#[]⟩, ⟨#[65]⟩, ⟨#[47, 32]⟩])) := by
          intro j hj
          match j, hj with
          | 0, _ => exact (cell_of HBv3_6.out 0).trans rfl
          | 1, _ => exact (cell_of HBv3_6.out 1).trans rfl
          | 2, _ => exact (cell_of HBv3_6.out 2).trans rfl
        refine (l1Pick_any c B qv3 3 (textAt [⟨#[]⟩, ⟨#[65]⟩, ⟨#[47, 32]⟩]) a len cap zs _ EU_6.out (HCO.out _ hb6) HBC.out (by decide) (by decide) HLS.out HNCv3.out).mono ?_
        rintro e w7 ⟨jx, hjx, rfl, hcu, hg⟩
        obtain ⟨x4, hx4⟩ : ∃ x, x = textAt [⟨#[]⟩, ⟨#[65]⟩, ⟨#[47, 32]⟩] jx := ⟨_, rfl⟩
        rw [← hx4]
        have HXx4 : Hid (x4.size ≤ 64) := by show _ ≤ _; rw [hx4]; exact (show ∀ j, j < 3 → (textAt [⟨#[]⟩, ⟨#[65]⟩, ⟨#[47, 32]⟩] j).size ≤ 64 by decide) jx hjx
        clear hx4 hjx HLS
        have hb7 : w.grownBy w7 (some c) := grown_then hb6 hg
        have HM7 : Hid ((w6).heap.size ≤ (w7).heap.size) := hg.size
        have HBv1_7 : Hid ((w7).heap[qv1]? = some (.cells #[.int .i64 0, .string ⟨#[]⟩, .string ⟨#[]⟩, .int .i64 0] 25)) := (hg.block _ (Array.getElem?_eq_some_iff.1 HBv1_6.out).1 (fun e => HNCv1.out (Option.some.inj e))).trans HBv1_6.out
        have HBv2_7 : Hid ((w7).heap[qv2]? = some (.cells #[.int .i64 k2, .string p2, .string b2, .int .i64 t2] 25)) := (hg.block _ (Array.getElem?_eq_some_iff.1 HBv2_6.out).1 (fun e => HNCv2.out (Option.some.inj e))).trans HBv2_6.out
        have HBv3_7 : Hid ((w7).heap[qv3]? = some (.cells #[.string ⟨#[]⟩, .string ⟨#[65]⟩, .string ⟨#[47, 32]⟩] 9)) := (hg.block _ (Array.getElem?_eq_some_iff.1 HBv3_6.out).1 (fun e => HNCv3.out (Option.some.inj e))).trans HBv3_6.out
        have EU_7 : Hid (CurAt w7 c a len cap) := hcu
        clear hb6 HBv1_6 HBv2_6 HBv3_6 EU_6 hg hcu
        clear HBv3_7
        have cv2_1 : (w7).cell? ⟨qv2, 1, none⟩ = some (.string p2) := (cell_of HBv2_7.out 1).trans rfl
        have fcv2_1 : (w7).frozen? ⟨qv2, 1, none⟩ = false := frozen_of HBv2_7.out 1
        go_upto_region 11 with fail
        obtain ⟨w8, hW8⟩ : ∃ W, W = (w7).setCell ⟨qv2, 1, none⟩ (.string x4) := ⟨_, rfl⟩
        rw [← hW8]
        have hb8 : w.grownBy w8 (some c) := by rw [hW8]; exact (grown_own hb7 HGv2.out 1 _)
        have HM8 : Hid ((w7).heap.size ≤ w8.heap.size) := by show _ ≤ _; rw [hW8]; simp
        have HBv1_8 : Hid ((w8).heap[qv1]? = some (.cells #[.int .i64 0, .string ⟨#[]⟩, .string ⟨#[]⟩, .int .i64 0] 25)) := by show _ = _; rw [hW8, heap_setCell_other _ _ _ _ HNv1v2.out]; exact HBv1_7.out
        have EU_8 : Hid (CurAt w8 c a len cap) := by show CurAt _ _ _ _ _; rw [hW8]; exact cur_set EU_7.out HNCv2.out _ _
        have HBv2_8 : Hid ((w8).heap[qv2]? = some (.cells #[.int .i64 k2, .string x4, .string b2, .int .i64 t2] 25)) := by show _ = _; rw [hW8]; have h := heap_set _ _ 1 _ _ _ (.string x4) HBv2_7.out; simpa using h
        clear hb7 HBv1_7 HBv2_7 EU_7 hW8
        clear cv2_1 fcv2_1
        have cv1_0 : (w8).cell? ⟨qv1, 0, none⟩ = some (.int .i64 0) := (cell_of HBv1_8.out 0).trans rfl
        have fcv1_0 : (w8).frozen? ⟨qv1, 0, none⟩ = false := frozen_of HBv1_8.out 0
        have cv1_1 : (w8).cell? ⟨qv1, 1, none⟩ = some (.string ⟨#[]⟩) := (cell_of HBv1_8.out 1).trans rfl
        have fcv1_1 : (w8).frozen? ⟨qv1, 1, none⟩ = false := frozen_of HBv1_8.out 1
        have cv1_2 : (w8).cell? ⟨qv1, 2, none⟩ = some (.string ⟨#[]⟩) := (cell_of HBv1_8.out 2).trans rfl
        have fcv1_2 : (w8).frozen? ⟨qv1, 2, none⟩ = false := frozen_of HBv1_8.out 2
        have cv1_3 : (w8).cell? ⟨qv1, 3, none⟩ = some (.int .i64 0) := (cell_of HBv1_8.out 3).trans rfl
        have fcv1_3 : (w8).frozen? ⟨qv1, 3, none⟩ = false := frozen_of HBv1_8.out 3
        have cv2_0 : (w8).cell? ⟨qv2, 0, none⟩ = some (.int .i64 k2) := (cell_of HBv2_8.out 0).trans rfl
        have cv2_1 : (w8).cell? ⟨qv2, 1, none⟩ = some (.string x4) := (cell_of HBv2_8.out 1).trans rfl
        have cv2_2 : (w8).cell? ⟨qv2, 2, none⟩ = some (.string b2) := (cell_of HBv2_8.out 2).trans rfl
        have cv2_3 : (w8).cell? ⟨qv2, 3, none⟩ = some (.int .i64 t2) := (cell_of HBv2_8.out 3).trans rfl
        go_wp2_with fail
        obtain ⟨w9, hW9⟩ : ∃ W, W = (w8).setCell ⟨qv1, 0, none⟩ (.int .i64 k2) := ⟨_, rfl⟩
        rw [← hW9]
        have hb9 : w.grownBy w9 (some c) := by rw [hW9]; exact (grown_own hb8 HGv1.out 0 _)
        have HM9 : Hid ((w8).heap.size ≤ w9.heap.size) := by show _ ≤ _; rw [hW9]; simp
        have HBv2_9 : Hid ((w9).heap[qv2]? = some (.cells #[.int .i64 k2, .string x4, .string b2, .int .i64 t2] 25)) := by show _ = _; rw [hW9, heap_setCell_other _ _ _ _ HNv1v2.out.symm]; exact HBv2_8.out
        have EU_9 : Hid (CurAt w9 c a len cap) := by show CurAt _ _ _ _ _; rw [hW9]; exact cur_set EU_8.out HNCv1.out _ _
        have HBv1_9 : Hid ((w9).heap[qv1]? = some (.cells #[.int .i64 k2, .string ⟨#[]⟩, .string ⟨#[]⟩, .int .i64 0] 25)) := by show _ = _; rw [hW9]; have h := heap_set _ _ 0 _ _ _ (.int .i64 k2) HBv1_8.out; simpa using h
        clear hb8 HBv1_8 HBv2_8 EU_8 hW9
        obtain ⟨w10, hW10⟩ : ∃ W, W = (w9).setCell ⟨qv1, 1, none⟩ (.string x4) := ⟨_, rfl⟩
        rw [← hW10]
        have hb10 : w.grownBy w10 (some c) := by rw [hW10]; exact (grown_own hb9 HGv1.out 1 _)
        have HM10 : Hid ((w9).heap.size ≤ w10.heap.size) := by show _ ≤ _; rw [hW10]; simp
        have HBv2_10 : Hid ((w10).heap[qv2]? = some (.cells #[.int .i64 k2, .string x4, .string b2, .int .i64 t2] 25)) := by show _ = _; rw [hW10, heap_setCell_other _ _ _ _ HNv1v2.out.symm]; exact HBv2_9.out
        have EU_10 : Hid (CurAt w10 c a len cap) := by show CurAt _ _ _ _ _; rw [hW10]; exact cur_set EU_9.out HNCv1.out _ _
        have HBv1_10 : Hid ((w10).heap[qv1]? = some (.cells #[.int .i64 k2, .string x4, .string ⟨#[]⟩, .int .i64 0] 25)) := by show _ = _; rw [hW10]; have h := heap_set _ _ 1 _ _ _ (.string x4) HBv1_9.out; simpa using h
        clear hb9 HBv1_9 HBv2_9 EU_9 hW10
        obtain ⟨w11, hW11⟩ : ∃ W, W = (w10).setCell ⟨qv1, 2, none⟩ (.string b2) := ⟨_, rfl⟩
        rw [← hW11]
        have hb11 : w.grownBy w11 (some c) := by rw [hW11]; exact (grown_own hb10 HGv1.out 2 _)
        have HM11 : Hid ((w10).heap.size ≤ w11.heap.size) := by show _ ≤ _; rw [hW11]; simp
        have HBv2_11 : Hid ((w11).heap[qv2]? = some (.cells #[.int .i64 k2, .string x4, .string b2, .int .i64 t2] 25)) := by show _ = _; rw [hW11, heap_setCell_other _ _ _ _ HNv1v2.out.symm]; exact HBv2_10.out
        have EU_11 : Hid (CurAt w11 c a len cap) := by show CurAt _ _ _ _ _; rw [hW11]; exact cur_set EU_10.out HNCv1.out _ _
        have HBv1_11 : Hid ((w11).heap[qv1]? = some (.cells #[.int .i64 k2, .string x4, .string b2, .int .i64 0] 25)) := by show _ = _; rw [hW11]; have h := heap_set _ _ 2 _ _ _ (.string b2) HBv1_10.out; simpa using h
        clear hb10 HBv1_10 HBv2_10 EU_10 hW11
        obtain ⟨w12, hW12⟩ : ∃ W, W = (w11).setCell ⟨qv1, 3, none⟩ (.int .i64 t2) := ⟨_, rfl⟩
        rw [← hW12]
        have hb12 : w.grownBy w12 (some c) := by rw [hW12]; exact (grown_own hb11 HGv1.out 3 _)
        have HM12 : Hid ((w11).heap.size ≤ w12.heap.size) := by show _ ≤ _; rw [hW12]; simp
        have HBv2_12 : Hid ((w12).heap[qv2]? = some (.cells #[.int .i64 k2, .string x4, .string b2, .int .i64 t2] 25)) := by show _ = _; rw [hW12, heap_setCell_other _ _ _ _ HNv1v2.out.symm]; exact HBv2_11.out
        have EU_12 : Hid (CurAt w12 c a len cap) := by show CurAt _ _ _ _ _; rw [hW12]; exact cur_set EU_11.out HNCv1.out _ _
        have HBv1_12 : Hid ((w12).heap[qv1]? = some (.cells #[.int .i64 k2, .string x4, .string b2, .int .i64 t2] 25)) := by show _ = _; rw [hW12]; have h := heap_set _ _ 3 _ _ _ (.int .i64 t2) HBv1_11.out; simpa using h
        clear hb11 HBv1_11 HBv2_11 EU_11 hW12
        have kv1_0 : (w12).cell? ⟨qv1, 0, none⟩ = some (.int .i64 k2) := (cell_of HBv1_12.out 0).trans rfl
        have kv1_1 : (w12).cell? ⟨qv1, 1, none⟩ = some (.string x4) := (cell_of HBv1_12.out 1).trans rfl
        have kv1_2 : (w12).cell? ⟨qv1, 2, none⟩ = some (.string b2) := (cell_of HBv1_12.out 2).trans rfl
        have kv1_3 : (w12).cell? ⟨qv1, 3, none⟩ = some (.int .i64 t2) := (cell_of HBv1_12.out 3).trans rfl
        refine bodyPost_ret (v := .agg #[.int .i64 k2, .string x4, .string b2, .int .i64 t2]) (by simp [results, Tryd.results17, go_sem, kv1_0, kv1_1, kv1_2, kv1_3]) rfl ?_
        exact ⟨_, _, _, _, rfl, HKK.out, HXx4.out, HZb2.out, HTT2.out, EU_12.out, hb12⟩
      · have hc3b : ((n3 : Int) == (2 : Int)) = false := by simpa using hc3
        have hc3n : ((n3 : Int) != (2 : Int)) = true := by simpa using hc3
        have hc3H : Hid (¬ (n3 = 2)) := hc3
        clear hc3
        by_cases hc4 : n3 = 3
        · have hc4b : ((n3 : Int) == (3 : Int)) = true := by simpa using hc4
          have hc4n : ((n3 : Int) != (3 : Int)) = false := by simpa using hc4
          have hc4H : Hid (n3 = 3) := hc4
          clear hc4
          go_wp2_with fail
          obtain ⟨qv3, hqv3⟩ : ∃ q, q = (w5).heap.size := ⟨_, rfl⟩
          obtain ⟨w6, hW6⟩ : ∃ W, W = (w5).alloc (.cells #[.string ⟨#[]⟩, .string ⟨#[113]⟩, .string ⟨#[32, 113]⟩] 9) := ⟨_, rfl⟩
          have hz6 : (w5).heap.size = qv3 := hqv3.symm
          first | rw [← hW6, ← hqv3] | rw [← hW6]
          have hs6 : w6.heap.size = qv3 + 1 := by rw [hW6, ← hz6]; simp
          have bw : Below (w5).heap.size (w5) w6 := by rw [hW6]; exact (Below.refl _ _).alloc (Nat.le_refl _) _
          have hb6 : w.grownBy w6 (some c) := grown_then hb5 (grown_below bw _)
          have HM6 : Hid ((w5).heap.size ≤ (w6).heap.size) := bw.size
          have HBv1_6 : Hid ((w6).heap[qv1]? = some (.cells #[.int .i64 0, .string ⟨#[]⟩, .string ⟨#[]⟩, .int .i64 0] 25)) := blk_below HBv1_5.out bw
          have HBv2_6 : Hid ((w6).heap[qv2]? = some (.cells #[.int .i64 k2, .string p2, .string b2, .int .i64 t2] 25)) := blk_below HBv2_5.out bw
          have EU_6 : Hid (CurAt w6 c a len cap) := EU_5.out.below bw EU_5.out.lt
          have HNv1v3 : Hid (qv1 ≠ qv3) := fun e => by have h1 := (Array.getElem?_eq_some_iff.1 HBv1_5.out).1; omega
          have HNv2v3 : Hid (qv2 ≠ qv3) := fun e => by have h1 := (Array.getElem?_eq_some_iff.1 HBv2_5.out).1; omega
          have HBv3_6 : Hid ((w6).heap[qv3]? = some (.cells #[.string ⟨#[]⟩, .string ⟨#[113]⟩, .string ⟨#[32, 113]⟩] 9)) := by show _ = _; rw [hW6, ← hz6]; exact heap_alloc_new _ _
          have HGv3 : Hid (w.heap.size ≤ qv3) := by show _ ≤ _; rw [← hz6]; exact hb5.size
          have HNCv3 : Hid (qv3 ≠ c) := fun e => by have h1 := EU_5.out.lt; omega
          clear hb5 HBv1_5 HBv2_5 EU_5 bw hW6 hz6
          clear hs6 hqv3
          have HLS : Hid (ListAt w6 qv3 3 (textAt [⟨#[]⟩, ⟨#[113]⟩, ⟨#[32, 113]⟩])) := by
            intro j hj
            match j, hj with
            | 0, _ => exact (cell_of HBv3_6.out 0).trans rfl
            | 1, _ => exact (cell_of HBv3_6.out 1).trans rfl
            | 2, _ => exact (cell_of HBv3_6.out 2).trans rfl
          refine (l1Pick_any c B qv3 3 (textAt [⟨#[]⟩, ⟨#[113]⟩, ⟨#[32, 113]⟩]) a len cap zs _ EU_6.out (HCO.out _ hb6) HBC.out (by decide) (by decide) HLS.out HNCv3.out).mono ?_
          rintro e w7 ⟨jx, hjx, rfl, hcu, hg⟩
          obtain ⟨x4, hx4⟩ : ∃ x, x = textAt [⟨#[]⟩, ⟨#[113]⟩, ⟨#[32, 113]⟩] jx := ⟨_, rfl⟩
          rw [← hx4]
          have HXx4 : Hid (x4.size ≤ 64) := by show _ ≤ _; rw [hx4]; exact (show ∀ j, j < 3 → (textAt [⟨#[]⟩, ⟨#[113]⟩, ⟨#[32, 113]⟩] j).size ≤ 64 by decide) jx hjx
          clear hx4 hjx HLS
          have hb7 : w.grownBy w7 (some c) := grown_then hb6 hg
          have HM7 : Hid ((w6).heap.size ≤ (w7).heap.size) := hg.size
          have HBv1_7 : Hid ((w7).heap[qv1]? = some (.cells #[.int .i64 0, .string ⟨#[]⟩, .string ⟨#[]⟩, .int .i64 0] 25)) := (hg.block _ (Array.getElem?_eq_some_iff.1 HBv1_6.out).1 (fun e => HNCv1.out (Option.some.inj e))).trans HBv1_6.out
          have HBv2_7 : Hid ((w7).heap[qv2]? = some (.cells #[.int .i64 k2, .string p2, .string b2, .int .i64 t2] 25)) := (hg.block _ (Array.getElem?_eq_some_iff.1 HBv2_6.out).1 (fun e => HNCv2.out (Option.some.inj e))).trans HBv2_6.out
          have HBv3_7 : Hid ((w7).heap[qv3]? = some (.cells #[.string ⟨#[]⟩, .string ⟨#[113]⟩, .string ⟨#[32, 113]⟩] 9)) := (hg.block _ (Array.getElem?_eq_some_iff.1 HBv3_6.out).1 (fun e => HNCv3.out (Option.some.inj e))).trans HBv3_6.out
          have EU_7 : Hid (CurAt w7 c a len cap) := hcu
          clear hb6 HBv1_6 HBv2_6 HBv3_6 EU_6 hg hcu
          clear HBv3_7
          have cv2_2 : (w7).cell? ⟨qv2, 2, none⟩ = some (.string b2) := (cell_of HBv2_7.out 2).trans rfl
          have fcv2_2 : (w7).frozen? ⟨qv2, 2, none⟩ = false := frozen_of HBv2_7.out 2
          go_upto_region 11 with fail
          obtain ⟨w8, hW8⟩ : ∃ W, W = (w7).setCell ⟨qv2, 2, none⟩ (.string x4) := ⟨_, rfl⟩
          rw [← hW8]
          have hb8 : w.grownBy w8 (some c) := by rw [hW8]; exact (grown_own hb7 HGv2.out 2 _)
          have HM8 : Hid ((w7).heap.size ≤ w8.heap.size) := by show _ ≤ _; rw [hW8]; simp
          have HBv1_8 : Hid ((w8).heap[qv1]? = some (.cells #[.int .i64 0, .string ⟨#[]⟩, .string ⟨#[]⟩, .int .i64 0] 25)) := by show _ = _; rw [hW8, heap_setCell_other _ _ _ _ HNv1v2.out]; exact HBv1_7.out
          have EU_8 : Hid (CurAt w8 c a len cap) := by show CurAt _ _ _ _ _; rw [hW8]; exact cur_set EU_7.out HNCv2.out _ _
          have HBv2_8 : Hid ((w8).heap[qv2]? = some (.cells #[.int .i64 k2, .string p2, .string x4, .int .i64 t2] 25)) := by show _ = _; rw [hW8]; have h := heap_set _ _ 2 _ _ _ (.string x4) HBv2_7.out; simpa using h
          clear hb7 HBv1_7 HBv2_7 EU_7 hW8
          clear cv2_2 fcv2_2
          have cv1_0 : (w8).cell? ⟨qv1, 0, none⟩ = some (.int .i64 0) := (cell_of HBv1_8.out 0).trans rfl
          have fcv1_0 : (w8).frozen? ⟨qv1, 0, none⟩ = false := frozen_of HBv1_8.out 0
          have cv1_1 : (w8).cell? ⟨qv1, 1, none⟩ = some (.string ⟨#[]⟩) := (cell_of HBv1_8.out 1).trans rfl
          have fcv1_1 : (w8).frozen? ⟨qv1, 1, none⟩ = false := frozen_of HBv1_8.out 1
          have cv1_2 : (w8).cell? ⟨qv1, 2, none⟩ = some (.string ⟨#[]⟩) := (cell_of HBv1_8.out 2).trans rfl
          have fcv1_2 : (w8).frozen? ⟨qv1, 2, none⟩ = false := frozen_of HBv1_8.out 2
          have cv1_3 : (w8).cell? ⟨qv1, 3, none⟩ = some (.int .i64 0) := (cell_of HBv1_8.out 3).trans rfl
          have fcv1_3 : (w8).frozen? ⟨qv1, 3, none⟩ = false := frozen_of HBv1_8.out 3
          have cv2_0 : (w8).cell? ⟨qv2, 0, none⟩ = some (.int .i64 k2) := (cell_of HBv2_8.out 0).trans rfl
          have cv2_1 : (w8).cell? ⟨qv2, 1, none⟩ = some (.string p2) := (cell_of HBv2_8.out 1).trans rfl
          have cv2_2 : (w8).cell? ⟨qv2, 2, none⟩ = some (.string x4) := (cell_of HBv2_8.out 2).trans rfl
          have cv2_3 : (w8).cell? ⟨qv2, 3, none⟩ = some (.int .i64 t2) := (cell_of HBv2_8.out 3).trans rfl
          go_wp2_with fail
          obtain ⟨w9, hW9⟩ : ∃ W, W = (w8).setCell ⟨qv1, 0, none⟩ (.int .i64 k2) := ⟨_, rfl⟩
          rw [← hW9]
          have hb9 : w.grownBy w9 (some c) := by rw [hW9]; exact (grown_own hb8 HGv1.out 0 _)
          have HM9 : Hid ((w8).heap.size ≤ w9.heap.size) := by show _ ≤ _; rw [hW9]; simp
          have HBv2_9 : Hid ((w9).heap[qv2]? = some (.cells #[.int .i64 k2, .string p2, .string x4, .int .i64 t2] 25)) := by show _ = _; rw [hW9, heap_setCell_other _ _ _ _ HNv1v2.out.symm]; exact HBv2_8.out
          have EU_9 : Hid (CurAt w9 c a len cap) := by show CurAt _ _ _ _ _; rw [hW9]; exact cur_set EU_8.out HNCv1.out _ _
          have HBv1_9 : Hid ((w9).heap[qv1]? = some (.cells #[.int .i64 k2, .string ⟨#[]⟩, .string ⟨#[]⟩, .int .i64 0] 25)) := by show _ = _; rw [hW9]; have h := heap_set _ _ 0 _ _ _ (.int .i64 k2) HBv1_8.out; simpa using h
          clear hb8 HBv1_8 HBv2_8 EU_8 hW9
          obtain ⟨w10, hW10⟩ : ∃ W, W = (w9).setCell ⟨qv1, 1, none⟩ (.string p2) := ⟨_, rfl⟩
          rw [← hW10]
          have hb10 : w.grownBy w10 (some c) := by rw [hW10]; exact (grown_own hb9 HGv1.out 1 _)
          have HM10 : Hid ((w9).heap.size ≤ w10.heap.size) := by show _ ≤ _; rw [hW10]; simp
          have HBv2_10 : Hid ((w10).heap[qv2]? = some (.cells #[.int .i64 k2, .string p2, .string x4, .int .i64 t2] 25)) := by show _ = _; rw [hW10, heap_setCell_other _ _ _ _ HNv1v2.out.symm]; exact HBv2_9.out
          have EU_10 : Hid (CurAt w10 c a len cap) := by show CurAt _ _ _ _ _; rw [hW10]; exact cur_set EU_9.out HNCv1.out _ _
          have HBv1_10 : Hid ((w10).heap[qv1]? = some (.cells #[.int .i64 k2, .string p2, .string ⟨#[]⟩, .int .i64 0] 25)) := by show _ = _; rw [hW10]; have h := heap_set _ _ 1 _ _ _ (.string p2) HBv1_9.out; simpa using h
          clear hb9 HBv1_9 HBv2_9 EU_9 hW10
          obtain ⟨w11, hW11⟩ : ∃ W, W = (w10).setCell ⟨qv1, 2, none⟩ (.string x4) := ⟨_, rfl⟩
          rw [← hW11]
          have hb11 : w.grownBy w11 (some c) := by rw [hW11]; exact (grown_own hb10 HGv1.out 2 _)
          have HM11 : Hid ((w10).heap.size ≤ w11.heap.size) := by show _ ≤ _; rw [hW11]; simp
          have HBv2_11 : Hid ((w11).heap[qv2]? = some (.cells #[.int .i64 k2, .string p2, .string x4, .int .i64 t2] 25)) := by show _ = _; rw [hW11, heap_setCell_other _ _ _ _ HNv1v2.out.symm]; exact HBv2_10.out
          have EU_11 : Hid (CurAt w11 c a len cap) := by show CurAt _ _ _ _ _; rw [hW11]; exact cur_set EU_10.out HNCv1.out _ _
          have HBv1_11 : Hid ((w11).heap[qv1]? = some (.cells #[.int .i64 k2, .string p2, .string x4, .int .i64 0] 25)) := by show _ = _; rw [hW11]; have h := heap_set _ _ 2 _ _ _ (.string x4) HBv1_10.out; simpa using h
          clear hb10 HBv1_10 HBv2_10 EU_10 hW11
          obtain ⟨w12, hW12⟩ : ∃ W, W = (w11).setCell ⟨qv1, 3, none⟩ (.int .i64 t2) := ⟨_, rfl⟩
          rw [← hW12]
          have hb12 : w.grownBy w12 (some c) := by rw [hW12]; exact (grown_own hb11 HGv1.out 3 _)
          have HM12 : Hid ((w11).heap.size ≤ w12.heap.size) := by show _ ≤ _; rw [hW12]; simp
          have HBv2_12 : Hid ((w12).heap[qv2]? = some (.cells #[.int .i64 k2, .string p2, .string x4, .int .i64 t2] 25)) := by show _ = _; rw [hW12, heap_setCell_other _ _ _ _ HNv1v2.out.symm]; exact HBv2_11.out
          have EU_12 : Hid (CurAt w12 c a len cap) := by show CurAt _ _ _ _ _; rw [hW12]; exact cur_set EU_11.out HNCv1.out _ _
          have HBv1_12 : Hid ((w12).heap[qv1]? = some (.cells #[.int .i64 k2, .string p2, .string x4, .int .i64 t2] 25)) := by show _ = _; rw [hW12]; have h := heap_set _ _ 3 _ _ _ (.int .i64 t2) HBv1_11.out; simpa using h
          clear hb11 HBv1_11 HBv2_11 EU_11 hW12
          have kv1_0 : (w12).cell? ⟨qv1, 0, none⟩ = some (.int .i64 k2) := (cell_of HBv1_12.out 0).trans rfl
          have kv1_1 : (w12).cell? ⟨qv1, 1, none⟩ = some (.string p2) := (cell_of HBv1_12.out 1).trans rfl
          have kv1_2 : (w12).cell? ⟨qv1, 2, none⟩ = some (.string x4) := (cell_of HBv1_12.out 2).trans rfl
          have kv1_3 : (w12).cell? ⟨qv1, 3, none⟩ = some (.int .i64 t2) := (cell_of HBv1_12.out 3).trans rfl
          refine bodyPost_ret (v := .agg #[.int .i64 k2, .string p2, .string x4, .int .i64 t2]) (by simp [results, Tryd.results17, go_sem, kv1_0, kv1_1, kv1_2, kv1_3]) rfl ?_
          exact ⟨_, _, _, _, rfl, HKK.out, HZp2.out, HXx4.out, HTT2.out, EU_12.out, hb12⟩
        · have hc4b : ((n3 : Int) == (3 : Int)) = false := by simpa using hc4
          have hc4n : ((n3 : Int) != (3 : Int)) = true := by simpa using hc4
          have hc4H : Hid (¬ (n3 = 3)) := hc4
          clear hc4
          have cv1_0 : (w5).cell? ⟨qv1, 0, none⟩ = some (.int .i64 0) := (cell_of HBv1_5.out 0).trans rfl
          have fcv1_0 : (w5).frozen? ⟨qv1, 0, none⟩ = false := frozen_of HBv1_5.out 0
          have cv1_1 : (w5).cell? ⟨qv1, 1, none⟩ = some (.string ⟨#[]⟩) := (cell_of HBv1_5.out 1).trans rfl
          have fcv1_1 : (w5).frozen? ⟨qv1, 1, none⟩ = false := frozen_of HBv1_5.out 1
          have cv1_2 : (w5).cell? ⟨qv1, 2, none⟩ = some (.string ⟨#[]⟩) := (cell_of HBv1_5.out 2).trans rfl
          have fcv1_2 : (w5).frozen? ⟨qv1, 2, none⟩ = false := frozen_of HBv1_5.out 2
          have cv1_3 : (w5).cell? ⟨qv1, 3, none⟩ = some (.int .i64 0) := (cell_of HBv1_5.out 3).trans rfl
          have fcv1_3 : (w5).frozen? ⟨qv1, 3, none⟩ = false := frozen_of HBv1_5.out 3
          have cv2_0 : (w5).cell? ⟨qv2, 0, none⟩ = some (.int .i64 k2) := (cell_of HBv2_5.out 0).trans rfl
          have cv2_1 : (w5).cell? ⟨qv2, 1, none⟩ = some (.string p2) := (cell_of HBv2_5.out 1).trans rfl
          have cv2_2 : (w5).cell? ⟨qv2, 2, none⟩ = some (.string b2) := (cell_of HBv2_5.out 2).trans rfl
          have cv2_3 : (w5).cell? ⟨qv2, 3, none⟩ = some (.int .i64 t2) := (cell_of HBv2_5.out 3).trans rfl
          go_wp2_with fail
          obtain ⟨w6, hW6⟩ : ∃ W, W = (w5).setCell ⟨qv1, 0, none⟩ (.int .i64 k2) := ⟨_, rfl⟩
          rw [← hW6]
          have hb6 : w.grownBy w6 (some c) := by rw [hW6]; exact (grown_own hb5 HGv1.out 0 _)
          have HM6 : Hid ((w5).heap.size ≤ w6.heap.size) := by show _ ≤ _; rw [hW6]; simp
          have HBv2_6 : Hid ((w6).heap[qv2]? = some (.cells #[.int .i64 k2, .string p2, .string b2, .int .i64 t2] 25)) := by show _ = _; rw [hW6, heap_setCell_other _ _ _ _ HNv1v2.out.symm]; exact HBv2_5.out
          have EU_6 : Hid (CurAt w6 c a len cap) := by show CurAt _ _ _ _ _; rw [hW6]; exact cur_set EU_5.out HNCv1.out _ _
          have HBv1_6 : Hid ((w6).heap[qv1]? = some (.cells #[.int .i64 k2, .string ⟨#[]⟩, .string ⟨#[]⟩, .int .i64 0] 25)) := by show _ = _; rw [hW6]; have h := heap_set _ _ 0 _ _ _ (.int .i64 k2) HBv1_5.out; simpa using h
          clear hb5 HBv1_5 HBv2_5 EU_5 hW6
          obtain ⟨w7, hW7⟩ : ∃ W, W = (w6).setCell ⟨qv1, 1, none⟩ (.string p2) := ⟨_, rfl⟩
          rw [← hW7]
          have hb7 : w.grownBy w7 (some c) := by rw [hW7]; exact (grown_own hb6 HGv1.out 1 _)
          have HM7 : Hid ((w6).heap.size ≤ w7.heap.size) := by show _ ≤ _; rw [hW7]; simp
          have HBv2_7 : Hid ((w7).heap[qv2]? = some (.cells #[.int .i64 k2, .string p2, .string b2, .int .i64 t2] 25)) := by show _ = _; rw [hW7, heap_setCell_other _ _ _ _ HNv1v2.out.symm]; exact HBv2_6.out
          have EU_7 : Hid (CurAt w7 c a len cap) := by show CurAt _ _ _ _ _; rw [hW7]; exact cur_set EU_6.out HNCv1.out _ _
          have HBv1_7 : Hid ((w7).heap[qv1]? = some (.cells #[.int .i64 k2, .string p2, .string ⟨#[]⟩, .int .i64 0] 25)) := by show _ = _; rw [hW7]; have h := heap_set _ _ 1 _ _ _ (.string p2) HBv1_6.out; simpa using h
          clear hb6 HBv1_6 HBv2_6 EU_6 hW7
          obtain ⟨w8, hW8⟩ : ∃ W, W = (w7).setCell ⟨qv1, 2, none⟩ (.string b2) := ⟨_, rfl⟩
          rw [← hW8]
          have hb8 : w.grownBy w8 (some c) := by rw [hW8]; exact (grown_own hb7 HGv1.out 2 _)
          have HM8 : Hid ((w7).heap.size ≤ w8.heap.size) := by show _ ≤ _; rw [hW8]; simp
          have HBv2_8 : Hid ((w8).heap[qv2]? = some (.cells #[.int .i64 k2, .string p2, .string b2, .int .i64 t2] 25)) := by show _ = _; rw [hW8, heap_setCell_other _ _ _ _ HNv1v2.out.symm]; exact HBv2_7.out
          have EU_8 : Hid (CurAt w8 c a len cap) := by show CurAt _ _ _ _ _; rw [hW8]; exact cur_set EU_7.out HNCv1.out _ _
          have HBv1_8 : Hid ((w8).heap[qv1]? = some (.cells #[.int .i64 k2, .string p2, .string b2, .int .i64 0] 25)) := by show _ = _; rw [hW8]; have h := heap_set _ _ 2 _ _ _ (.string b2) HBv1_7.out; simpa using h
          clear hb7 HBv1_7 HBv2_7 EU_7 hW8
          obtain ⟨w9, hW9⟩ : ∃ W, W = (w8).setCell ⟨qv1, 3, none⟩ (.int .i64 t2) := ⟨_, rfl⟩
          rw [← hW9]
          have hb9 : w.grownBy w9 (some c) := by rw [hW9]; exact (grown_own hb8 HGv1.out 3 _)
          have HM9 : Hid ((w8).heap.size ≤ w9.heap.size) := by show _ ≤ _; rw [hW9]; simp
          have HBv2_9 : Hid ((w9).heap[qv2]? = some (.cells #[.int .i64 k2, .string p2, .string b2, .int .i64 t2] 25)) := by show _ = _; rw [hW9, heap_setCell_other _ _ _ _ HNv1v2.out.symm]; exact HBv2_8.out
          have EU_9 : Hid (CurAt w9 c a len cap) := by show CurAt _ _ _ _ _; rw [hW9]; exact cur_set EU_8.out HNCv1.out _ _
          have HBv1_9 : Hid ((w9).heap[qv1]? = some (.cells #[.int .i64 k2, .string p2, .string b2, .int .i64 t2] 25)) := by show _ = _; rw [hW9]; have h := heap_set _ _ 3 _ _ _ (.int .i64 t2) HBv1_8.out; simpa using h
          clear hb8 HBv1_8 HBv2_8 EU_8 hW9
          have kv1_0 : (w9).cell? ⟨qv1, 0, none⟩ = some (.int .i64 k2) := (cell_of HBv1_9.out 0).trans rfl
          have kv1_1 : (w9).cell? ⟨qv1, 1, none⟩ = some (.string p2) := (cell_of HBv1_9.out 1).trans rfl
          have kv1_2 : (w9).cell? ⟨qv1, 2, none⟩ = some (.string b2) := (cell_of HBv1_9.out 2).trans rfl
          have kv1_3 : (w9).cell? ⟨qv1, 3, none⟩ = some (.int .i64 t2) := (cell_of HBv1_9.out 3).trans rfl
          refine bodyPost_ret (v := .agg #[.int .i64 k2, .string p2, .string b2, .int .i64 t2]) (by simp [results, Tryd.results17, go_sem, kv1_0, kv1_1, kv1_2, kv1_3]) rfl ?_
          exact ⟨_, _, _, _, rfl, HKK.out, HZp2.out, HZb2.out, HTT2.out, EU_9.out, hb9⟩

set_option maxHeartbeats 8000000 in
set_option maxRecDepth 100000 in
theorem drawBanText_any (a : Option Addr) (len cap : Nat) (zs : List Int) (w : World) (hcode : CodeAt w w.heap.size a len zs) :
    Calls Tryd.prog 7 #[.slice a len cap] w fun e w' => BanDrew w e w' := by
  have HCO : Hid (∀ W, Below w.heap.size w W → CodeAt W w.heap.size a len zs) := fun W h => hcode.below h
  clear hcode
  have hb0 : Below w.heap.size w w := Below.refl _ _
  go_enter Tryd.func7, Tryd.ntmps7
  go_upto_region 1 with fail
  obtain ⟨qv1, hqv1⟩ : ∃ q, q = (w).heap.size := ⟨_, rfl⟩
  obtain ⟨w1, hW1⟩ : ∃ W, W = (w).alloc (.cells #[.int .i64 0, .string ⟨#[]⟩, .string ⟨#[]⟩, .int .i64 0] 25) := ⟨_, rfl⟩
  have hz1 : (w).heap.size = qv1 := hqv1.symm
  first | rw [← hW1, ← hqv1] | rw [← hW1]
  have hs1 : w1.heap.size = qv1 + 1 := by rw [hW1, ← hz1]; simp
  have bw : Below (w).heap.size (w) w1 := by rw [hW1]; exact (Below.refl _ _).alloc (Nat.le_refl _) _
  have hb1 : Below w.heap.size w (w1) := hb0.trans (bw.mono hb0.size)
  have HM1 : Hid ((w).heap.size ≤ (w1).heap.size) := bw.size
  have HBv1_1 : Hid ((w1).heap[qv1]? = some (.cells #[.int .i64 0, .string ⟨#[]⟩, .string ⟨#[]⟩, .int .i64 0] 25)) := by show _ = _; rw [hW1, ← hz1]; exact heap_alloc_new _ _
  have HGv1 : Hid (w.heap.size ≤ qv1) := by show _ ≤ _; rw [← hz1]; exact hb0.size
  clear hb0 bw hW1 hz1
  clear hs1 hqv1
  go_wp2_with fail
  refine (l1New_any w.heap.size a len cap zs _ (HCO.out _ hb1)).mono ?_
  rintro e w2 ⟨rfl, hcu, bw⟩
  obtain ⟨c1, hc⟩ : ∃ c, c = w1.heap.size := ⟨_, rfl⟩
  rw [← hc] at hcu ⊢
  have HGC : Hid (w.heap.size ≤ c1) := by show _ ≤ _; rw [hc]; exact hb1.size
  have HBC : Hid (w.heap.size ≤ c1) := HGC.out
  have HCU : Hid (CurAt w2 c1 a len cap) := hcu
  have HNCv1 : Hid (qv1 ≠ c1) := fun e => by have h1 := (Array.getElem?_eq_some_iff.1 HBv1_1.out).1; omega
  clear hc hcu
  have hb2 : Below w.heap.size w (w2) := hb1.trans (bw.mono hb1.size)
  have HM2 : Hid ((w1).heap.size ≤ (w2).heap.size) := bw.size
  have HBv1_2 : Hid ((w2).heap[qv1]? = some (.cells #[.int .i64 0, .string ⟨#[]⟩, .string ⟨#[]⟩, .int .i64 0] 25)) := blk_below HBv1_1.out bw
  clear hb1 HBv1_1 bw
  have EU_2 : Hid (CurAt w2 c1 a len cap) := HCU.out
  clear HCU
  go_wp2_with fail
  refine (l11Draw_any c1 w.heap.size a len cap zs _ EU_2.out (HCO.out _ hb2) HBC.out).mono ?_
  rintro e w3 ⟨k2, p2, b2, t2, rfl, hk2, hp2, hb2z, ht2, hcu, hg⟩
  have HKK : Hid (-10 ≤ k2 ∧ k2 ≤ 10) := hk2
  have HZp2 : Hid (p2.size ≤ 64) := hp2
  have HZb2 : Hid (b2.size ≤ 64) := hb2z
  have HTT2 : Hid (-9223372036854775808 ≤ t2 ∧ t2 ≤ 9223372036854775807) := ht2
  clear hk2 hp2 hb2z ht2
  have hb3 : Below w.heap.size w (w3) := hb2.grown hg hb2.size (by intro k hk; cases hk; exact HGC.out)
  have HM3 : Hid ((w2).heap.size ≤ (w3).heap.size) := hg.size
  have HBv1_3 : Hid ((w3).heap[qv1]? = some (.cells #[.int .i64 0, .string ⟨#[]⟩, .string ⟨#[]⟩, .int .i64 0] 25)) := (hg.block _ (Array.getElem?_eq_some_iff.1 HBv1_2.out).1 (fun e => HNCv1.out (Option.some.inj e))).trans HBv1_2.out
  have EU_3 : Hid (CurAt w3 c1 a len cap) := hcu
  clear hb2 HBv1_2 EU_2 hg hcu
  have cv1_0 : (w3).cell? ⟨qv1, 0, none⟩ = some (.int .i64 0) := (cell_of HBv1_3.out 0).trans rfl
  have fcv1_0 : (w3).frozen? ⟨qv1, 0, none⟩ = false := frozen_of HBv1_3.out 0
  have cv1_1 : (w3).cell? ⟨qv1, 1, none⟩ = some (.string ⟨#[]⟩) := (cell_of HBv1_3.out 1).trans rfl
  have fcv1_1 : (w3).frozen? ⟨qv1, 1, none⟩ = false := frozen_of HBv1_3.out 1
  have cv1_2 : (w3).cell? ⟨qv1, 2, none⟩ = some (.string ⟨#[]⟩) := (cell_of HBv1_3.out 2).trans rfl
  have fcv1_2 : (w3).frozen? ⟨qv1, 2, none⟩ = false := frozen_of HBv1_3.out 2
  have cv1_3 : (w3).cell? ⟨qv1, 3, none⟩ = some (.int .i64 0) := (cell_of HBv1_3.out 3).trans rfl
  have fcv1_3 : (w3).frozen? ⟨qv1, 3, none⟩ = false := frozen_of HBv1_3.out 3
  go_wp2_with fail
  obtain ⟨w4, hW4⟩ : ∃ W, W = (w3).setCell ⟨qv1, 0, none⟩ (.int .i64 k2) := ⟨_, rfl⟩
  rw [← hW4]
  have hb4 : Below w.heap.size w (w4) := by rw [hW4]; exact (hb3.setCell (p := ⟨qv1, 0, none⟩) HGv1.out _)
  have HM4 : Hid ((w3).heap.size ≤ w4.heap.size) := by show _ ≤ _; rw [hW4]; simp
  have EU_4 : Hid (CurAt w4 c1 a len cap) := by show CurAt _ _ _ _ _; rw [hW4]; exact cur_set EU_3.out HNCv1.out _ _
  have HBv1_4 : Hid ((w4).heap[qv1]? = some (.cells #[.int .i64 k2, .string ⟨#[]⟩, .string ⟨#[]⟩, .int .i64 0] 25)) := by show _ = _; rw [hW4]; have h := heap_set _ _ 0 _ _ _ (.int .i64 k2) HBv1_3.out; simpa using h
  clear hb3 HBv1_3 EU_3 hW4
  obtain ⟨w5, hW5⟩ : ∃ W, W = (w4).setCell ⟨qv1, 1, none⟩ (.string p2) := ⟨_, rfl⟩
  rw [← hW5]
  have hb5 : Below w.heap.size w (w5) := by rw [hW5]; exact (hb4.setCell (p := ⟨qv1, 1, none⟩) HGv1.out _)
  have HM5 : Hid ((w4).heap.size ≤ w5.heap.size) := by show _ ≤ _; rw [hW5]; simp
  have EU_5 : Hid (CurAt w5 c1 a len cap) := by show CurAt _ _ _ _ _; rw [hW5]; exact cur_set EU_4.out HNCv1.out _ _
  have HBv1_5 : Hid ((w5).heap[qv1]? = some (.cells #[.int .i64 k2, .string p2, .string ⟨#[]⟩, .int .i64 0] 25)) := by show _ = _; rw [hW5]; have h := heap_set _ _ 1 _ _ _ (.string p2) HBv1_4.out; simpa using h
  clear hb4 HBv1_4 EU_4 hW5
  obtain ⟨w6, hW6⟩ : ∃ W, W = (w5).setCell ⟨qv1, 2, none⟩ (.string b2) := ⟨_, rfl⟩
  rw [← hW6]
  have hb6 : Below w.heap.size w (w6) := by rw [hW6]; exact (hb5.setCell (p := ⟨qv1, 2, none⟩) HGv1.out _)
  have HM6 : Hid ((w5).heap.size ≤ w6.heap.size) := by show _ ≤ _; rw [hW6]; simp
  have EU_6 : Hid (CurAt w6 c1 a len cap) := by show CurAt _ _ _ _ _; rw [hW6]; exact cur_set EU_5.out HNCv1.out _ _
  have HBv1_6 : Hid ((w6).heap[qv1]? = some (.cells #[.int .i64 k2, .string p2, .string b2, .int .i64 0] 25)) := by show _ = _; rw [hW6]; have h := heap_set _ _ 2 _ _ _ (.string b2) HBv1_5.out; simpa using h
  clear hb5 HBv1_5 EU_5 hW6
  obtain ⟨w7, hW7⟩ : ∃ W, W = (w6).setCell ⟨qv1, 3, none⟩ (.int .i64 t2) := ⟨_, rfl⟩
  rw [← hW7]
  have hb7 : Below w.heap.size w (w7) := by rw [hW7]; exact (hb6.setCell (p := ⟨qv1, 3, none⟩) HGv1.out _)
  have HM7 : Hid ((w6).heap.size ≤ w7.heap.size) := by show _ ≤ _; rw [hW7]; simp
  have EU_7 : Hid (CurAt w7 c1 a len cap) := by show CurAt _ _ _ _ _; rw [hW7]; exact cur_set EU_6.out HNCv1.out _ _
  have HBv1_7 : Hid ((w7).heap[qv1]? = some (.cells #[.int .i64 k2, .string p2, .string b2, .int .i64 t2] 25)) := by show _ = _; rw [hW7]; have h := heap_set _ _ 3 _ _ _ (.int .i64 t2) HBv1_6.out; simpa using h
  clear hb6 HBv1_6 EU_6 hW7
  have kv1_0 : (w7).cell? ⟨qv1, 0, none⟩ = some (.int .i64 k2) := (cell_of HBv1_7.out 0).trans rfl
  have kv1_1 : (w7).cell? ⟨qv1, 1, none⟩ = some (.string p2) := (cell_of HBv1_7.out 1).trans rfl
  have kv1_2 : (w7).cell? ⟨qv1, 2, none⟩ = some (.string b2) := (cell_of HBv1_7.out 2).trans rfl
  have kv1_3 : (w7).cell? ⟨qv1, 3, none⟩ = some (.int .i64 t2) := (cell_of HBv1_7.out 3).trans rfl
  refine bodyPost_ret (v := .agg #[.int .i64 k2, .string p2, .string b2, .int .i64 t2]) (by simp [results, Tryd.results7, go_sem, kv1_0, kv1_1, kv1_2, kv1_3]) rfl ?_
  exact ⟨_, _, _, _, rfl, HKK.out, HZp2.out, HZb2.out, HTT2.out, hb7⟩

set_option maxHeartbeats 8000000 in
set_option maxRecDepth 100000 in
theorem drawBanRead_any (a : Option Addr) (len cap : Nat) (zs : List Int) (w : World) (hcode : CodeAt w w.heap.size a len zs) :
    Calls Tryd.prog 12 #[.slice a len cap] w fun e w' => ∃ x : ByteArray, e = .returned (.string x) ∧ x.size ≤ 30000 ∧ Below w.heap.size w w' := by
  have HCO : Hid (∀ W, Below w.heap.size w W → CodeAt W w.heap.size a len zs) := fun W h => hcode.below h
  clear hcode
  have hb0 : Below w.heap.size w w := Below.refl _ _
  go_enter Tryd.func12, Tryd.ntmps12
  go_wp2_with fail
  refine (l1New_any w.heap.size a len cap zs _ (HCO.out _ hb0)).mono ?_
  rintro e w1 ⟨rfl, hcu, bw⟩
  obtain ⟨c1, hc⟩ : ∃ c, c = w.heap.size := ⟨_, rfl⟩
  rw [← hc] at hcu ⊢
  have HGC : Hid (w.heap.size ≤ c1) := by show _ ≤ _; rw [hc]; exact hb0.size
  have HBC : Hid (w.heap.size ≤ c1) := HGC.out
  have HCU : Hid (CurAt w1 c1 a len cap) := hcu
  clear hc hcu
  have hb1 : Below w.heap.size w (w1) := hb0.trans (bw.mono hb0.size)
  have HM1 : Hid ((w).heap.size ≤ (w1).heap.size) := bw.size
  clear hb0 bw
  have EU_1 : Hid (CurAt w1 c1 a len cap) := HCU.out
  clear HCU
  go_wp2_with fail
  refine (l1Below_any c1 w.heap.size 40 a len cap zs _ EU_1.out (HCO.out _ hb1) HBC.out (by decide) (by decide)).mono ?_
  rintro e w2 ⟨n2, rfl, hn02, hn12, hcu, hg⟩
  have hb2 : Below w.heap.size w (w2) := hb1.grown hg hb1.size (by intro k hk; cases hk; exact HGC.out)
  have HM2 : Hid ((w1).heap.size ≤ (w2).heap.size) := hg.size
  have EU_2 : Hid (CurAt w2 c1 a len cap) := hcu
  clear hb1 EU_1 hg hcu
  go_wp2_with fail
  refine (l11DrawRight_any n2 (by omega) c1 w.heap.size a len cap zs _ EU_2.out (HCO.out _ hb2) HBC.out).mono ?_
  rintro e w3 ⟨k3, p3, b3, t3, rfl, hk3, hp3, hb3z, ht3, hcu, hg⟩
  have HKK : Hid (-10 ≤ k3 ∧ k3 ≤ 10) := hk3
  have HZp3 : Hid (p3.size ≤ 64) := hp3
  have HZb3 : Hid (b3.size ≤ 64) := hb3z
  have HTT3 : Hid (-9223372036854775808 ≤ t3 ∧ t3 ≤ 9223372036854775807) := ht3
  clear hk3 hp3 hb3z ht3
  have hb3 : Below w.heap.size w (w3) := hb2.grown hg hb2.size (by intro k hk; cases hk; exact HGC.out)
  have HM3 : Hid ((w2).heap.size ≤ (w3).heap.size) := hg.size
  have EU_3 : Hid (CurAt w3 c1 a len cap) := hcu
  clear hb2 EU_2 hg hcu
  go_wp2_with fail
  refine (specBanText_any k3 p3 b3 t3 _ (by have := HZp3.out; unfold maxLen; omega) (by have := HZb3.out; unfold maxLen; omega)).mono ?_
  rintro e w4 ⟨u4, rfl, hu1, hu2, bw⟩
  have HU4 : Hid (u4.size ≤ 20000) := by
    classical
    show _ ≤ _
    by_cases hp : BanP k3 p3 b3 t3
    · rw [hu1 hp]
      exact Nat.le_trans (ban_small hp) (by decide)
    · rw [hu2 hp]; decide
  clear hu1 hu2
  have hb4 : Below w.heap.size w (w4) := hb3.trans (bw.mono hb3.size)
  have HM4 : Hid ((w3).heap.size ≤ (w4).heap.size) := bw.size
  have EU_4 : Hid (CurAt w4 c1 a len cap) := EU_3.out.below bw EU_3.out.lt
  clear hb3 EU_3 bw
  go_wp2_with fail
  obtain ⟨qv1, hqv1⟩ : ∃ q, q = (w4).heap.size := ⟨_, rfl⟩
  obtain ⟨w5, hW5⟩ : ∃ W, W = (w4).alloc (.cells #[.string ⟨#[32]⟩, .string ⟨#[10]⟩, .string ⟨#[48]⟩, .string ⟨#[120]⟩, .string ⟨#[47]⟩] 9) := ⟨_, rfl⟩
  have hz5 : (w4).heap.size = qv1 := hqv1.symm
  first | rw [← hW5, ← hqv1] | rw [← hW5]
  have hs5 : w5.heap.size = qv1 + 1 := by rw [hW5, ← hz5]; simp
  have bw : Below (w4).heap.size (w4) w5 := by rw [hW5]; exact (Below.refl _ _).alloc (Nat.le_refl _) _
  have hb5 : Below w.heap.size w (w5) := hb4.trans (bw.mono hb4.size)
  have HM5 : Hid ((w4).heap.size ≤ (w5).heap.size) := bw.size
  have EU_5 : Hid (CurAt w5 c1 a len cap) := EU_4.out.below bw EU_4.out.lt
  have HBv1_5 : Hid ((w5).heap[qv1]? = some (.cells #[.string ⟨#[32]⟩, .string ⟨#[10]⟩, .string ⟨#[48]⟩, .string ⟨#[120]⟩, .string ⟨#[47]⟩] 9)) := by show _ = _; rw [hW5, ← hz5]; exact heap_alloc_new _ _
  have HGv1 : Hid (w.heap.size ≤ qv1) := by show _ ≤ _; rw [← hz5]; exact hb4.size
  have HNCv1 : Hid (qv1 ≠ c1) := fun e => by have h1 := EU_4.out.lt; omega
  clear hb4 EU_4 bw hW5 hz5
  clear hs5 hqv1
  have HLS : Hid (ListAt w5 qv1 5 (textAt [⟨#[32]⟩, ⟨#[10]⟩, ⟨#[48]⟩, ⟨#[120]⟩, ⟨#[47]⟩])) := by
    intro j hj
    match j, hj with
    | 0, _ => exact (cell_of HBv1_5.out 0).trans rfl
    | 1, _ => exact (cell_of HBv1_5.out 1).trans rfl
    | 2, _ => exact (cell_of HBv1_5.out 2).trans rfl
    | 3, _ => exact (cell_of HBv1_5.out 3).trans rfl
    | 4, _ => exact (cell_of HBv1_5.out 4).trans rfl
  refine (l3Dent_any c1 w.heap.size u4 (textAt [⟨#[32]⟩, ⟨#[10]⟩, ⟨#[48]⟩, ⟨#[120]⟩, ⟨#[47]⟩]) qv1 5 (by decide) (by decide) (by decide) a len cap zs _ EU_5.out (HCO.out _ hb5) HBC.out HU4.out HNCv1.out HLS.out).mono ?_
  rintro e w6 ⟨x5, rfl, hx5, hcu, hg⟩
  have HXx5 : Hid (x5.size ≤ 20064) := hx5
  clear hx5 HLS
  have hb6 : Below w.heap.size w (w6) := hb5.grown hg hb5.size (by intro k hk; cases hk; exact HGC.out)
  have HM6 : Hid ((w5).heap.size ≤ (w6).heap.size) := hg.size
  have HBv1_6 : Hid ((w6).heap[qv1]? = some (.cells #[.string ⟨#[32]⟩, .string ⟨#[10]⟩, .string ⟨#[48]⟩, .string ⟨#[120]⟩, .string ⟨#[47]⟩] 9)) := (hg.block _ (Array.getElem?_eq_some_iff.1 HBv1_5.out).1 (fun e => HNCv1.out (Option.some.inj e))).trans HBv1_5.out
  have EU_6 : Hid (CurAt w6 c1 a len cap) := hcu
  clear hb5 HBv1_5 EU_5 hg hcu
  clear HBv1_6
  go_wp2_with fail
  go_ret
  exact ⟨_, rfl, Nat.le_trans HXx5.out (by decide), hb6⟩

end Go.Proofs.YtlmenolcgaakeaaDoor

namespace Go.Proofs.YtlmenolcgaakeaaDoor
open Go.RowKit
open Go.Lib hiding intOf

/-- A line that is told, and the place behind it; or none. -/
def LineOut (s : ByteArray) (f : Nat) (w : World) (e : Ending) (w' : World) : Prop :=
  w' = w ∧ ((∃ i, LineAt s f i ∧ e = .returned (.tuple #[.string (s.extract f i), .int .i64 ((i + 1 : Nat) : Int)])) ∨ ((∀ j (h : j < s.size), f ≤ j → (s[j]'h).toNat ≠ 10) ∧ e = .returned (.tuple #[.string ⟨#[]⟩, .int .i64 (-1)])))

set_option maxHeartbeats 1000000 in
theorem l10Line_any (s : ByteArray) (f : Nat) (w : World) (hs : s.size ≤ 4000000) (hf : f ≤ s.size) :
    Calls Tryd.prog 30 #[.string s, .int .i64 (f : Int)] w fun e w' => LineOut s f w e w' := by
  go_enter Tryd.func30, Tryd.ntmps30
  go_wp2
  go_loopw [6] (fun i wr => ∃ j : Nat, j ≤ s.size ∧ f ≤ j ∧ i = .int .i64 (j : Int) ∧ wr = w ∧ Hid (∀ q (h : q < s.size), q < j → f ≤ q → (s[q]'h).toNat ≠ 10)) (fun i _ => s.size - (intOf i).toNat)
  case atStart => exact ⟨f, hf, Nat.le_refl _, rfl, rfl, fun q _ h1 h2 => absurd h1 (by omega)⟩
  case round =>
    obtain ⟨j, hj, hfj, rfl, rfl, HN⟩ := hrel
    by_cases hlt : j < s.size
    · have hlt2 : (j : Int) < (s.size : Int) := by omega
      by_cases hc : (s[j]'hlt).toNat = 10
      · have t1 : (((s[j]'hlt).toNat : Int) == 10) = true := by rw [beq_iff_eq]; omega
        have HL : Hid (LineAt s f j) := ⟨hlt, hfj, hc, fun q hq h => HN.out q (by omega) hq h⟩
        have hfj2 : (f : Int) ≤ (j : Int) := by omega
        clear hc HN
        go_wp2
        exact bodyPost_ret (v := .tuple #[.string (s.extract f j), .int .i64 ((j + 1 : Nat) : Int)]) (by simp [results, Tryd.results30, go_sem]) rfl ⟨rfl, .inl ⟨j, HL.out, rfl⟩⟩
      · have t1 : (((s[j]'hlt).toNat : Int) == 10) = false := by rw [beq_eq_false_iff_ne]; omega
        have HN2 : Hid (∀ q (h : q < s.size), q < j + 1 → f ≤ q → (s[q]'h).toNat ≠ 10) := fun q h h1 h2 => by
          by_cases e : q = j
          · subst e; exact hc
          · exact HN.out q h (by omega) h2
        clear hc HN
        go_wp2
        go_roundw
        case rel => exact ⟨j + 1, by omega, by omega, by go_num, trivial, HN2⟩
        case measure => simp [intOf]; omega
    · have hlt2 : ¬ (j : Int) < (s.size : Int) := by omega
      have HF : Hid (∀ q (h : q < s.size), f ≤ q → (s[q]'h).toNat ≠ 10) := fun q h h2 => HN.out q h (by omega) h2
      clear HN
      go_wp2
      exact bodyPost_ret (v := .tuple #[.string ⟨#[]⟩, .int .i64 (-1)]) (by simp [results, Tryd.results30, go_sem]) rfl ⟨rfl, .inr ⟨HF.out, rfl⟩⟩
theorem numL_text {x : ByteArray} {n : Nat} (h : bs x = numL n) : x = numText n := bs_inj (by rw [h, bs_num])
theorem num_of_text {n : Int} {m : Nat} {x : ByteArray} (hm : m ≤ 1000000) (hx : x = numText m) (h : NumOk x → n = valL x.data.toList) : n = (m : Int) := by
  have h1 := h (by rw [hx]; exact num_ok _ hm)
  rw [hx, show (numText m).data.toList = numL m from rfl, numL_val _ hm] at h1
  exact h1

end Go.Proofs.YtlmenolcgaakeaaDoor
