/- What the proof of FnExactFeed leans on: contracts of the program's and the specification's functions, and plain facts (part 3 of 3). -/
import Derived.Test.YtacfajnagbeocaaGreatDoorFnExactFeedB
namespace Go.Proofs.YtacfajnagbeocaaGreatDoor
open Go.RowKit

def cutA (s sep : ByteArray) : ByteArray := ⟨(Lib.cut s.data.toList sep.data.toList).1.toArray⟩
def cutB (s sep : ByteArray) : ByteArray := ⟨(Lib.cut s.data.toList sep.data.toList).2.1.toArray⟩
def trimP (s p : ByteArray) : ByteArray := ⟨(Lib.trimPrefix s.data.toList p.data.toList).toArray⟩
def hasP (s p : ByteArray) : Bool := Lib.hasPrefix s.data.toList p.data.toList
theorem bs_cutA (s sep : ByteArray) : bs (cutA s sep) = (Lib.cut (bs s) (bs sep)).1 := by simp [bs, cutA]
theorem bs_cutB (s sep : ByteArray) : bs (cutB s sep) = (Lib.cut (bs s) (bs sep)).2.1 := by simp [bs, cutB]
theorem bs_trimP (s p : ByteArray) : bs (trimP s p) = Lib.trimPrefix (bs s) (bs p) := by simp [bs, trimP]
theorem cutA_size (s sep : ByteArray) : (cutA s sep).size ≤ s.size := by
  rw [← bs_len, ← bs_len, bs_cutA]
  unfold Lib.cut
  split
  · simp; omega
  · exact Nat.le_refl _
theorem cutB_size (s sep : ByteArray) : (cutB s sep).size ≤ s.size := by
  rw [← bs_len, ← bs_len, bs_cutB]
  unfold Lib.cut
  split
  · simp
  · simp
theorem trimP_size (s p : ByteArray) : (trimP s p).size ≤ s.size := by
  rw [← bs_len, ← bs_len, bs_trimP]
  unfold Lib.trimPrefix
  split
  · simp
  · exact Nat.le_refl _
theorem index_at (c : UInt8) (t rest : List UInt8) : ∀ (pre : List UInt8), (∀ b ∈ pre, b ≠ c) → Lib.index (pre ++ ((c :: t) ++ rest)) (c :: t) = (pre.length : Int) := by
  intro pre
  induction pre with
  | nil => intro _; simp [Lib.index]
  | cons b r ih =>
    intro h
    have hb : b ≠ c := h b (by simp)
    have ih := ih (fun x hx => h x (by simp [hx]))
    rw [List.cons_append, Lib.index, if_neg (by simp [List.isPrefixOf]; intro e; exact absurd e.symm hb), ih]
    rw [if_neg (by rw [beq_iff_eq]; omega)]
    simp
theorem cut_of {s sep : ByteArray} {c : UInt8} {t rest pre : List UInt8} (hs : bs s = pre ++ ((c :: t) ++ rest)) (hp : bs sep = c :: t) (h : ∀ b ∈ pre, b ≠ c) : bs (cutA s sep) = pre ∧ bs (cutB s sep) = rest := by
  rw [bs_cutA, bs_cutB, hs, hp]
  unfold Lib.cut
  rw [index_at c t rest pre h, if_pos (by omega)]
  constructor
  · simp
  · simp
theorem trim_of {s p : ByteArray} {rest : List UInt8} (hs : bs s = bs p ++ rest) : bs (trimP s p) = rest := by
  rw [bs_trimP, hs]
  unfold Lib.trimPrefix Lib.hasPrefix
  rw [if_pos (by simp)]
  simp

def nmE : ByteArray := ⟨#[58, 32]⟩
def blE : ByteArray := ⟨#[32]⟩
/-- One line of a head taken: a field more, but for the length's line; nothing where the head is over. -/
def lineStep (x : List (ByteArray × ByteArray) × ByteArray) : List (ByteArray × ByteArray) × ByteArray :=
  if hasP x.2 lnE = true then x else (if cutA x.2 nmE = clen then x.1 else x.1 ++ [(cutA x.2 nmE, cutA (cutB x.2 nmE) lnE)], cutB (cutB x.2 nmE) lnE)
def lineTo (x : List (ByteArray × ByteArray) × ByteArray) : Nat → List (ByteArray × ByteArray) × ByteArray
  | 0 => x
  | k + 1 => lineStep (lineTo x k)
theorem line_stuck (x : List (ByteArray × ByteArray) × ByteArray) (k : Nat) (h : hasP (lineTo x k).2 lnE = true) : ∀ d, lineTo x (k + d) = lineTo x k := by
  intro d
  induction d with
  | zero => rfl
  | succ d ih =>
    rw [show k + (d + 1) = (k + d) + 1 by omega, lineTo, ih]
    unfold lineStep
    rw [if_pos h]
theorem lineTo_size (s : ByteArray) : ∀ k, (lineTo ([], s) k).1.length ≤ k ∧ (lineTo ([], s) k).2.size ≤ s.size ∧ ∀ f ∈ (lineTo ([], s) k).1, f.1.size ≤ s.size ∧ f.2.size ≤ s.size := by
  intro k
  induction k with
  | zero => exact ⟨Nat.le_refl _, Nat.le_refl _, fun f hf => by simp [lineTo] at hf⟩
  | succ k ih =>
    obtain ⟨h1, h2, h3⟩ := ih
    rw [lineTo]
    generalize lineTo ([], s) k = x at *
    have a1 := cutA_size x.2 nmE
    have a2 := cutB_size x.2 nmE
    have a3 := cutA_size (cutB x.2 nmE) lnE
    have a4 := cutB_size (cutB x.2 nmE) lnE
    unfold lineStep
    by_cases hh : hasP x.2 lnE = true
    · rw [if_pos hh]; exact ⟨by omega, h2, h3⟩
    · rw [if_neg hh]
      by_cases hc : cutA x.2 nmE = clen
      · rw [if_pos hc]; exact ⟨Nat.le_succ_of_le h1, Nat.le_trans a4 (Nat.le_trans a2 h2), h3⟩
      · rw [if_neg hc]
        refine ⟨by simp; omega, Nat.le_trans a4 (Nat.le_trans a2 h2), fun f hf => ?_⟩
        simp only [List.mem_append, List.mem_singleton] at hf
        rcases hf with hf | rfl
        · exact h3 f hf
        · exact ⟨Nat.le_trans a1 h2, Nat.le_trans a3 (Nat.le_trans a2 h2)⟩

/-- Fields whose lines can be read: no colon in a name, none begins with a line's end, none in a value. -/
def LineOk (f : ByteArray × ByteArray) : Prop := (∀ b ∈ bs f.1, b ≠ 58) ∧ (∃ c r, bs f.1 = c :: r ∧ c ≠ 13) ∧ ∀ b ∈ bs f.2, b ≠ 13
def keepF (xs : List (ByteArray × ByteArray)) : List (ByteArray × ByteArray) := xs.filter (fun f => decide (f.1 ≠ clen))
theorem lines_of (x : List (ByteArray × ByteArray) × ByteArray) (body : List UInt8) : ∀ (xs : List (ByteArray × ByteArray)), (∀ f ∈ xs, LineOk f) → ∀ k acc left, lineTo x k = (acc, left) → bs left = (xs.map fieldLine).flatMap (fun l => l ++ [13, 10]) ++ 13 :: 10 :: body →
    ∃ left', lineTo x (k + xs.length) = (acc ++ keepF xs, left') ∧ bs left' = 13 :: 10 :: body := by
  intro xs
  induction xs with
  | nil =>
    intro _ k acc left h1 h2
    exact ⟨left, by rw [show k + ([] : List (ByteArray × ByteArray)).length = k from rfl, h1]; simp [keepF], by simpa using h2⟩
  | cons f r ih =>
    intro hx k acc left h1 h2
    obtain ⟨hn, ⟨c, nr, hc, hc13⟩, hv⟩ := hx f (by simp)
    obtain ⟨rest, hrest⟩ : ∃ y, y = (r.map fieldLine).flatMap (fun l => l ++ [13, 10]) ++ 13 :: 10 :: body := ⟨_, rfl⟩
    have e1 : bs left = bs f.1 ++ ((58 :: [32]) ++ (bs f.2 ++ ((13 :: [10]) ++ rest))) := by
      rw [h2, hrest]; simp [fieldLine]
    have k1 := cut_of (sep := nmE) e1 rfl hn
    have k2 := cut_of (sep := lnE) k1.2 rfl hv
    have hno : ¬ hasP left lnE = true := by
      unfold hasP Lib.hasPrefix
      show ¬ List.isPrefixOf (bs lnE) (bs left) = true
      rw [e1, hc]
      intro e
      simp [bs, lnE, List.isPrefixOf] at e
      exact hc13 e.1.symm
    have hstep : lineTo x (k + 1) = (if f.1 = clen then acc else acc ++ [(f.1, f.2)], cutB (cutB left nmE) lnE) := by
      rw [lineTo, h1]
      unfold lineStep
      rw [if_neg hno]
      have n1 : cutA left nmE = f.1 := bs_inj k1.1
      have n2 : cutA (cutB left nmE) lnE = f.2 := bs_inj k2.1
      simp only [n1, n2]
    obtain ⟨left', g1, g2⟩ := ih (fun y hy => hx y (by simp [hy])) (k + 1) _ _ hstep (by rw [k2.2, hrest])
    refine ⟨left', ?_, g2⟩
    rw [List.length_cons, show k + (r.length + 1) = k + 1 + r.length by omega, g1]
    by_cases he : f.1 = clen
    · rw [if_pos he]; simp [keepF, he]
    · rw [if_neg he]; simp [keepF, he]

def restFs (s : ByteArray) : List (ByteArray × ByteArray) := (lineTo ([], s) 9).1
def restBody (s : ByteArray) : ByteArray := trimP (lineTo ([], s) 9).2 lnE
theorem rest_of {s : ByteArray} {xs : List (ByteArray × ByteArray)} {body : List UInt8} (hs : bs s = (xs.map fieldLine).flatMap (fun l => l ++ [13, 10]) ++ 13 :: 10 :: body) (hx : ∀ f ∈ xs, LineOk f) (hl : xs.length ≤ 9) : restFs s = keepF xs ∧ bs (restBody s) = body := by
  obtain ⟨left', g1, g2⟩ := lines_of ([], s) body xs hx 0 [] s rfl hs
  have hst := line_stuck ([], s) (0 + xs.length) (by
    rw [g1]
    unfold hasP Lib.hasPrefix
    show List.isPrefixOf (bs lnE) (bs left') = true
    rw [g2]
    simp [bs, lnE, List.isPrefixOf]) (9 - xs.length)
  rw [show 0 + xs.length + (9 - xs.length) = 9 by omega, g1] at hst
  unfold restFs restBody
  rw [hst]
  exact ⟨by simp, trim_of (by rw [g2]; simp [bs, lnE])⟩
theorem line_tok {f : ByteArray × ByteArray} (h : TokOk f.1 ∧ ValOk f.2 ∧ f.1 ≠ clen) : LineOk f := by
  have hT : ∀ b ∈ bs f.1, TokB (b.toNat : Int) := bs_all h.1.2.2
  refine ⟨fun b hb e => ?_, ?_, fun b hb => ?_⟩
  · have := hT b hb
    subst e
    unfold TokB at this
    simp at this
  · have hl : 1 ≤ (bs f.1).length := by rw [bs_len]; exact h.1.1
    cases hc : bs f.1 with
    | nil => rw [hc] at hl; simp at hl
    | cons c r =>
      refine ⟨c, r, rfl, fun e => ?_⟩
      have := hT c (by rw [hc]; simp)
      subst e
      unfold TokB at this
      simp at this
  · intro e
    have := (line_field h).2 b (by simp [fieldLine, hb])
    exact this e
theorem line_len (n : Nat) (h : n ≤ 1000000) : LineOk (clen, numText n) := by
  refine ⟨show ∀ b ∈ bs clen, b ≠ 58 by decide, ⟨99, [111, 110, 116, 101, 110, 116, 45, 108, 101, 110, 103, 116, 104], rfl, by decide⟩, fun b hb e => ?_⟩
  exact (line_clen n h).2 b (by rw [bs_num] at hb; simp [clenLine, hb]) e
theorem keep_all {fs : List (ByteArray × ByteArray)} (h : ∀ f ∈ fs, TokOk f.1 ∧ ValOk f.2 ∧ f.1 ≠ clen) : keepF fs = fs := by
  unfold keepF
  rw [List.filter_eq_self]
  intro f hf
  simpa using (h f hf).2.2
theorem keep_len {fs : List (ByteArray × ByteArray)} (h : ∀ f ∈ fs, TokOk f.1 ∧ ValOk f.2 ∧ f.1 ≠ clen) (n : Nat) : keepF (fs ++ [(clen, numText n)]) = fs := by
  have := keep_all h
  unfold keepF at this ⊢
  rw [List.filter_append, this]
  simp
/-- What stands behind the first line of a right message is read as it was. -/
theorem rest_read {s : ByteArray} {fs : List (ByteArray × ByteArray)} {b : ByteArray} (hf : FldsOk fs) (hb : b.size ≤ 120) (tell : Bool) (hs : bs s = (fs.map fieldLine ++ (if tell then [clenLine b.size] else [])).flatMap (fun l => l ++ [13, 10]) ++ 13 :: 10 :: bs b) : restFs s = fs ∧ restBody s = b := by
  have hm := flds_mem hf
  have h8 := hf.1
  cases tell
  · have h := rest_of (xs := fs) (s := s) (body := bs b) (by rw [hs]; simp) (fun f hf => line_tok (hm f hf)) (by omega)
    exact ⟨by rw [h.1, keep_all hm], bs_inj h.2⟩
  · have h := rest_of (xs := fs ++ [(clen, numText b.size)]) (s := s) (body := bs b) (by rw [hs]; simp [fieldLine, clenLine, clenL, clen, ← bs_num]; rfl) (fun f hf => by
      simp only [List.mem_append, List.mem_singleton] at hf
      rcases hf with hf | rfl
      · exact line_tok (hm f hf)
      · exact line_len _ (by omega)) (by simp; omega)
    exact ⟨by rw [h.1, keep_len hm], bs_inj h.2⟩

/-- Which method a word names; 0: none. -/
def methOf (a : ByteArray) : Int := if methB 1 = a then 1 else if methB 2 = a then 2 else if methB 3 = a then 3 else if methB 4 = a then 4 else 0
theorem methOf_of {m : Int} (h : 1 ≤ m ∧ m ≤ 4) : methOf (methB m) = m := by
  rcases meth_cases h with rfl | rfl | rfl | rfl <;> decide
def httpLn : ByteArray := ⟨#[72, 84, 84, 80, 47, 49, 46, 49, 13, 10]⟩
/-- What is left of a request's text behind its first line. -/
def reqRest (s : ByteArray) : ByteArray := trimP (cutB (cutB s blE) blE) httpLn
theorem req_read {s : ByteArray} {m : Int} {p : ByteArray} {fs : List (ByteArray × ByteArray)} {b : ByteArray} (h : IsReq s m p fs b) :
    methOf (cutA s blE) = m ∧ cutA (cutB s blE) blE = p ∧ restFs (reqRest s) = fs ∧ restBody (reqRest s) = b := by
  obtain ⟨⟨hm, hp, hf, hb⟩, rfl⟩ := h
  obtain ⟨rest, hrest⟩ : ∃ y, y = (fs.map fieldLine ++ (if body_tell : decide (b.size ≠ 0) = true then [clenLine b.size] else [])).flatMap (fun l => l ++ [13, 10]) ++ 13 :: 10 :: bs b := ⟨_, rfl⟩
  have e0 : bs (reqT m p fs b) = bs (methB m) ++ ((32 :: []) ++ (bs p ++ ((32 :: []) ++ (bs httpLn ++ rest)))) := by
    rw [bs_reqT, hrest]
    by_cases h0 : b.size = 0
    · simp [h0, reqLine, httpL, bs, httpLn]
    · simp [h0, reqLine, httpL, bs, httpLn]
  have k1 := cut_of (sep := blE) e0 rfl (fun x hx => ((meth_bytes hm).2 x hx).2)
  have k2 := cut_of (sep := blE) k1.2 rfl (fun x hx e => by
    have := bs_all hp.1 x hx
    subst e
    unfold PathB at this
    simp at this)
  have k3 := trim_of (p := httpLn) k2.2
  have k4 := rest_read (s := reqRest (reqT m p fs b)) hf hb (decide (b.size ≠ 0)) (by rw [show bs (reqRest (reqT m p fs b)) = rest from k3, hrest]; simp)
  refine ⟨?_, bs_inj k2.1, k4.1, k4.2⟩
  rw [show cutA (reqT m p fs b) blE = methB m from bs_inj k1.1]
  exact methOf_of hm
end Go.Proofs.YtacfajnagbeocaaGreatDoor

namespace Go.Proofs.YtacfajnagbeocaaGreatDoor
open Go.RowKit

theorem index_cons (c : UInt8) (l sub : List UInt8) : Lib.index (c :: l) sub = if sub.isPrefixOf (c :: l) then 0 else if Lib.index l sub == -1 then -1 else Lib.index l sub + 1 := rfl
theorem prefix_iff (p l : List UInt8) : p.isPrefixOf l = true ↔ l.take p.length = p := by
  rw [List.isPrefixOf_iff_prefix]
  constructor
  · rintro ⟨t, rfl⟩
    simp
  · intro h
    exact ⟨l.drop p.length, by have h2 := List.take_append_drop p.length l; rw [h] at h2; exact h2⟩

/-- Where the first line's end is. -/
theorem line_split : ∀ (l : List UInt8), (Lib.index l [13, 10] = -1 ∧ ∀ x y, l ≠ x ++ 13 :: 10 :: y) ∨ (∃ a b, Lib.index l [13, 10] = (a.length : Int) ∧ l = a ++ 13 :: 10 :: b ∧ ∀ x y, a ++ [13] ≠ x ++ 13 :: 10 :: y) := by
  intro l
  induction l with
  | nil => exact .inl ⟨rfl, fun x y h => by simp at h⟩
  | cons c t ih =>
    rw [index_cons]
    by_cases hp : ([13, 10] : List UInt8).isPrefixOf (c :: t) = true
    · rw [if_pos hp]
      rw [prefix_iff] at hp
      obtain ⟨rfl, hp⟩ : c = 13 ∧ t.take 1 = [10] := by simpa using hp
      obtain ⟨d, r, rfl⟩ : ∃ d r, t = d :: r := by
        cases t with
        | nil => simp at hp
        | cons d r => exact ⟨d, r, rfl⟩
      obtain rfl : d = 10 := by simpa using hp
      refine .inr ⟨[], r, rfl, rfl, fun x y h => ?_⟩
      have := congrArg List.length h
      simp at this
      omega
    · rw [if_neg hp]
      rw [prefix_iff] at hp
      rcases ih with ⟨h1, h2⟩ | ⟨a, b, h1, h2, h3⟩
      · refine .inl ⟨by rw [h1]; rfl, fun x y h => ?_⟩
        cases x with
        | nil => exact hp (by rw [h]; rfl)
        | cons d x => exact h2 x y (by simpa using (List.cons.inj h).2)
      · refine .inr ⟨c :: a, b, ?_, by rw [h2]; rfl, fun x y h => ?_⟩
        · have hne : ¬ (Lib.index t [13, 10] == -1) = true := by rw [h1, beq_iff_eq]; omega
          rw [if_neg hne, h1]
          simp
        · cases x with
          | nil =>
            have h5 : c = 13 ∧ a ++ [13] = 10 :: y := List.cons.inj h
            cases a with
            | nil => exact absurd (List.cons.inj h5.2).1 (by decide)
            | cons d a =>
              have h6 : d = 10 := (List.cons.inj h5.2).1
              exact hp (by rw [h2, h5.1, h6]; rfl)
          | cons d x => exact h3 x y (List.cons.inj h).2

theorem lenS_line {first : Bool} {b : List UInt8} : ∀ (a cur : List UInt8), (∀ x y, cur ++ a ++ [13] ≠ x ++ 13 :: 10 :: y) →
    lenS first cur (a ++ 13 :: 10 :: b) = (if first = true then lenS false [] b else match clenOf (cur ++ a) with | some n => n | none => lenS false [] b) := by
  intro a
  induction a with
  | nil =>
    intro cur _
    show lenS first cur (13 :: 10 :: b) = _
    rw [lenS_on (by rintro ⟨h, _⟩; exact absurd h (by decide)), lenS_end (by simp), List.dropLast_concat, List.append_nil]
    rfl
  | cons c a ih =>
    intro cur h
    show lenS first cur (c :: (a ++ 13 :: 10 :: b)) = _
    rw [lenS_on, ih (cur ++ [c]) (by intro x y e; exact h x y (by simpa using e))]
    · simp
    · rintro ⟨rfl, hl⟩
      obtain ⟨k, rfl⟩ := List.getLast?_eq_some_iff.1 hl
      exact h k (a ++ [13]) (by simp)

/-- A text of whole lines. -/
def Whole (l : List UInt8) : Prop := l = [] ∨ ∃ x, l = x ++ [13, 10]
theorem whole_rest {a b : List UInt8} (h : Whole (a ++ 13 :: 10 :: b)) : Whole b := by
  rcases h with h | ⟨x, h⟩
  · simp at h
  · rcases list_snoc b with rfl | ⟨r, c, rfl⟩
    · exact .inl rfl
    · rcases list_snoc r with rfl | ⟨q, d, rfl⟩
      · have h' := congrArg List.reverse h
        simp at h'
      · have h' := congrArg List.reverse h
        simp at h'
        exact .inr ⟨q, by rw [h'.1, h'.2.1]; simp⟩
theorem whole_cut {l : List UInt8} (h : Whole l) (hne : l ≠ []) : ∃ a b, Lib.index l [13, 10] = (a.length : Int) ∧ l = a ++ 13 :: 10 :: b ∧ (∀ x y, a ++ [13] ≠ x ++ 13 :: 10 :: y) ∧ Whole b := by
  rcases line_split l with ⟨_, h2⟩ | ⟨a, b, h1, h2, h3⟩
  · rcases h with rfl | ⟨x, rfl⟩
    · exact absurd rfl hne
    · exact absurd rfl (h2 x [])
  · exact ⟨a, b, h1, h2, h3, whole_rest (by rw [← h2]; exact h)⟩
/-- One line more is read. -/
theorem whole_step {u sep : ByteArray} (hsep : bs sep = [13, 10]) (h : Whole (bs u)) (hne : bs u ≠ []) :
    Whole (bs (cutB u sep)) ∧ (cutB u sep).size < u.size ∧ (∀ first, lenS first [] (bs u) = (if first = true then lenS false [] (bs (cutB u sep)) else match clenOf (bs (cutA u sep)) with | some n => n | none => lenS false [] (bs (cutB u sep)))) := by
  obtain ⟨a, b, h1, h2, h3, h4⟩ := whole_cut h hne
  have hc : Lib.cut (bs u) (bs sep) = (a, b, true) := by
    unfold Lib.cut
    rw [hsep, h1, if_pos (by omega)]
    refine Prod.ext ?_ (Prod.ext ?_ rfl)
    · show (bs u).take _ = a
      rw [h2]; simp
    · show (bs u).drop _ = b
      rw [h2]; simp
  have hA : bs (cutA u sep) = a := by rw [bs_cutA, hc]
  have hB : bs (cutB u sep) = b := by rw [bs_cutB, hc]
  refine ⟨by rw [hB]; exact h4, ?_, fun first => ?_⟩
  · have e1 := congrArg List.length h2
    have e2 := congrArg List.length hB
    rw [bs_len] at e1 e2
    simp at e1
    omega
  · rw [hA, hB, h2]
    exact lenS_line a [] h3

/-- What a line tells, by its prefix. -/
theorem clenOf_pre {line p : ByteArray} (hp : bs p = clenM) : (hasP line p = true → (NumOk (trimP line p) → clenOf (bs line) = some (valL (bs (trimP line p)))) ∧ (¬ NumOk (trimP line p) → clenOf (bs line) = none)) ∧ (hasP line p = false → clenOf (bs line) = none) := by
  have hpre : hasP line p = true ↔ (bs line).take 16 = clenM := by
    show (bs p).isPrefixOf (bs line) = true ↔ _
    rw [prefix_iff, hp]
    rfl
  have hdrop : hasP line p = true → bs (trimP line p) = (bs line).drop 16 := fun h => by
    rw [bs_trimP]
    unfold Lib.trimPrefix
    rw [if_pos (show Lib.hasPrefix (bs line) (bs p) = true from h), hp]
    rfl
  refine ⟨fun h => ?_, fun h => ?_⟩
  · have e : (⟨((bs line).drop 16).toArray⟩ : ByteArray) = trimP line p := by
      rw [← hdrop h]
      apply ByteArray.ext
      simp [bs]
    exact ⟨fun hn => by rw [clenOf_yes (hpre.1 h) (by rw [e]; exact hn), hdrop h], fun hn => clenOf_no (by rintro ⟨_, x⟩; rw [e] at x; exact hn x)⟩
  · exact clenOf_no (by rintro ⟨x, _⟩; rw [hpre.2 x] at h; cases h)

/-- A head is found by strings.Index. -/
theorem headN_index : ∀ (l : List UInt8), (headN l = none ∧ Lib.index l [13, 10, 13, 10] = -1) ∨ (∃ k : Nat, headN l = some (k + 4) ∧ Lib.index l [13, 10, 13, 10] = (k : Int) ∧ k + 4 ≤ l.length ∧ Whole (l.take (k + 4))) := by
  intro l
  induction l with
  | nil => exact .inl ⟨rfl, rfl⟩
  | cons c t ih =>
    rw [index_cons]
    unfold headN
    by_cases hp : (c :: t).take 4 = [13, 10, 13, 10]
    · rw [if_pos hp, if_pos ((prefix_iff [13, 10, 13, 10] (c :: t)).2 hp)]
      refine .inr ⟨0, rfl, rfl, ?_, .inr ⟨[13, 10], by simpa using hp⟩⟩
      have := congrArg List.length hp
      simp at this
      simp
      omega
    · rw [if_neg hp, if_neg (fun h => hp ((prefix_iff [13, 10, 13, 10] (c :: t)).1 h))]
      rcases ih with ⟨h1, h2⟩ | ⟨k, h1, h2, h3, h4⟩
      · exact .inl ⟨by rw [h1]; rfl, by rw [h2]; rfl⟩
      · refine .inr ⟨k + 1, by rw [h1]; rfl, ?_, by rw [List.length_cons]; omega, ?_⟩
        · have hne : ¬ (Lib.index t [13, 10, 13, 10] == -1) = true := by rw [h2, beq_iff_eq]; omega
          rw [if_neg hne, h2]
          simp
        · rcases h4 with h4 | ⟨x, h4⟩
          · have := congrArg List.length h4
            rw [List.length_take, List.length_nil] at this
            omega
          · exact .inr ⟨c :: x, by rw [show k + 1 + 4 = (k + 4) + 1 by omega, List.take_succ_cons, h4]; rfl⟩

end Go.Proofs.YtacfajnagbeocaaGreatDoor

namespace Go.Proofs.YtacfajnagbeocaaGreatDoor
open Go.RowKit
open Go.Lib hiding intOf

/-- The word that strings.Index reads holds some int. -/
def LenOk (w : World) : Prop := ∃ m : Int, w.cell? ⟨0, 0, none⟩ = some (.int .i64 m)
theorem LenOk.lt {w : World} (h : LenOk w) : 0 < w.heap.size := by
  obtain ⟨m, hm⟩ := h
  exact World.block_lt_of_cell? w _ hm
theorem LenOk.below {B : Nat} {w w' : World} (h : LenOk w) (hb : Below B w w') (hB : 0 < B) : LenOk w' := by
  obtain ⟨m, hm⟩ := h
  exact ⟨m, by rw [hb.cell (p := ⟨0, 0, none⟩) hB]; exact hm⟩

/-- A reader: what is left to be read. -/
def Reader (w : World) (b : Nat) (left : ByteArray) : Prop := w.heap[b]? = some (.cells #[.string left] 67)
theorem Reader.cell {w : World} {b : Nat} {left : ByteArray} (h : Reader w b left) : w.cell? ⟨b, 0, none⟩ = some (.string left) := by
  unfold Reader at h
  simp [World.cell?, h]
theorem Reader.frozen {w : World} {b : Nat} {left : ByteArray} (h : Reader w b left) : w.frozen? ⟨b, 0, none⟩ = false := by
  unfold Reader at h
  simp [World.frozen?, h]
theorem Reader.put {w : World} {b : Nat} {left : ByteArray} (h : Reader w b left) (x : ByteArray) : Reader (w.setCell ⟨b, 0, none⟩ (.string x)) b x := by
  unfold Reader at h ⊢
  rw [heap_set _ _ _ _ _ _ _ h]
  rfl
/-- What a reader took: what is left, and nothing else has turned. -/
def Took (b : Nat) (left : ByteArray) (w w' : World) : Prop := Reader w' b left ∧ w.grownBy w' (some b)

set_option maxHeartbeats 400000 in
theorem upTo_any (b : Nat) (left sep : ByteArray) (w : World) (h : Reader w b left) (hl : left.size ≤ 4000000) (hm : LenOk w) :
    Calls Tryz.prog 36 #[.pointer (some ⟨b, 0, none⟩), .string sep] w fun e w' => e = .returned (.string (cutA left sep)) ∧ Took b (cutB left sep) w w' := by
  obtain ⟨m, hm⟩ := hm
  have hc := h.cell
  obtain ⟨x, hx⟩ : ∃ x, x = cutA left sep := ⟨_, rfl⟩
  obtain ⟨y, hy⟩ : ∃ y, y = cutB left sep := ⟨_, rfl⟩
  have HX : Hid ((⟨(Lib.cut left.data.toList sep.data.toList).1.toArray⟩ : ByteArray) = x) := hx.symm
  have HY : Hid ((⟨(Lib.cut left.data.toList sep.data.toList).2.1.toArray⟩ : ByteArray) = y) := hy.symm
  rw [← hx, ← hy]
  clear hx hy
  go_enter Tryz.func36, Tryz.ntmps36
  go_wp2_with fail
  refine (Tryz.strings_Cut left sep m _ (by omega) hm).mono ?_
  rintro e w1 ⟨rfl, k, rfl⟩
  rw [HX.out, HY.out]
  generalize (Lib.cut left.data.toList sep.data.toList).2.2 = t
  have h1 : Reader (w.drewN k) b left := h
  have hg : w.grownBy (w.drewN k) (some b) := ⟨rfl, rfl, rfl, Nat.le_refl _, fun _ _ _ => rfl⟩
  have hc1 := h1.cell
  have hf1 := h1.frozen
  have HT : Hid (Took b y w ((w.drewN k).setCell ⟨b, 0, none⟩ (.string y))) := ⟨h1.put y, grown_then hg (grown_set _ _ _ _)⟩
  clear hc h hm h1 hg
  go_wp2_with fail
  go_ret
  exact ⟨rfl, HT.out⟩

set_option maxHeartbeats 400000 in
theorem pass_any (b : Nat) (left word : ByteArray) (w : World) (h : Reader w b left) :
    Calls Tryz.prog 65 #[.pointer (some ⟨b, 0, none⟩), .string word] w fun e w' => e = .returned (.tuple #[]) ∧ Took b (trimP left word) w w' := by
  have hc := h.cell
  have hf := h.frozen
  have HT : Hid (Took b (trimP left word) w (w.setCell ⟨b, 0, none⟩ (.string (trimP left word)))) := ⟨h.put _, grown_set _ _ _ _⟩
  obtain ⟨y, hy⟩ : ∃ y, y = trimP left word := ⟨_, rfl⟩
  have HY : Hid ((⟨(Lib.trimPrefix left.data.toList word.data.toList).toArray⟩ : ByteArray) = y) := hy.symm
  rw [← hy] at HT ⊢
  clear hy h
  go_enter Tryz.func65, Tryz.ntmps65
  go_wp2_with fail
  refine (Tryz.strings_TrimPrefix left word _).mono ?_
  rintro e w1 ⟨rfl, rfl⟩
  rw [HY.out]
  go_wp2_with fail
  exact bodyPost_end (v := .tuple #[]) (by simp [results, Tryz.results65, go_sem]) rfl ⟨rfl, HT.out⟩

set_option maxHeartbeats 400000 in
theorem headIsOver_any (b : Nat) (left : ByteArray) (w : World) (h : Reader w b left) :
    Calls Tryz.prog 80 #[.pointer (some ⟨b, 0, none⟩)] w fun e w' => e = .returned (.bool (hasP left lnE)) ∧ w' = w := by
  have hc := h.cell
  obtain ⟨t, ht⟩ : ∃ t, t = hasP left lnE := ⟨_, rfl⟩
  rw [← ht]
  go_enter Tryz.func80, Tryz.ntmps80
  go_wp2_with fail
  refine (Tryz.strings_HasPrefix left lnE _).mono ?_
  rintro e w1 ⟨rfl, rfl⟩
  have HT : Hid (Lib.hasPrefix left.data.toList lnE.data.toList = t) := ht.symm
  rw [HT.out]
  clear ht
  go_wp2_with fail
  go_ret
  exact ⟨rfl, rfl⟩

/-- A message that is being read: what is left, and the fields so far. -/
structure RdSt (w : World) (B b q : Nat) (T : TypeId) (bd : ByteArray) (tl : List Value) (fs : List (ByteArray × ByteArray)) (left : ByteArray) (fv : Value) (W : World) : Prop where
  rd : Reader W b left
  qc : W.heap[q]? = some (.cells ⟨fv :: .string bd :: tl⟩ T)
  own : W.ownsRow B 63 2 fv fs.length (flatF fs)
  low : Below B w W
/-- A message's block is no row of fields. -/
def TypeOk (T : TypeId) : Prop := T ≠ 63
theorem own_not {w : World} {base : Nat} {t : TypeId} {size : Nat} {v : Value} {n : Nat} {xs : List Value} {j : Nat} {cs : Array Value} {T : TypeId} {fr : Nat × Nat} (h : w.ownsRow base t size v n xs) (hT : T ≠ t) (hj : w.heap[j]? = some (.cells cs T fr)) : v.ownBlock ≠ some j := by
  intro e
  rcases h.2 with ⟨rfl, _⟩ | ⟨g, cap, cur, rfl, _, h1, _⟩
  · cases e
  · cases e
    rw [h1] at hj
    cases hj
    exact hT rfl
theorem owns_block_lt {w : World} {base : Nat} {t : TypeId} {size : Nat} {v : Value} {n : Nat} {xs : List Value} {j : Nat} (h : w.ownsRow base t size v n xs) (hj : v.ownBlock = some j) : base ≤ j ∧ j < w.heap.size := by
  rcases h.2 with ⟨rfl, _⟩ | ⟨g, cap, cur, rfl, h0, h1, _⟩
  · cases hj
  · cases hj
    exact ⟨h0, (Array.getElem?_eq_some_iff.1 h1).1⟩
theorem RdSt.bq {w : World} {B b q : Nat} {T : TypeId} {bd : ByteArray} {tl : List Value} {fs : List (ByteArray × ByteArray)} {left : ByteArray} {fv : Value} {W : World} (h : RdSt w B b q T bd tl fs left fv W) : q ≠ b := by
  intro e
  subst e
  have := h.rd
  unfold Reader at this
  rw [h.qc] at this
  cases this
/-- The reader took a piece: all else stands. -/
theorem RdSt.took {w : World} {B b q : Nat} {T : TypeId} {bd : ByteArray} {tl : List Value} {fs : List (ByteArray × ByteArray)} {left left' : ByteArray} {fv : Value} {W W' : World} (h : RdSt w B b q T bd tl fs left fv W) (hB : B ≤ W.heap.size) (hb : B ≤ b) (ht : Took b left' W W') : RdSt w B b q T bd tl fs left' fv W' := by
  have hq := h.bq
  have hqlt : q < W.heap.size := (Array.getElem?_eq_some_iff.1 h.qc).1
  refine ⟨ht.1, ?_, ?_, h.low.trans (below_grown ht.2 hB hb)⟩
  · rw [ht.2.block q hqlt (by simpa using hq)]; exact h.qc
  · refine owns_same h.own (fun j hj => ?_)
    have hlt := (owns_block_lt h.own hj).2
    refine ht.2.block j hlt ?_
    intro e
    cases e
    have := h.rd
    unfold Reader at this
    exact own_not h.own (by decide) this hj
/-- Memory was made: all stands. -/
theorem RdSt.below {w : World} {B b q : Nat} {T : TypeId} {bd : ByteArray} {tl : List Value} {fs : List (ByteArray × ByteArray)} {left : ByteArray} {fv : Value} {W W' : World} (h : RdSt w B b q T bd tl fs left fv W) (hB : B ≤ W.heap.size) (hb : Below W.heap.size W W') : RdSt w B b q T bd tl fs left fv W' := by
  have hqlt : q < W.heap.size := (Array.getElem?_eq_some_iff.1 h.qc).1
  have hblt : b < W.heap.size := (Array.getElem?_eq_some_iff.1 h.rd).1
  refine ⟨?_, ?_, ?_, h.low.trans (hb.mono hB)⟩
  · have := h.rd
    unfold Reader at this ⊢
    rw [hb.block b hblt]; exact this
  · rw [hb.block q hqlt]; exact h.qc
  · exact owns_same h.own (fun j hj => hb.block j (owns_block_lt h.own hj).2)
theorem RdSt.qcell {w : World} {B b q : Nat} {T : TypeId} {bd : ByteArray} {tl : List Value} {fs : List (ByteArray × ByteArray)} {left : ByteArray} {fv : Value} {W : World} (h : RdSt w B b q T bd tl fs left fv W) : W.cell? ⟨q, 0, none⟩ = some fv ∧ W.cell? ⟨q, 1, none⟩ = some (.string bd) ∧ W.frozen? ⟨q, 0, none⟩ = false ∧ W.frozen? ⟨q, 1, none⟩ = false := by
  have := h.qc
  refine ⟨?_, ?_, ?_, ?_⟩ <;> simp [World.cell?, World.frozen?, this]
/-- A field more, appended and laid into the message. -/
theorem RdSt.more {w : World} {B b q : Nat} {T : TypeId} {bd : ByteArray} {tl : List Value} {fs : List (ByteArray × ByteArray)} {left nm vl : ByteArray} {fv : Value} {W W' : World} {v' : Value} {o : Obj} (h : RdSt w B b q T bd tl fs left fv W) (hT : TypeOk T) (hB : B ≤ W.heap.size) (hq : B ≤ q)
    (hg : (W.alloc o).grownBy W' fv.ownBlock) (hown : W'.ownsRow B 63 2 v' (fs.length + 1) (flatF fs ++ [.string nm, .string vl])) :
    (W'.heap[q]? = some (.cells ⟨fv :: .string bd :: tl⟩ T)) ∧ RdSt w B b q T bd tl (fs ++ [(nm, vl)]) left v' (W'.setCell ⟨q, 0, none⟩ v') := by
  have hqlt : q < W.heap.size := (Array.getElem?_eq_some_iff.1 h.qc).1
  have hblt : b < W.heap.size := (Array.getElem?_eq_some_iff.1 h.rd).1
  have hne := h.bq
  have k1 : W'.heap[q]? = some (.cells ⟨fv :: .string bd :: tl⟩ T) := by
    rw [hg.block q (by simp; omega) (fun e => own_not h.own hT h.qc e.symm), heap_alloc_old W _ hqlt]; exact h.qc
  have k2 : W'.heap[b]? = some (.cells #[.string left] 67) := by
    have hr := h.rd
    unfold Reader at hr
    rw [hg.block b (by simp; omega) (fun e => own_not h.own (by decide) hr e.symm), heap_alloc_old W _ hblt]; exact hr
  have hz : ∀ g, fv.ownBlock = some g → B ≤ g := fun g hg => (owns_block_lt h.own hg).1
  have low1 : Below B w W' := (h.low.alloc hB o).grown hg (by simp; omega) hz
  refine ⟨k1, ⟨?_, ?_, ?_, low1.setCell (p := ⟨q, 0, none⟩) hq _⟩⟩
  · show _ = _
    rw [heap_setCell_other _ _ b _ (fun e => hne e.symm)]; exact k2
  · rw [heap_set _ _ _ _ _ _ _ k1]; rfl
  · rw [flatF_append, flatF_one, List.length_append]
    refine owns_same hown (fun j hj => ?_)
    rw [heap_setCell_other _ _ j _ (fun e => by
      subst e
      exact own_not hown hT k1 hj)]

def lineFs (fs : List (ByteArray × ByteArray)) (left : ByteArray) : List (ByteArray × ByteArray) := if cutA left nmE = clen then fs else fs ++ [(cutA left nmE, cutA (cutB left nmE) lnE)]
def lineLeft (left : ByteArray) : ByteArray := cutB (cutB left nmE) lnE
set_option maxHeartbeats 1000000 in
set_option maxRecDepth 100000 in
theorem readLine_any (w0 : World) (B b q : Nat) (T : TypeId) (bd : ByteArray) (tl : List Value) (fs : List (ByteArray × ByteArray)) (left : ByteArray) (fv : Value) (w : World) (hst : RdSt w0 B b q T bd tl fs left fv w) (hT : TypeOk T) (hB : B ≤ w.heap.size) (hbB : B ≤ b) (hqB : B ≤ q) (hl : left.size ≤ 4000000) (hn : fs.length ≤ 1000) (hlen : LenOk w0) (hlB : 0 < B) :
    Calls Tryz.prog 81 #[.pointer (some ⟨q, 0, none⟩), .pointer (some ⟨b, 0, none⟩)] w fun e w' => e = .returned (.tuple #[]) ∧ ∃ fv', RdSt w0 B b q T bd tl (lineFs fs left) (lineLeft left) fv' w' := by
  obtain ⟨i0, hi, hz0, hz1, hz2⟩ := info_parts info33
  have hlen0 := hlen.below hst.low hlB
  have z1 := cutA_size left nmE
  have z2 := cutB_size left nmE
  have z3 := cutA_size (cutB left nmE) lnE
  go_enter Tryz.func81, Tryz.ntmps81
  go_wp2_with fail
  refine (upTo_any b left nmE _ hst.rd hl hlen0).mono ?_
  rintro e w1 ⟨rfl, ht1⟩
  have hst1 := hst.took hB hbB ht1
  have hB1 : B ≤ w1.heap.size := Nat.le_trans hB ht1.2.size
  have hlen1 := hlen.below hst1.low hlB
  clear hst ht1 hlen0 hB
  go_wp2_with fail
  refine (upTo_any b (cutB left nmE) lnE _ hst1.rd (by omega) hlen1).mono ?_
  rintro e w2 ⟨rfl, ht2⟩
  have hst2 := hst1.took hB1 hbB ht2
  have hB2 : B ≤ w2.heap.size := Nat.le_trans hB1 ht2.2.size
  clear hst1 ht2 hlen1 hB1
  obtain ⟨nm, hnm⟩ : ∃ x, x = cutA left nmE := ⟨_, rfl⟩
  obtain ⟨vl, hvl⟩ : ∃ x, x = cutA (cutB left nmE) lnE := ⟨_, rfl⟩
  obtain ⟨lf, hlf⟩ : ∃ x, x = cutB (cutB left nmE) lnE := ⟨_, rfl⟩
  rw [← hnm] at z1
  rw [← hvl] at z3
  rw [← hlf] at hst2
  rw [← hnm, ← hvl]
  have HLF : Hid (lineLeft left = lf) := hlf.symm
  by_cases hcl : nm = clen
  · have HFS : Hid (lineFs fs left = fs) := by
      show _ = _
      unfold lineFs
      rw [← hnm, if_pos hcl]
    have ht : (nm.toList == clen.toList) = true := (text_beq _ _).2 hcl
    rw [clen_list] at ht
    have HS2 : Hid (RdSt w0 B b q T bd tl fs lf fv w2) := hst2
    clear hnm hvl hlf hst2 hcl
    go_wp2_with fail
    exact bodyPost_end (v := .tuple #[]) (by simp [results, Tryz.results81, go_sem]) rfl ⟨rfl, fv, by rw [HFS.out, HLF.out]; exact HS2.out⟩
  · have HFS : Hid (lineFs fs left = fs ++ [(nm, vl)]) := by
      show _ = _
      unfold lineFs
      rw [← hnm, if_neg hcl, ← hvl]
    have ht := text_beq_no hcl
    rw [clen_list] at ht
    have HS2 : Hid (RdSt w0 B b q T bd tl fs lf fv w2) := hst2
    clear hnm hvl hlf hst2 hcl
    obtain ⟨oa, cp, rfl⟩ := slice_of_owns HS2.out.own
    obtain ⟨n, hn0⟩ : ∃ n, n = fs.length := ⟨_, rfl⟩
    have HN : Hid (n = fs.length) := hn0
    rw [← hn0] at HS2 hn
    clear hn0
    have HA : Hid (∀ W, Below w2.drew.heap.size w2.drew W → Hid (RdSt w0 B b q T bd tl fs lf (.slice oa n cp) W) ∧ Hid (W.ownsRow B 63 2 (.slice oa n cp) n (flatF fs)) ∧ W.cell? ⟨q, 0, none⟩ = some (.slice oa n cp) ∧ (∀ o, (W.alloc o).cell? ⟨q, 0, none⟩ = some (.slice oa n cp)) ∧ Hid (B ≤ W.heap.size) ∧ Hid (∀ o, B ≤ (W.alloc o).heap.size)) := fun W hW => by
      have hd : RdSt w0 B b q T bd tl fs lf (.slice oa n cp) w2.drew := HS2.out.below hB2 ((Below.refl _ _).drew)
      have h3 := hd.below hB2 hW
      have h4 : B ≤ W.heap.size := Nat.le_trans hB2 hW.size
      refine ⟨h3, by have := h3.own; rw [← HN.out] at this; exact this, h3.qcell.1, fun o => ?_, h4, fun o => by simp; omega⟩
      exact (h3.below h4 ((Below.refl _ _).alloc (Nat.le_refl _) o)).qcell.1
    have HM : Hid (∀ W3 W4 g cap, Hid (RdSt w0 B b q T bd tl fs lf (.slice oa n cp) W3) → Hid (B ≤ W3.heap.size) → (W3.alloc (.cells #[.string nm, .string vl] 63)).grownBy W4 (Value.slice oa n cp).ownBlock → W4.ownsRow B 63 2 (.slice (some ⟨g, 0, none⟩) (n + 1) cap) (n + 1) (flatF fs ++ [.string nm, .string vl]) → W4.cell? ⟨q, 0, none⟩ = some (.slice oa n cp) ∧ W4.frozen? ⟨q, 0, none⟩ = false ∧ Hid (RdSt w0 B b q T bd tl (fs ++ [(nm, vl)]) lf (.slice (some ⟨g, 0, none⟩) (n + 1) cap) (W4.setCell ⟨q, 0, none⟩ (.slice (some ⟨g, 0, none⟩) (n + 1) cap)))) := fun W3 W4 g cap h3 h4 hg ho => by
      obtain ⟨k1, k2⟩ := h3.out.more hT h4.out hqB hg (v' := .slice (some ⟨g, 0, none⟩) (n + 1) cap) (nm := nm) (vl := vl) (by rw [← HN.out]; exact ho)
      exact ⟨by simp [World.cell?, k1], by simp [World.frozen?, k1], k2⟩
    have hc2 : w2.cell? ⟨q, 0, none⟩ = some (.slice oa n cp) := HS2.out.qcell.1
    have h63 : n + 1 ≤ maxLen := by unfold maxLen; omega
    have h47 : (n + 1) * 32 ≤ 140737488355328 := by omega
    have y1 : nm.size ≤ 281474976710656 := by omega
    have y2 : vl.size ≤ 281474976710656 := by omega
    clear HS2 hT hlen z1 z2 z3 hl hn
    go_wp2_with fail
    go_region_law (first | (go_simp; go_at_call 89; refine (newField_any nm vl _ y1 y2).mono ?_; rintro e w3 ⟨rfl, bb3⟩; obtain ⟨HS3, HO3, hc3, hca3, HB3, HBA3⟩ := HA.out w3 bb3; clear bb3) | ((refine step_append_lies _ (by rfl) _ _ _ (by rfl) B 63 i0 (.agg #[.string ⟨#[]⟩, .string ⟨#[]⟩]) 2 32 Tryz.underlying81 hi hz0 hz1 hz2 rfl (by omega) (.slice oa n cp) n (flatF fs) (by rfl) (HO3.out.alloc _) ⟨w3.heap.size, 0, none⟩ 1 1 [.string nm, .string vl] (by rfl) (by rfl) (World.news_of_block (cs := #[.string nm, .string vl]) (t := 63) (fr := (0, 0)) (heap_alloc_new w3 _)) (by simp [Value.oneCell']) (by omega) h63 h47 (HBA3.out _) (w3.heap.size + 1) (by simp) ?_; intro g4 cap4 w4 hown4 hgrow4 hat4 hlt4; obtain ⟨hc4, hf4, HS4⟩ := HM.out w3 w4 g4 cap4 HS3 HB3 hgrow4 hown4; clear hown4 hgrow4 hat4 hlt4)))
    all_goals
      go_wp2_with fail
      exact bodyPost_end (v := .tuple #[]) (by simp [results, Tryz.results81, go_sem]) rfl ⟨rfl, _, by rw [HFS.out, HLF.out]; exact HS4.out⟩

end Go.Proofs.YtacfajnagbeocaaGreatDoor

namespace Go.Proofs.YtacfajnagbeocaaGreatDoor
open Go.RowKit
open Go.Lib hiding intOf

theorem path_cls (n : Int) : PathB n ↔ (cls n ≠ 4 ∧ cls n ≠ 7) := by
  have := cls_spec n
  unfold PathB
  constructor
  · intro h; omega
  · intro h; omega
theorem path_small {n : Int} (h : PathB n) : n < 128 := by unfold PathB at h; omega

set_option maxHeartbeats 400000 in
theorem isPathRune_any (r : Int) (w : World) :
    Calls Tryz.prog 83 #[.int .i32 r] w fun e w' => BoolIs (PathB r) w e w' := by
  have HP : Hid (PathB r ↔ (cls r ≠ 4 ∧ cls r ≠ 7)) := path_cls r
  go_enter Tryz.func83, Tryz.ntmps83
  go_wp2_with fail
  refine (classOf_any r _).mono ?_
  rintro e w1 ⟨rfl, hb⟩
  generalize cls r = c at HP ⊢
  by_cases h4 : c = 4
  · have HN : Hid (¬ PathB r) := fun h => (HP.out.1 h).1 h4
    subst h4
    go_wp2_with fail
    go_ret
    exact BoolIs.no HN.out hb
  · have h5 : (c != 4) = true := by rw [bne_iff_ne]; exact h4
    by_cases h7 : c = 7
    · have HN : Hid (¬ PathB r) := fun h => (HP.out.1 h).2 h7
      subst h7
      go_wp2_with fail
      go_ret
      exact BoolIs.no HN.out hb
    · have h8 : (c != 7) = true := by rw [bne_iff_ne]; exact h7
      have HY : Hid (PathB r) := HP.out.2 ⟨h4, h7⟩
      go_wp2_with fail
      go_ret
      exact BoolIs.yes HY.out hb

set_option maxHeartbeats 1000000 in
theorem allRunes_path (s : ByteArray) (w : World) :
    Calls Tryz.prog 82 #[.string s, .func (.func 83) #[] #[]] w fun e w' => BoolIs (AllB PathB s) w e w' := by
  go_enter Tryz.func82, Tryz.ntmps82
  go_wp2
  go_loopw [6] (fun _ wr => ∃ pos : Nat, wr.heap[w.heap.size]? = some (.stringIter s pos) ∧ Below w.heap.size w wr ∧ Hid (AllTo PathB s pos)) (fun _ wr => s.size - wr.iterPos w.heap.size)
  case atStart => exact ⟨0, World.iter_heap _ _ _, (Below.refl _ _).alloc (Nat.le_refl _) _, allTo_zero _ _⟩
  case round =>
    obtain ⟨pos, hh, hbw, hall⟩ := hrel
    by_cases hp : pos < s.size
    · have hnx := fun ty => run_next_any_at (P := Tryz.prog) wr w.heap.size s pos ty hh hp
      go_wp2_with (go_at_call 83; refine (isPathRune_any _ _).mono ?_; rintro e w1 ⟨b, rfl, hbt, hb1⟩)
      · have hbf : b = false := by simpa using ‹(!b) = true›
        have hno : ¬ PathB ((Utf8.decode s pos).1 : Int) := fun h => by rw [hbt.2 h] at hbf; cases hbf
        go_ret
        exact BoolIs.no (rune_no (fun _ => path_small) s pos hp hno) (iter_step hh hbw hb1).2
      · have hbf : b = true := by simpa using ‹(!b) = false›
        obtain ⟨hv, hone⟩ := rune_ok (fun _ => path_small) s pos hp (hbt.1 hbf)
        rw [hone] at hb1
        obtain ⟨h1, h2⟩ := iter_step hh hbw hb1
        exact ⟨⟨pos + 1, h1, h2, allTo_succ hall.out hp hv⟩, by rw [iterPos_of h1, iterPos_of hh]; omega⟩
    · have hnx := fun ty => run_next_end_at (P := Tryz.prog) wr w.heap.size s pos ty hh hp
      go_wp2
      go_ret
      exact BoolIs.yes (allTo_end hall.out hp) hbw

set_option maxHeartbeats 1000000 in
theorem pathOk_any (s : ByteArray) (w : World) (hs : s.size ≤ maxLen) :
    Calls Tryz.prog 68 #[.string s] w fun e w' => BoolIs (PathOk s) w e w' := by
  unfold maxLen at hs
  by_cases h1 : (1 : Int) ≤ (s.size : Int)
  · have h0 : 0 < s.size := by omega
    by_cases h2 : (s.size : Int) ≤ 60
    · by_cases h3 : ((s[0]'h0).toNat : Int) = 47
      · have h4 : (((s[0]'h0).toNat : Int) == 47) = true := by rw [beq_iff_eq]; exact h3
        have H3 : Hid ((s[0]'h0).toNat = 47) := by show _ = _; omega
        clear h3
        go_enter Tryz.func68, Tryz.ntmps68
        go_wp2_with fail
        refine (allRunes_path s _).mono ?_
        rintro e w1 ⟨b, rfl, hbt, hb1⟩
        cases b
        · have HN : Hid (¬ PathOk s) := fun h => by have := hbt.2 h.1; cases this
          clear hbt
          go_wp2_with fail
          go_ret
          exact BoolIs.no HN.out hb1
        · have HY : Hid (PathOk s) := ⟨hbt.1 rfl, by omega, by omega, h0, H3.out⟩
          clear hbt
          go_wp2_with fail
          go_ret
          exact BoolIs.yes HY.out hb1
      · have h4 : (((s[0]'h0).toNat : Int) == 47) = false := by rw [beq_eq_false_iff_ne]; exact h3
        have HN : Hid (¬ PathOk s) := fun h => by obtain ⟨_, _, _, _, h5⟩ := h; omega
        clear h3
        go_enter Tryz.func68, Tryz.ntmps68
        go_wp2_with fail
        go_ret
        exact BoolIs.no HN.out (Below.refl _ _)
    · have HN : Hid (¬ PathOk s) := fun h => by obtain ⟨_, _, h5, _⟩ := h; omega
      have hd : decide ((s.size : Int) ≤ 60) = false := by simpa using h2
      go_enter Tryz.func68, Tryz.ntmps68
      go_wp2_with fail
      go_ret
      exact BoolIs.no HN.out (Below.refl _ _)
  · have HN : Hid (¬ PathOk s) := fun h => by obtain ⟨_, h5, _⟩ := h; omega
    have hd : decide ((1 : Int) ≤ (s.size : Int)) = false := by simpa using h1
    go_enter Tryz.func68, Tryz.ntmps68
    go_wp2_with fail
    go_ret
    exact BoolIs.no HN.out (Below.refl _ _)

theorem methB_none {m : Int} (h : ¬ (1 ≤ m ∧ m ≤ 4)) : methB m = ⟨#[]⟩ := by
  unfold methB
  rw [if_neg (by omega), if_neg (by omega), if_neg (by omega), if_neg (by omega)]
set_option maxHeartbeats 400000 in
theorem methodName_any (m : Int) (w : World) :
    Calls Tryz.prog 67 #[.int .i64 m] w fun e w' => e = .returned (.string (methB m)) ∧ w' = w := by
  by_cases h1 : m = 1
  · subst h1
    go_enter Tryz.func67, Tryz.ntmps67
    go_wp2
    go_ret
    exact ⟨rfl, rfl⟩
  · by_cases h2 : m = 2
    · subst h2
      go_enter Tryz.func67, Tryz.ntmps67
      go_wp2
      go_ret
      exact ⟨rfl, rfl⟩
    · by_cases h3 : m = 3
      · subst h3
        go_enter Tryz.func67, Tryz.ntmps67
        go_wp2
        go_ret
        exact ⟨rfl, rfl⟩
      · by_cases h4 : m = 4
        · subst h4
          go_enter Tryz.func67, Tryz.ntmps67
          go_wp2
          go_ret
          exact ⟨rfl, rfl⟩
        · have HE : Hid (methB m = ⟨#[]⟩) := methB_none (by omega)
          have e1 : (m == 1) = false := by rw [beq_eq_false_iff_ne]; exact h1
          have e2 : (m == 2) = false := by rw [beq_eq_false_iff_ne]; exact h2
          have e3 : (m == 3) = false := by rw [beq_eq_false_iff_ne]; exact h3
          have e4 : (m == 4) = false := by rw [beq_eq_false_iff_ne]; exact h4
          go_enter Tryz.func67, Tryz.ntmps67
          go_wp2
          go_ret
          exact ⟨by rw [HE.out]; rfl, rfl⟩

/-- What is right of what stands behind the first line. -/
def RestP (fs : List (ByteArray × ByteArray)) (b : ByteArray) : Prop := FldsOk fs ∧ b.size ≤ 120
set_option maxHeartbeats 1000000 in
theorem restOk_any (v : Value) (b : ByteArray) (n base : Nat) (fs : List (ByteArray × ByteArray)) (w : World) (hv : FieldsV w base v n fs) (hn : n ≤ 1073741824) (hsz : WalkF n fs) (hb : b.size ≤ maxLen) :
    Calls Tryz.prog 69 #[.agg #[v, .string b]] w fun e w' => BoolIs (RestP fs b) w e w' := by
  obtain ⟨oa, cap, rfl, _⟩ := hv.slice
  obtain ⟨r, hr⟩ : ∃ r, r = w.heap.size := ⟨_, rfl⟩
  have HR : Hid (∀ W, Below (w.alloc (.cells #[.slice oa n cap, .string b] 83)).heap.size (w.alloc (.cells #[.slice oa n cap, .string b] 83)) W → (W.cell? ⟨r, 0, none⟩ = some (.slice oa n cap) ∧ W.cell? ⟨r, 1, none⟩ = some (.string b)) ∧ FieldsV W base (.slice oa n cap) n fs ∧ Below w.heap.size w W) := fun W h => by
    have hh := kept_new h
    rw [← hr] at hh
    exact ⟨⟨by simp [World.cell?, hh], by simp [World.cell?, hh]⟩, hv.below (below_new h), below_new h⟩
  obtain ⟨_, hv0, _⟩ := HR.out _ (Below.refl _ _)
  unfold maxLen at hb
  go_enter Tryz.func69, Tryz.ntmps69
  go_wp2_with fail
  refine (ok_any _ n base fs _ hv0 hn hsz).mono ?_
  rintro e w1 ⟨b1, rfl, kb1, bb1⟩
  rw [← hr]
  obtain ⟨⟨c0, c1⟩, _, hbw1⟩ := HR.out w1 bb1
  clear hv hv0 hsz bb1 hr
  cases b1
  · have HF : Hid (¬ RestP fs b) := fun h => by have := kb1.2 h.1; cases this
    clear kb1
    go_wp2_with fail
    go_ret
    exact BoolIs.no HF.out hbw1
  · have HT : Hid (FldsOk fs) := kb1.1 rfl
    clear kb1
    by_cases h120 : (b.size : Int) ≤ 120
    · have HY : Hid (RestP fs b) := ⟨HT.out, by omega⟩
      go_wp2_with fail
      go_ret
      exact BoolIs.yes HY.out hbw1
    · have HF : Hid (¬ RestP fs b) := fun h => by have := h.2; omega
      have hd : decide ((b.size : Int) ≤ 120) = false := by simpa using h120
      go_wp2_with fail
      go_ret
      exact BoolIs.no HF.out hbw1

theorem meth_empty {m : Int} (h : 1 ≤ m ∧ m ≤ 4) : (methB m).toList.isEmpty = false := by
  refine isEmpty_no ?_
  rcases meth_cases h with rfl | rfl | rfl | rfl <;> decide
set_option maxHeartbeats 1000000 in
theorem reqOk_any (m : Int) (p : ByteArray) (v : Value) (b : ByteArray) (n base : Nat) (fs : List (ByteArray × ByteArray)) (w : World) (hv : FieldsV w base v n fs) (hn : n ≤ 1073741824) (hsz : WalkF n fs) (hp : p.size ≤ maxLen) (hb : b.size ≤ maxLen) :
    Calls Tryz.prog 53 #[.agg #[v, .string b, .int .i64 m, .string p]] w fun e w' => BoolIs (ReqP m p fs b) w e w' := by
  obtain ⟨oa, cap, rfl, _⟩ := hv.slice
  obtain ⟨r, hr⟩ : ∃ r, r = w.heap.size := ⟨_, rfl⟩
  have HR : Hid (∀ W, Below (w.alloc (.cells #[.slice oa n cap, .string b, .int .i64 m, .string p] 85)).heap.size (w.alloc (.cells #[.slice oa n cap, .string b, .int .i64 m, .string p] 85)) W → (W.cell? ⟨r, 0, none⟩ = some (.slice oa n cap) ∧ W.cell? ⟨r, 1, none⟩ = some (.string b) ∧ W.cell? ⟨r, 2, none⟩ = some (.int .i64 m) ∧ W.cell? ⟨r, 3, none⟩ = some (.string p)) ∧ FieldsV W base (.slice oa n cap) n fs ∧ Below w.heap.size w W) := fun W h => by
    have hh := kept_new h
    rw [← hr] at hh
    exact ⟨⟨by simp [World.cell?, hh], by simp [World.cell?, hh], by simp [World.cell?, hh], by simp [World.cell?, hh]⟩, hv.below (below_new h), below_new h⟩
  have HSZ : Hid (WalkF n fs) := hsz
  have HP : Hid (p.size ≤ maxLen) := hp
  have HBS : Hid (b.size ≤ maxLen) := hb
  clear hv hsz hp hb
  go_enter Tryz.func53, Tryz.ntmps53
  go_wp2_with fail
  refine (methodName_any m _).mono ?_
  rintro e w1 ⟨rfl, hw1⟩
  have hb1 : Below (w.alloc (.cells #[.slice oa n cap, .string b, .int .i64 m, .string p] 85)).heap.size (w.alloc (.cells #[.slice oa n cap, .string b, .int .i64 m, .string p] 85)) w1 := by rw [hw1]; exact Below.refl _ _
  clear hw1
  rw [← hr]
  obtain ⟨⟨c0, c1, c2, c3⟩, _, hbw1⟩ := HR.out w1 hb1
  by_cases hm : 1 ≤ m ∧ m ≤ 4
  · have e1 := meth_empty hm
    have HM : Hid (1 ≤ m ∧ m ≤ 4) := hm
    generalize methB m = mt at e1 ⊢
    clear hr hm
    go_wp2_with fail
    refine (pathOk_any p _ HP.out).mono ?_
    rintro e w2 ⟨b1, rfl, kb1, bb2⟩
    have hb2 := hb1.trans (bb2.mono hb1.size)
    clear c0 c1 c2 c3 bb2 hb1 hbw1
    obtain ⟨⟨c0, c1, c2, c3⟩, hv2, hbw2⟩ := HR.out w2 hb2
    have HV2 : Hid (FieldsV w2 base (.slice oa n cap) n fs) := hv2
    clear hv2
    cases b1
    · have HF : Hid (¬ ReqP m p fs b) := fun h => by have := kb1.2 h.2.1; cases this
      clear kb1
      go_wp2_with fail
      go_ret
      exact BoolIs.no HF.out hbw2
    · have HT : Hid (PathOk p) := kb1.1 rfl
      clear kb1
      go_wp2_with fail
      refine (restOk_any _ b n base fs _ HV2.out hn HSZ.out HBS.out).mono ?_
      rintro e w3 ⟨b2, rfl, kb2, bb3⟩
      have hb3 := hb2.trans (bb3.mono hb2.size)
      clear c0 c1 c2 c3 bb3 hb2 hbw2
      obtain ⟨_, _, hbw3⟩ := HR.out w3 hb3
      cases b2
      · have HF : Hid (¬ ReqP m p fs b) := fun h => by have := kb2.2 h.2.2; cases this
        clear kb2
        go_wp2_with fail
        go_ret
        exact BoolIs.no HF.out hbw3
      · have HY : Hid (ReqP m p fs b) := ⟨HM.out, HT.out, kb2.1 rfl⟩
        clear kb2
        go_wp2_with fail
        go_ret
        exact BoolIs.yes HY.out hbw3
  · have HF : Hid (¬ ReqP m p fs b) := fun h => hm h.1
    rw [methB_none hm]
    clear hr hm
    go_wp2_with fail
    go_ret
    exact BoolIs.no HF.out hbw1

set_option maxHeartbeats 400000 in
theorem face_any (m : Int) (p : ByteArray) (oa : Option Addr) (n cap : Nat) (b : ByteArray) (w : World) :
    Calls Tryz.prog 55 #[.agg #[.slice oa n cap, .string b, .int .i64 m, .string p]] w fun e w' => e = .returned (.agg #[.int .i64 m, .string p, .slice oa n cap, .string b]) ∧ Below w.heap.size w w' := by
  go_enter Tryz.func55, Tryz.ntmps55
  go_wp2
  exact bodyPost_ret (v := .agg #[.int .i64 m, .string p, .slice oa n cap, .string b]) (by simp [results, Tryz.results55, go_sem]) rfl ⟨rfl, ((Below.refl _ _).alloc (Nat.le_refl _) _).alloc (by simp) _⟩
end Go.Proofs.YtacfajnagbeocaaGreatDoor

namespace Go.Proofs.YtacfajnagbeocaaGreatDoor
open Go.RowKit
open Go.Lib hiding intOf

/-- What a message's text is behind its first line. -/
def restT (tell : Bool) (fs : List (ByteArray × ByteArray)) (b : ByteArray) : ByteArray :=
  (if tell = true then fieldsText fs ++ (⟨#[]⟩ ++ clen ++ ⟨#[58, 32]⟩ ++ numText b.size ++ ⟨#[13, 10]⟩) else fieldsText fs) ++ ⟨#[13, 10]⟩ ++ b
theorem field_text (a b : ByteArray) : fieldsText [(a, b)] = ⟨#[]⟩ ++ a ++ ⟨#[58, 32]⟩ ++ b ++ ⟨#[13, 10]⟩ := rfl
theorem one_row {w W : World} {base : Nat} {a b : ByteArray} (h : W.heap[w.heap.size]? = some (.cells #[.string a, .string b] 63)) (hb : base ≤ w.heap.size) (hl : w.heap.size < W.heap.size) : FieldsV W base (.slice (some ⟨w.heap.size, 0, none⟩) 1 1) 1 [(a, b)] := by
  refine .inr ⟨w.heap.size, 1, rfl, by omega, ⟨rfl, hb, hl, Nat.le_refl _, by unfold maxLen; omega, _, h, rfl, ?_⟩⟩
  intro i hi
  obtain rfl : i = 0 := by omega
  exact ⟨rfl, rfl⟩
theorem rest_req (m : Int) (p : ByteArray) (fs : List (ByteArray × ByteArray)) (b : ByteArray) : methB m ++ ⟨#[32]⟩ ++ p ++ ⟨#[32]⟩ ++ ⟨#[72, 84, 84, 80, 47, 49, 46, 49]⟩ ++ ⟨#[13, 10]⟩ ++ restT (decide (b.size ≠ 0)) fs b = reqT m p fs b := by
  apply bs_inj
  unfold reqT reqHead restT
  by_cases h : b.size = 0
  · simp [h, bs, httpEnd, lnE]
  · simp [h, bs, httpEnd, lnE, clenK, clen]
theorem restT_size (tell : Bool) {fs : List (ByteArray × ByteArray)} (hf : FldsOk fs) {b : ByteArray} (hb : b.size ≤ 120) : (restT tell fs b).size ≤ 1000 := by
  have h1 := ft_small hf
  have h2 := numText_size b.size
  have e1 : (⟨#[]⟩ : ByteArray).size = 0 := rfl
  have e2 : clen.size = 14 := rfl
  have e3 : (⟨#[58, 32]⟩ : ByteArray).size = 2 := rfl
  have e4 : (⟨#[13, 10]⟩ : ByteArray).size = 2 := rfl
  unfold restT
  cases tell
  · rw [if_neg (by decide)]; simp only [ByteArray.size_append]; omega
  · rw [if_pos rfl]; simp only [ByteArray.size_append]; omega

set_option maxHeartbeats 1000000 in
theorem restText_any (v : Value) (b : ByteArray) (tell : Bool) (n base : Nat) (fs : List (ByteArray × ByteArray)) (w : World) (hv : FieldsV w base v n fs) (hn : n ≤ 1073741824) (hf : FldsOk fs) (hb : b.size ≤ 120) (htab : TabOk w) :
    Calls Tryz.prog 70 #[.agg #[v, .string b], .bool tell] w fun e w' => TextIs (restT tell fs b) w e w' := by
  obtain ⟨oa, cap, rfl, _⟩ := hv.slice
  obtain ⟨r, hr⟩ : ∃ r, r = w.heap.size := ⟨_, rfl⟩
  have HR : Hid (∀ W, Below (w.alloc (.cells #[.slice oa n cap, .string b] 83)).heap.size (w.alloc (.cells #[.slice oa n cap, .string b] 83)) W → (W.cell? ⟨r, 0, none⟩ = some (.slice oa n cap) ∧ W.cell? ⟨r, 1, none⟩ = some (.string b)) ∧ FieldsV W base (.slice oa n cap) n fs ∧ Below w.heap.size w W) := fun W h => by
    have hh := kept_new h
    rw [← hr] at hh
    exact ⟨⟨by simp [World.cell?, hh], by simp [World.cell?, hh]⟩, hv.below (below_new h), below_new h⟩
  obtain ⟨_, hv0, _⟩ := HR.out _ (Below.refl _ _)
  have hfs := ft_small hf
  have HT : Hid ((fieldsText fs).size ≤ 1099511627776) := by show _ ≤ _; omega
  have HTAB : Hid (TabOk w) := htab
  go_enter Tryz.func70, Tryz.ntmps70
  go_wp2_with fail
  refine (text_any _ n base fs _ hv0 hn HT.out).mono ?_
  rintro e w1 ⟨rfl, bb1⟩
  rw [← hr]
  obtain ⟨⟨c0, c1⟩, _, hbw1⟩ := HR.out w1 bb1
  have HB1 : Hid (Below (w.alloc (.cells #[.slice oa n cap, .string b] 83)).heap.size (w.alloc (.cells #[.slice oa n cap, .string b] 83)) w1) := bb1
  obtain ⟨ft, hft⟩ : ∃ x, x = fieldsText fs := ⟨_, rfl⟩
  rw [← hft] at hfs ⊢
  have HFT : Hid (fieldsText fs = ft) := hft.symm
  clear hv hv0 bb1 hr hf htab hft HT
  have e2 : (⟨#[13, 10]⟩ : ByteArray).size = 2 := rfl
  cases tell
  · have HE : Hid (ft ++ ⟨#[13, 10]⟩ ++ b = restT false fs b) := by
      show _ = _
      unfold restT
      rw [if_neg (by decide), HFT.out]
    have q1 : ¬ 9223372036854775807 < ft.size + 2 := by omega
    have q2 : ¬ 9223372036854775807 < ft.size + 2 + b.size := by omega
    go_wp2_with fail
    go_ret
    exact TextIs.of HE.out hbw1
  · have hT1 : TabOk w1 := HTAB.out.below hbw1
    have hns := numText_size b.size
    obtain ⟨nt, hnt⟩ : ∃ x, x = numText b.size := ⟨_, rfl⟩
    have HNI : Hid (numTextI (b.size : Int) = nt) := by
      show _ = _
      unfold numTextI
      rw [if_neg (by omega), hnt]
      rfl
    rw [← hnt] at hns
    obtain ⟨lt, hlt⟩ : ∃ x, x = fieldsText [((⟨#[99, 111, 110, 116, 101, 110, 116, 45, 108, 101, 110, 103, 116, 104]⟩ : ByteArray), nt)] := ⟨_, rfl⟩
    have hls : lt.size ≤ 40 := by
      rw [hlt, field_text]
      have k1 : (⟨#[]⟩ : ByteArray).size = 0 := rfl
      have k2 : (⟨#[99, 111, 110, 116, 101, 110, 116, 45, 108, 101, 110, 103, 116, 104]⟩ : ByteArray).size = 14 := rfl
      have k3 : (⟨#[58, 32]⟩ : ByteArray).size = 2 := rfl
      simp only [ByteArray.size_append]
      omega
    have HLT : Hid (fieldsText [((⟨#[99, 111, 110, 116, 101, 110, 116, 45, 108, 101, 110, 103, 116, 104]⟩ : ByteArray), nt)] = lt) := hlt.symm
    have HLS : Hid ((fieldsText [((⟨#[99, 111, 110, 116, 101, 110, 116, 45, 108, 101, 110, 103, 116, 104]⟩ : ByteArray), nt)]).size ≤ 1099511627776) := by show _ ≤ _; rw [← hlt]; omega
    have HE : Hid (ft ++ lt ++ ⟨#[13, 10]⟩ ++ b = restT true fs b) := by
      show _ = _
      unfold restT
      rw [if_pos rfl, HFT.out, ← hnt, hlt, field_text]
      rfl
    clear hnt hlt
    go_wp2_with fail
    refine (implNumText_any (b.size : Int) _ (by omega) (by omega) hT1).mono ?_
    rintro e w2 ⟨rfl, bb2⟩
    rw [HNI.out]
    clear c0 c1 hT1
    have HB2 : Hid (Below (w.alloc (.cells #[.slice oa n cap, .string b] 83)).heap.size (w.alloc (.cells #[.slice oa n cap, .string b] 83)) w2) := HB1.out.trans (bb2.mono HB1.out.size)
    clear bb2 hbw1
    obtain ⟨h3, hh3⟩ : ∃ x, x = w2.heap.size := ⟨_, rfl⟩
    have hv3 : FieldsV (w2.alloc (.cells #[.string ⟨#[99, 111, 110, 116, 101, 110, 116, 45, 108, 101, 110, 103, 116, 104]⟩, .string nt] 63)) w2.heap.size (.slice (some ⟨w2.heap.size, 0, none⟩) 1 1) 1 [(⟨#[99, 111, 110, 116, 101, 110, 116, 45, 108, 101, 110, 103, 116, 104]⟩, nt)] := one_row (heap_alloc_new w2 _) (Nat.le_refl _) (by simp)
    have HB3 : Hid (Below (w.alloc (.cells #[.slice oa n cap, .string b] 83)).heap.size (w.alloc (.cells #[.slice oa n cap, .string b] 83)) (w2.alloc (.cells #[.string ⟨#[99, 111, 110, 116, 101, 110, 116, 45, 108, 101, 110, 103, 116, 104]⟩, .string nt] 63))) := HB2.out.alloc HB2.out.size _
    go_wp2_with fail
    refine (text_any _ 1 w2.heap.size [(⟨#[99, 111, 110, 116, 101, 110, 116, 45, 108, 101, 110, 103, 116, 104]⟩, nt)] _ hv3 (by omega) HLS.out).mono ?_
    rintro e w4 ⟨rfl, bb4⟩
    rw [HLT.out]
    obtain ⟨⟨d0, d1⟩, _, hbw4⟩ := HR.out w4 (HB3.out.trans (bb4.mono HB3.out.size))
    clear hv3 bb4 hh3
    have q1 : ¬ 9223372036854775807 < ft.size + lt.size := by omega
    have q2 : ¬ 9223372036854775807 < ft.size + lt.size + 2 := by omega
    have q3 : ¬ 9223372036854775807 < ft.size + lt.size + 2 + b.size := by omega
    go_wp2_with fail
    go_ret
    exact TextIs.of HE.out hbw4

set_option maxHeartbeats 1000000 in
set_option maxRecDepth 100000 in
theorem reqText_any (m : Int) (p : ByteArray) (v : Value) (b : ByteArray) (n base : Nat) (fs : List (ByteArray × ByteArray)) (w : World) (hv : FieldsV w base v n fs) (hn : n ≤ 1073741824) (hsz : WalkF n fs) (hp : p.size ≤ maxLen) (hb : b.size ≤ maxLen) (htab : TabOk w) :
    Calls Tryz.prog 54 #[.agg #[v, .string b, .int .i64 m, .string p]] w fun e w' => TextOf (ReqP m p fs b) (reqT m p fs b) w e w' := by
  obtain ⟨oa, cap, rfl, _⟩ := hv.slice
  obtain ⟨r, hr⟩ : ∃ r, r = w.heap.size := ⟨_, rfl⟩
  have HR : Hid (∀ W, Below (w.alloc (.cells #[.slice oa n cap, .string b, .int .i64 m, .string p] 85)).heap.size (w.alloc (.cells #[.slice oa n cap, .string b, .int .i64 m, .string p] 85)) W → (W.cell? ⟨r, 0, none⟩ = some (.slice oa n cap) ∧ W.cell? ⟨r, 1, none⟩ = some (.string b) ∧ W.cell? ⟨r, 2, none⟩ = some (.int .i64 m) ∧ W.cell? ⟨r, 3, none⟩ = some (.string p)) ∧ FieldsV W base (.slice oa n cap) n fs ∧ Below w.heap.size w W) := fun W h => by
    have hh := kept_new h
    rw [← hr] at hh
    exact ⟨⟨by simp [World.cell?, hh], by simp [World.cell?, hh], by simp [World.cell?, hh], by simp [World.cell?, hh]⟩, hv.below (below_new h), below_new h⟩
  obtain ⟨_, hv0, _⟩ := HR.out _ (Below.refl _ _)
  have HTAB : Hid (TabOk w) := htab
  go_enter Tryz.func54, Tryz.ntmps54
  go_wp2_with fail
  refine (reqOk_any m p _ b n base fs _ hv0 hn hsz hp hb).mono ?_
  rintro e w1 ⟨b1, rfl, kb1, bb1⟩
  rw [← hr]
  obtain ⟨⟨c0, c1, c2, c3⟩, hv1, hbw1⟩ := HR.out w1 bb1
  have HV1 : Hid (FieldsV w1 base (.slice oa n cap) n fs) := hv1
  clear hv hv0 hv1 hsz hp hb htab hr
  cases b1
  · have HF : Hid (¬ ReqP m p fs b) := fun h => by have := kb1.2 h; cases this
    clear kb1 bb1
    go_wp2_with fail
    go_ret
    exact ⟨_, rfl, fun h => absurd h HF.out, fun _ => rfl, hbw1⟩
  · have HY : Hid (ReqP m p fs b) := kb1.1 rfl
    have hps : p.size ≤ 60 := HY.out.2.1.2.2.1
    have hbs : b.size ≤ 120 := HY.out.2.2.2
    have hms := methB_size m
    obtain ⟨mt, hmt⟩ : ∃ x, x = methB m := ⟨_, rfl⟩
    rw [← hmt] at hms
    have HMT : Hid (methB m = mt) := hmt.symm
    have hrs := restT_size (decide (b.size ≠ 0)) HY.out.2.2.1 hbs
    obtain ⟨rt, hrt⟩ : ∃ x, x = restT (decide (b.size ≠ 0)) fs b := ⟨_, rfl⟩
    rw [← hrt] at hrs
    have HRT : Hid (restT (decide (b.size ≠ 0)) fs b = rt) := hrt.symm
    have HE : Hid (mt ++ ⟨#[32]⟩ ++ p ++ ⟨#[32]⟩ ++ ⟨#[72, 84, 84, 80, 47, 49, 46, 49]⟩ ++ ⟨#[13, 10]⟩ ++ rt = reqT m p fs b) := by
      show _ = _
      rw [← HMT.out, ← HRT.out]
      exact rest_req m p fs b
    have HB1 : Hid (Below (w.alloc (.cells #[.slice oa n cap, .string b, .int .i64 m, .string p] 85)).heap.size (w.alloc (.cells #[.slice oa n cap, .string b, .int .i64 m, .string p] 85)) w1) := bb1
    clear kb1 bb1 hmt hrt
    have e1 : (⟨#[32]⟩ : ByteArray).size = 1 := rfl
    have e2 : (⟨#[72, 84, 84, 80, 47, 49, 46, 49]⟩ : ByteArray).size = 8 := rfl
    have e3 : (⟨#[13, 10]⟩ : ByteArray).size = 2 := rfl
    have q1 : ¬ 9223372036854775807 < mt.size + 1 := by omega
    have q2 : ¬ 9223372036854775807 < mt.size + 1 + p.size := by omega
    have q3 : ¬ 9223372036854775807 < mt.size + 1 + p.size + 1 := by omega
    have q4 : ¬ 9223372036854775807 < mt.size + 1 + p.size + 1 + 8 := by omega
    have q5 : ¬ 9223372036854775807 < mt.size + 1 + p.size + 1 + 8 + 2 := by omega
    have q6 : ¬ 9223372036854775807 < mt.size + 1 + p.size + 1 + 8 + 2 + rt.size := by omega
    go_wp2_with fail
    go_region_held3 (fun W => W.cell? ⟨r, 2, none⟩ = some (.int .i64 m) ∧ W.cell? ⟨r, 3, none⟩ = some (.string p)) (first | assumption | go_keep) (first | (go_at_call 67; refine (methodName_any m _).mono ?_; rintro e w2 ⟨rfl, rfl⟩; rw [HMT.out]))
    have HB2 : Hid (Below (w.alloc (.cells #[.slice oa n cap, .string b, .int .i64 m, .string p] 85)).heap.size (w.alloc (.cells #[.slice oa n cap, .string b, .int .i64 m, .string p] 85)) w1.drew) := HB1.out.drew
    generalize w1.drew = w2 at HB2 ⊢
    obtain ⟨⟨d0, d1, d2, d3⟩, hv2, hbw2⟩ := HR.out w2 HB2.out
    have hT2 : TabOk w2 := HTAB.out.below hbw2
    clear c0 c1 c2 c3 HB1 HV1 hbw1
    have hF := HY.out.2.2.1
    by_cases hb0 : b.size = 0
    · have HRT0 : Hid (restT false fs b = rt) := by
        show _ = _
        rw [← HRT.out]
        simp [hb0]
      obtain rfl := empty_text hb0
      go_wp2_with fail
      refine (restText_any _ _ false n base fs _ hv2 hn hF hbs hT2).mono ?_
      rintro e w3 ⟨rfl, bb3⟩
      rw [HRT0.out]
      obtain ⟨_, _, hbw3⟩ := HR.out w3 (HB2.out.trans (bb3.mono HB2.out.size))
      clear bb3 hv2 hT2 d0 d1 d2 d3 hF
      go_wp2_with fail
      go_ret
      exact ⟨_, rfl, fun _ => HE.out, fun h => absurd HY.out h, hbw3⟩
    · have HRT1 : Hid (restT true fs b = rt) := by
        show _ = _
        rw [← HRT.out]
        simp [hb0]
      have ht : b.toList.isEmpty = false := isEmpty_no (by omega)
      go_wp2_with fail
      refine (restText_any _ _ true n base fs _ hv2 hn hF hbs hT2).mono ?_
      rintro e w3 ⟨rfl, bb3⟩
      rw [HRT1.out]
      obtain ⟨_, _, hbw3⟩ := HR.out w3 (HB2.out.trans (bb3.mono HB2.out.size))
      clear bb3 hv2 hT2 d0 d1 d2 d3 hF
      go_wp2_with fail
      go_ret
      exact ⟨_, rfl, fun _ => HE.out, fun h => absurd HY.out h, hbw3⟩


end Go.Proofs.YtacfajnagbeocaaGreatDoor

namespace Go.Proofs.YtacfajnagbeocaaGreatDoor
open Go.RowKit
open Go.Lib hiding intOf

/-- An answer's text is read as the answer. -/
theorem IsResp.parts {s : ByteArray} {st : Int} {fs : List (ByteArray × ByteArray)} {b : ByteArray} (h : IsResp s st fs b) {xs : List ByteArray} {k : Nat} {ws : List ByteArray} {l : List (ByteArray × ByteArray)} (hp : Parts s xs k ws l) :
    ∃ x y, ws = [x, numText st.toNat, y] ∧ l = fs ∧ s.extract k s.size = b := by
  have e := hp.head.symm.trans (resp_head h)
  simp only [Prod.mk.injEq, Option.some.injEq] at e
  obtain ⟨e1, e2⟩ := e
  obtain ⟨x0, xr, rfl⟩ : ∃ x0 xr, xs = x0 :: xr := by
    cases xs with
    | nil => exact absurd rfl hp.ne
    | cons a r => exact ⟨a, r, rfl⟩
  simp only [List.map_cons, List.cons.injEq] at e1
  have hw := hp.words
  simp only [List.headD_cons] at hw
  rw [e1.1, resp_words h.1.1] at hw
  have hf := hp.fields
  simp only [List.tail_cons] at hf
  rw [e1.2, resp_fields h.1.2.1] at hf
  refine ⟨⟨httpL.toArray⟩, ⟨#[46]⟩, map_bs_inj (by rw [← hw]; rfl), (pairs_inj hf).symm, bs_inj ?_⟩
  rw [bs_extract, List.take_of_length_le (i := s.size) (l := bs s) (by rw [bs_len]; omega)]
  exact e2
end Go.Proofs.YtacfajnagbeocaaGreatDoor

namespace Go.Proofs.YtacfajnagbeocaaGreatDoor
open Go.RowKit
open Go.Lib hiding intOf

theorem methOf_hit {a : ByteArray} {k : Nat} (h1 : 1 ≤ k) (h4 : k ≤ 4) (hb : ∀ j : Nat, 1 ≤ j → j < k → methB (j : Int) ≠ a) (h : methB (k : Int) = a) : methOf a = (k : Int) := by
  subst h
  exact methOf_of (by omega)
theorem methOf_miss {a : ByteArray} (hb : ∀ j : Nat, 1 ≤ j → j < 5 → methB (j : Int) ≠ a) : methOf a = 0 := by
  have h1 : methB 1 ≠ a := hb 1 (by omega) (by omega)
  have h2 : methB 2 ≠ a := hb 2 (by omega) (by omega)
  have h3 : methB 3 ≠ a := hb 3 (by omega) (by omega)
  have h4 : methB 4 ≠ a := hb 4 (by omega) (by omega)
  unfold methOf
  rw [if_neg h1, if_neg h2, if_neg h3, if_neg h4]
set_option maxHeartbeats 400000 in
theorem methodOf_any (a : ByteArray) (w : World) :
    Calls Tryz.prog 64 #[.string a] w fun e w' => e = .returned (.int .i64 (methOf a)) ∧ w' = w := by
  go_enter Tryz.func64, Tryz.ntmps64
  go_wp2
  go_loop [3] (fun i => ∃ k : Nat, 1 ≤ k ∧ k ≤ 5 ∧ i = .int .i64 (k : Int) ∧ Hid (∀ j : Nat, 1 ≤ j → j < k → methB (j : Int) ≠ a)) (fun i => 5 - (intOf i).toNat)
  case atStart => exact ⟨1, Nat.le_refl _, by omega, rfl, fun j h1 h2 => absurd h2 (by omega)⟩
  case round =>
    obtain ⟨k, hk1, hk5, rfl, hb⟩ := hrel
    by_cases hlt : (k : Int) ≤ 4
    · go_wp2_with fail
      refine (methodName_any (k : Int) _).mono ?_
      rintro e w1 ⟨rfl, rfl⟩
      by_cases he : methB (k : Int) = a
      · have HM : Hid (methOf a = (k : Int)) := methOf_hit hk1 (by omega) hb.out he
        have ht : ((methB (k : Int)).toList == a.toList) = true := (text_beq _ _).2 he
        generalize methB (k : Int) = mt at ht ⊢
        clear he
        go_wp2_with fail
        go_ret
        exact ⟨by rw [HM.out]; rfl, rfl⟩
      · have ht := text_beq_no he
        have HE : Hid (methB (k : Int) ≠ a) := he
        generalize methB (k : Int) = mt at ht ⊢
        clear he
        go_wp2_with fail
        go_round
        case rel =>
          refine ⟨k + 1, by omega, by omega, by go_num, ?_⟩
          intro j h1 h2
          by_cases e : j = k
          · subst e; exact HE.out
          · exact hb.out j h1 (by omega)
        case measure => simp [intOf]; omega
    · have HM : Hid (methOf a = 0) := methOf_miss (fun j h1 h2 => hb.out j h1 (by omega))
      go_wp2_with fail
      go_ret
      exact ⟨by rw [HM.out]; rfl, rfl⟩

/-- A cell of the message behind its fields is set. -/
theorem RdSt.set {w : World} {B b q : Nat} {T : TypeId} {bd : ByteArray} {tl : List Value} {fs : List (ByteArray × ByteArray)} {left : ByteArray} {fv : Value} {W : World} {bd' : ByteArray} {tl' : List Value} (h : RdSt w B b q T bd tl fs left fv W) (hT : TypeOk T) (hq : B ≤ q) (o : Nat) (v : Value) (e : (⟨fv :: .string bd :: tl⟩ : Array Value).setIfInBounds o v = ⟨fv :: .string bd' :: tl'⟩) : RdSt w B b q T bd' tl' fs left fv (W.setCell ⟨q, o, none⟩ v) := by
  have hne := h.bq
  refine ⟨?_, ?_, ?_, h.low.setCell (p := ⟨q, o, none⟩) hq _⟩
  · have := h.rd
    unfold Reader at this ⊢
    rw [heap_setCell_other _ _ b _ (fun e => hne e.symm)]; exact this
  · rw [heap_set _ _ _ _ _ _ _ h.qc, e]
  · exact owns_same h.own (fun j hj => heap_setCell_other _ _ j _ (fun e => by
      subst e
      exact own_not h.own hT h.qc hj))
theorem RdSt.rdc {w : World} {B b q : Nat} {T : TypeId} {bd : ByteArray} {tl : List Value} {fs : List (ByteArray × ByteArray)} {left : ByteArray} {fv : Value} {W : World} (h : RdSt w B b q T bd tl fs left fv W) : W.cell? ⟨b, 0, none⟩ = some (.string left) := h.rd.cell

set_option maxHeartbeats 1000000 in
theorem readRest_any (w0 : World) (B b q : Nat) (T : TypeId) (bd : ByteArray) (tl : List Value) (s : ByteArray) (fv : Value) (w : World) (hst : RdSt w0 B b q T bd tl [] s fv w) (hT : TypeOk T) (hB : B ≤ w.heap.size) (hbB : B ≤ b) (hqB : B ≤ q) (hl : s.size ≤ 4000000) (hlen : LenOk w0) (hlB : 0 < B) :
    Calls Tryz.prog 66 #[.pointer (some ⟨q, 0, none⟩), .pointer (some ⟨b, 0, none⟩)] w fun e w' => e = .returned (.tuple #[]) ∧ ∃ fv' left, RdSt w0 B b q T (restBody s) tl (restFs s) left fv' w' := by
  have HSTART : Hid (RdSt w0 B b q T bd tl (lineTo ([], s) 0).1 (lineTo ([], s) 0).2 fv w) := hst
  have HLEN : Hid (LenOk w0) := hlen
  clear hst hlen
  go_enter Tryz.func66, Tryz.ntmps66
  go_wp2
  go_loopw [4] (fun i wr => ∃ k : Nat, k ≤ 9 ∧ i = .int .i64 (k : Int) ∧ B ≤ wr.heap.size ∧ Hid (∃ fv', RdSt w0 B b q T bd tl (lineTo ([], s) k).1 (lineTo ([], s) k).2 fv' wr)) (fun i _ => 9 - (intOf i).toNat)
  case atStart => exact ⟨0, by omega, rfl, hB, ⟨fv, HSTART.out⟩⟩
  case round =>
    obtain ⟨k, hk, rfl, hB9, hx⟩ := hrel
    obtain ⟨fv9, hst9⟩ := hx.out
    obtain ⟨z1, z2, _⟩ := lineTo_size s k
    obtain ⟨x9, hx9⟩ : ∃ x, x = lineTo ([], s) k := ⟨_, rfl⟩
    rw [← hx9] at hst9 z1 z2
    obtain ⟨fs9, lf⟩ := x9
    have z1 : fs9.length ≤ k := z1
    have z2 : lf.size ≤ s.size := z2
    have hst9 : RdSt w0 B b q T bd tl fs9 lf fv9 wr := hst9
    have HX : Hid (lineTo ([], s) k = (fs9, lf)) := hx9.symm
    clear hx hx9
    by_cases hlt : (k : Int) < 9
    · go_wp2_with fail
      refine (headIsOver_any b lf _ hst9.rd).mono ?_
      rintro e w1 ⟨rfl, rfl⟩
      by_cases hh : hasP lf lnE = true
      · rw [hh]
        have H9 : Hid (lineTo ([], s) 9 = (fs9, lf)) := by
          show _ = _
          have := line_stuck ([], s) k (by rw [HX.out]; exact hh) (9 - k)
          rw [show k + (9 - k) = 9 by omega, HX.out] at this
          exact this
        clear hh
        go_wp2_with fail
        refine (pass_any b lf lnE _ hst9.rd).mono ?_
        rintro e w1 ⟨rfl, ht1⟩
        have hst10 := hst9.took hB9 hbB ht1
        have hB10 : B ≤ w1.heap.size := Nat.le_trans hB9 ht1.2.size
        have y1 := trimP_size lf lnE
        have HBD : Hid (trimP lf lnE = restBody s) := by
          show _ = _
          unfold restBody
          rw [H9.out]
        have HFS : Hid (fs9 = restFs s) := by
          show _ = _
          unfold restFs
          rw [H9.out]
        generalize trimP lf lnE = body at *
        have hrc := hst10.rdc
        clear hst9 ht1 hB9
        go_wp2_with fail
        refine (clone_any body _ (by omega)).mono ?_
        rintro e w2 ⟨rfl, bb2⟩
        have hst11 := hst10.below hB10 bb2
        obtain ⟨_, hc1, _, hf1⟩ := hst11.qcell
        have HS : Hid (RdSt w0 B b q T body tl fs9 body fv9 (w2.setCell ⟨q, 1, none⟩ (.string body))) := hst11.set hT hqB 1 (.string body) rfl
        clear hst10 hst11 bb2 hrc hB10
        go_wp2_with fail
        exact bodyPost_end (v := .tuple #[]) (by simp [results, Tryz.results66, go_sem]) rfl ⟨rfl, fv9, body, by rw [← HBD.out, ← HFS.out]; exact HS.out⟩
      · have HS : Hid (lineTo ([], s) (k + 1) = (lineFs fs9 lf, lineLeft lf)) := by
          show _ = _
          rw [lineTo, HX.out]
          unfold lineStep
          rw [if_neg hh]
          rfl
        have hf : hasP lf lnE = false := by simpa using hh
        rw [hf]
        clear hh hf
        go_wp2_with fail
        refine (readLine_any w0 B b q T bd tl fs9 lf fv9 _ hst9 hT hB9 hbB hqB (by omega) (by omega) HLEN.out hlB).mono ?_
        rintro e w2 ⟨rfl, fv2, hst2⟩
        have HS2 : Hid (RdSt w0 B b q T bd tl (lineFs fs9 lf) (lineLeft lf) fv2 w2) := hst2
        have hB2 : B ≤ w2.heap.size := by
          have := (Array.getElem?_eq_some_iff.1 hst2.qc).1
          omega
        clear hst2 hst9
        go_wp2_with fail
        go_roundw
        case rel => exact ⟨k + 1, by omega, by go_num, hB2, ⟨fv2, by rw [HS.out]; exact HS2.out⟩⟩
        case measure => simp [intOf]; omega
    · obtain rfl : k = 9 := by omega
      have H9 := HX
      go_wp2_with fail
      refine (pass_any b lf lnE _ hst9.rd).mono ?_
      rintro e w1 ⟨rfl, ht1⟩
      have hst10 := hst9.took hB9 hbB ht1
      have hB10 : B ≤ w1.heap.size := Nat.le_trans hB9 ht1.2.size
      have y1 := trimP_size lf lnE
      have HBD : Hid (trimP lf lnE = restBody s) := by
        show _ = _
        unfold restBody
        rw [H9.out]
      have HFS : Hid (fs9 = restFs s) := by
        show _ = _
        unfold restFs
        rw [H9.out]
      generalize trimP lf lnE = body at *
      have hrc := hst10.rdc
      clear hst9 ht1 hB9
      go_wp2_with fail
      refine (clone_any body _ (by omega)).mono ?_
      rintro e w2 ⟨rfl, bb2⟩
      have hst11 := hst10.below hB10 bb2
      obtain ⟨_, hc1, _, hf1⟩ := hst11.qcell
      have HS : Hid (RdSt w0 B b q T body tl fs9 body fv9 (w2.setCell ⟨q, 1, none⟩ (.string body))) := hst11.set hT hqB 1 (.string body) rfl
      clear hst10 hst11 bb2 hrc hB10
      go_wp2_with fail
      exact bodyPost_end (v := .tuple #[]) (by simp [results, Tryz.results66, go_sem]) rfl ⟨rfl, fv9, body, by rw [← HBD.out, ← HFS.out]; exact HS.out⟩

set_option maxHeartbeats 1000000 in
theorem reqReadP_any (w0 : World) (B b q : Nat) (s : ByteArray) (w : World) (hst : RdSt w0 B b q 85 ⟨#[]⟩ [.int .i64 0, .string ⟨#[]⟩] [] s (.slice none 0 0) w) (hT : TypeOk 85) (hB : B ≤ w.heap.size) (hbB : B ≤ b) (hqB : B ≤ q) (hl : s.size ≤ 4000000) (hlen : LenOk w0) (hlB : 0 < B) :
    Calls Tryz.prog 52 #[.pointer (some ⟨q, 0, none⟩), .pointer (some ⟨b, 0, none⟩)] w fun e w' => e = .returned (.tuple #[]) ∧ ∃ fv left, RdSt w0 B b q 85 (restBody (reqRest s)) [.int .i64 (methOf (cutA s blE)), .string (cutA (cutB s blE) blE)] (restFs (reqRest s)) left fv w' := by
  have HT : Hid (TypeOk 85) := hT
  have HLEN : Hid (LenOk w0) := hlen
  clear hT hlen
  have hlen0 := HLEN.out.below hst.low hlB
  go_enter Tryz.func52, Tryz.ntmps52
  go_wp2_with fail
  refine (upTo_any b s blE _ hst.rd hl hlen0).mono ?_
  rintro e w1 ⟨rfl, ht1⟩
  have hst1 := hst.took hB hbB ht1
  have hB1 : B ≤ w1.heap.size := Nat.le_trans hB ht1.2.size
  clear hst ht1 hlen0 hB
  go_wp2_with fail
  refine (methodOf_any (cutA s blE) _).mono ?_
  rintro e w2 ⟨rfl, rfl⟩
  have z1 := cutB_size s blE
  obtain ⟨m, hm⟩ : ∃ x, x = methOf (cutA s blE) := ⟨_, rfl⟩
  rw [← hm]
  have HM : Hid (m = methOf (cutA s blE)) := hm
  clear hm
  obtain ⟨r1, hr1⟩ : ∃ x, x = cutB s blE := ⟨_, rfl⟩
  have HR1 : Hid (r1 = cutB s blE) := hr1
  rw [← hr1] at hst1 z1
  clear hr1
  have hst2 := hst1.set HT.out hqB 2 (.int .i64 m) rfl
  have hcell2 : w2.cell? ⟨q, 2, none⟩ = some (.int .i64 0) ∧ w2.frozen? ⟨q, 2, none⟩ = false := by
    have := hst1.qc
    constructor <;> simp [World.cell?, World.frozen?, this]
  obtain ⟨c2, f2⟩ := hcell2
  have HS2 : Hid (RdSt w0 B b q 85 ⟨#[]⟩ [.int .i64 m, .string ⟨#[]⟩] [] r1 (.slice none 0 0) (w2.setCell ⟨q, 2, none⟩ (.int .i64 m))) := hst2
  have HR : Hid (Reader (w2.setCell ⟨q, 2, none⟩ (.int .i64 m)) b r1) := hst2.rd
  have HL2 : Hid (LenOk (w2.setCell ⟨q, 2, none⟩ (.int .i64 m))) := HLEN.out.below hst2.low hlB
  have hB2 : B ≤ (w2.setCell ⟨q, 2, none⟩ (.int .i64 m)).heap.size := by simp; omega
  clear hst1 hst2
  go_wp2_with fail
  refine (upTo_any b r1 blE _ HR.out (by omega) HL2.out).mono ?_
  rintro e w3 ⟨rfl, ht3⟩
  have hst3 := HS2.out.took hB2 hbB ht3
  have hB3 : B ≤ w3.heap.size := Nat.le_trans hB2 ht3.2.size
  have z2 := cutB_size r1 blE
  have z3 := cutA_size r1 blE
  obtain ⟨r2, hr2⟩ : ∃ x, x = cutB r1 blE := ⟨_, rfl⟩
  obtain ⟨p, hp⟩ : ∃ x, x = cutA r1 blE := ⟨_, rfl⟩
  have HR2 : Hid (r2 = cutB r1 blE) := hr2
  have HP : Hid (p = cutA r1 blE) := hp
  rw [← hr2] at hst3 z2
  rw [← hp] at z3
  rw [← hp]
  clear hr2 hp ht3 HS2 HR HL2 hB2 c2 f2
  go_wp2_with fail
  refine (clone_any p _ (by omega)).mono ?_
  rintro e w4 ⟨rfl, bb4⟩
  have hst4 := hst3.below hB3 bb4
  have hB4 : B ≤ w4.heap.size := Nat.le_trans hB3 bb4.size
  have hcell3 : w4.cell? ⟨q, 3, none⟩ = some (.string ⟨#[]⟩) ∧ w4.frozen? ⟨q, 3, none⟩ = false := by
    have := hst4.qc
    constructor <;> simp [World.cell?, World.frozen?, this]
  obtain ⟨c3, f3⟩ := hcell3
  have hst5 := hst4.set HT.out hqB 3 (.string p) rfl
  have HS5 : Hid (RdSt w0 B b q 85 ⟨#[]⟩ [.int .i64 m, .string p] [] r2 (.slice none 0 0) (w4.setCell ⟨q, 3, none⟩ (.string p))) := hst5
  have hB5 : B ≤ (w4.setCell ⟨q, 3, none⟩ (.string p)).heap.size := by simp; omega
  clear hst3 hst4 hst5 bb4 hB3 hB4
  go_wp2_with fail
  refine (pass_any b r2 httpLn _ HS5.out.rd).mono ?_
  rintro e w6 ⟨rfl, ht6⟩
  have hst6 := HS5.out.took hB5 hbB ht6
  have hB6 : B ≤ w6.heap.size := Nat.le_trans hB5 ht6.2.size
  have z4 := trimP_size r2 httpLn
  obtain ⟨r3, hr3⟩ : ∃ x, x = trimP r2 httpLn := ⟨_, rfl⟩
  have HR3 : Hid (r3 = reqRest s) := by
    show _ = _
    rw [hr3, HR2.out, HR1.out]
    rfl
  have HP2 : Hid (p = cutA (cutB s blE) blE) := by
    show _ = _
    rw [HP.out, HR1.out]
  rw [← hr3] at hst6 z4
  clear hr3 ht6 HS5 hB5 c3 f3
  go_wp2_with fail
  refine (readRest_any w0 B b q _ _ _ r3 _ _ hst6 HT.out hB6 hbB hqB (by omega) HLEN.out hlB).mono ?_
  rintro e w7 ⟨rfl, fv, lf, hst7⟩
  rw [HP2.out, HR3.out, HM.out] at hst7
  have HS7 : Hid _ := hst7
  clear hst7 hst6
  go_wp2_with fail
  exact bodyPost_end (v := .tuple #[]) (by simp [results, Tryz.results52, go_sem]) rfl ⟨rfl, fv, lf, HS7.out⟩

theorem restFs_size (r : ByteArray) : (restFs r).length ≤ 9 ∧ ∀ i, i < (restFs r).length → (nameAt (restFs r) i).size ≤ r.size ∧ (valAt (restFs r) i).size ≤ r.size := by
  have h : (restFs r).length ≤ 9 ∧ (lineTo ([], r) 9).2.size ≤ r.size ∧ ∀ f ∈ restFs r, f.1.size ≤ r.size ∧ f.2.size ≤ r.size := lineTo_size r 9
  generalize restFs r = l at *
  refine ⟨h.1, fun i hi => ?_⟩
  have e := pair_of l i hi
  have := h.2.2 (l[i]) (List.getElem_mem _)
  rw [← e] at this
  exact this
theorem restBody_size (r : ByteArray) : (restBody r).size ≤ r.size := by
  obtain ⟨_, h2, _⟩ := lineTo_size r 9
  exact Nat.le_trans (trimP_size _ _) h2
theorem owns_set {w : World} {base : Nat} {t : TypeId} {size : Nat} {v x : Value} {n : Nat} {xs : List Value} {R o : Nat} {cs : Array Value} {T : TypeId} {fr : Nat × Nat} (h : w.ownsRow base t size v n xs) (hT : T ≠ t) (hR : w.heap[R]? = some (.cells cs T fr)) : (w.setCell ⟨R, o, none⟩ x).ownsRow base t size v n xs ∧ ∃ cs', (w.setCell ⟨R, o, none⟩ x).heap[R]? = some (.cells cs' T fr) :=
  ⟨owns_same h (fun j hj => heap_setCell_other _ _ j _ (fun e => by
    subst e
    exact own_not h hT hR hj)), _, heap_set _ _ _ _ _ _ _ hR⟩

set_option maxHeartbeats 1000000 in
set_option maxRecDepth 100000 in
theorem implReqRead_any (s : ByteArray) (w : World) (hs : s.size ≤ 3000000) (htab : TabOk w) (hlen : LenOk w) :
    Calls Tryz.prog 39 #[.string s] w fun e w' => ReqIs s w e w' := by
  have hlt := hlen.lt
  have hlen0 : LenOk (w.alloc (.cells #[.int .i64 0, .string ⟨#[]⟩, .slice none 0 0, .string ⟨#[]⟩] 37)) := hlen.below ((Below.refl _ _).alloc (Nat.le_refl _) _) hlt
  have hlow : Below (w.heap.size + 1) (w.alloc (.cells #[.int .i64 0, .string ⟨#[]⟩, .slice none 0 0, .string ⟨#[]⟩] 37)) (((w.alloc (.cells #[.int .i64 0, .string ⟨#[]⟩, .slice none 0 0, .string ⟨#[]⟩] 37)).alloc (.cells #[.slice none 0 0, .string ⟨#[]⟩, .int .i64 0, .string ⟨#[]⟩] 85)).alloc (.cells #[.string s] 67)) := ((Below.refl _ _).alloc (by simp) _).alloc (by simp) _
  have hst0 : RdSt (w.alloc (.cells #[.int .i64 0, .string ⟨#[]⟩, .slice none 0 0, .string ⟨#[]⟩] 37)) (w.heap.size + 1) (w.heap.size + 1 + 1) (w.heap.size + 1) 85 ⟨#[]⟩ [.int .i64 0, .string ⟨#[]⟩] [] s (.slice none 0 0) (((w.alloc (.cells #[.int .i64 0, .string ⟨#[]⟩, .slice none 0 0, .string ⟨#[]⟩] 37)).alloc (.cells #[.slice none 0 0, .string ⟨#[]⟩, .int .i64 0, .string ⟨#[]⟩] 85)).alloc (.cells #[.string s] 67)) := by
    refine ⟨?_, ?_, ⟨rfl, .inl ⟨rfl, rfl⟩⟩, hlow⟩
    · have := heap_alloc_new ((w.alloc (.cells #[.int .i64 0, .string ⟨#[]⟩, .slice none 0 0, .string ⟨#[]⟩] 37)).alloc (.cells #[.slice none 0 0, .string ⟨#[]⟩, .int .i64 0, .string ⟨#[]⟩] 85)) (.cells #[.string s] 67)
      unfold Reader
      simpa using this
    · have h1 := heap_alloc_new (w.alloc (.cells #[.int .i64 0, .string ⟨#[]⟩, .slice none 0 0, .string ⟨#[]⟩] 37)) (.cells #[.slice none 0 0, .string ⟨#[]⟩, .int .i64 0, .string ⟨#[]⟩] 85)
      rw [heap_alloc_old _ _ (by simp)]
      simpa using h1
  go_enter Tryz.func39, Tryz.ntmps39
  go_wp2_with fail
  refine (reqReadP_any _ (w.heap.size + 1) _ _ s _ hst0 (by unfold TypeOk; decide) (by simp) (by omega) (Nat.le_refl _) (by omega) hlen0 (by omega)).mono ?_
  rintro e w1 ⟨rfl, fv, lf, hst⟩
  obtain ⟨R, hR⟩ : ∃ x, x = w.heap.size := ⟨_, rfl⟩
  obtain ⟨q, hq⟩ : ∃ x, x = w.heap.size + 1 := ⟨_, rfl⟩
  have hRw : w.heap.size ≤ R := by omega
  obtain ⟨m, hm⟩ : ∃ x, x = methOf (cutA s blE) := ⟨_, rfl⟩
  obtain ⟨p, hp⟩ : ∃ x, x = cutA (cutB s blE) blE := ⟨_, rfl⟩
  rw [← hm, ← hp] at hst
  obtain ⟨fs, hfs⟩ : ∃ x, x = restFs (reqRest s) := ⟨_, rfl⟩
  obtain ⟨bd, hbd⟩ : ∃ x, x = restBody (reqRest s) := ⟨_, rfl⟩
  rw [← hfs, ← hbd] at hst
  obtain ⟨y1, y2⟩ := restFs_size (reqRest s)
  have y3 := restBody_size (reqRest s)
  have y4 : (reqRest s).size ≤ s.size := by
    unfold reqRest
    exact Nat.le_trans (trimP_size _ _) (Nat.le_trans (cutB_size _ _) (cutB_size _ _))
  have hps : p.size ≤ maxLen := by
    have z1 := cutA_size (cutB s blE) blE
    have z2 := cutB_size s blE
    rw [← hp] at z1
    unfold maxLen
    omega
  rw [← hfs] at y1 y2
  rw [← hbd] at y3
  have hbs : bd.size ≤ maxLen := by unfold maxLen; omega
  obtain ⟨n, hn⟩ : ∃ x, x = fs.length := ⟨_, rfl⟩
  have hwk : WalkF n fs := fun i hi => by
    have := y2 i (by omega)
    unfold maxLen
    omega
  have HC : Hid (∀ m' p' fs' b', IsReq s m' p' fs' b' → m = m' ∧ p = p' ∧ fs = fs' ∧ bd = b') := fun m' p' fs' b' h => by
    obtain ⟨e1, e2, e3, e4⟩ := req_read h
    exact ⟨by rw [hm, e1], by rw [hp, e2], by rw [hfs, e3], by rw [hbd, e4]⟩
  have hown := hst.own
  rw [← hn] at hown
  obtain ⟨oa, cp, rfl⟩ := slice_of_owns hown
  have hqc := hst.qc
  rw [← hq] at hqc
  have hb01 := hst.low
  have hb1 : Below w.heap.size w w1 := ((Below.refl _ w).alloc (Nat.le_refl _) _).trans (hb01.mono (by omega))
  have hqlt : q < w1.heap.size := (Array.getElem?_eq_some_iff.1 hqc).1
  have hR1 : w1.heap[R]? = some (.cells #[.int .i64 0, .string ⟨#[]⟩, .slice none 0 0, .string ⟨#[]⟩] 37) := by
    rw [hR, hb01.block _ (by omega)]
    exact heap_alloc_new w _
  have HZ : Hid (∀ W, Below w1.heap.size w1 W → W.heap[R]? = some (.cells #[.int .i64 0, .string ⟨#[]⟩, .slice none 0 0, .string ⟨#[]⟩] 37) ∧ Below w.heap.size w W) := fun W h =>
    ⟨by rw [h.block _ (by omega)]; exact hR1, hb1.trans (h.mono hb1.size)⟩
  have HQ : Hid (∀ W, Below w1.heap.size w1 W → (W.cell? ⟨q, 0, none⟩ = some (.slice oa n cp) ∧ W.cell? ⟨q, 1, none⟩ = some (.string bd) ∧ W.cell? ⟨q, 2, none⟩ = some (.int .i64 m) ∧ W.cell? ⟨q, 3, none⟩ = some (.string p)) ∧ FieldsV W w.heap.size (.slice oa n cp) n fs ∧ W.ownsRow w.heap.size 63 2 (.slice oa n cp) n (flatF fs)) := fun W h => by
    have hh : W.heap[q]? = _ := (h.block q hqlt).trans hqc
    have ho : W.ownsRow w.heap.size 63 2 (.slice oa n cp) n (flatF fs) := owns_wide (owns_same hown (fun j hj => h.block j (owns_block_lt hown hj).2)) (by omega)
    exact ⟨⟨by simp [World.cell?, hh], by simp [World.cell?, hh], by simp [World.cell?, hh], by simp [World.cell?, hh]⟩, FieldsV.of_owns ho, ho⟩
  have HTAB : Hid (TabOk w) := htab
  have HN : Hid (n = fs.length) := hn
  have HB1 : Hid (Below w1.heap.size w1 w1) := Below.refl _ _
  rw [← hq, ← hR]
  have n9 : n ≤ 9 := by omega
  clear hst hown hqc hb01 hb1 hR1 hst0 hlow hlen hlen0 htab hn hfs hbd y1 y2 y3 y4 hR hq hs hlt hm hp
  obtain ⟨⟨d0, d1, d2, d3⟩, hv1, _⟩ := HQ.out w1 HB1.out
  go_wp2_with fail
  refine (reqOk_any m p _ bd n w.heap.size fs _ hv1 (by omega) hwk hps hbs).mono ?_
  rintro e w2 ⟨b1, rfl, kb1, bb2⟩
  have HB2 : Hid (Below w1.heap.size w1 w2) := bb2
  clear d0 d1 d2 d3 hv1 bb2
  obtain ⟨⟨d0, d1, d2, d3⟩, hv2, _⟩ := HQ.out w2 HB2.out
  cases b1
  · have HNO : Hid (∀ m p fs b, ¬ IsReq s m p fs b) := fun m' p' fs' b' h => by
      obtain ⟨e1, e2, e3, e4⟩ := HC.out m' p' fs' b' h
      subst e1 e2 e3 e4
      have := kb1.2 h.1
      cases this
    obtain ⟨z, hbz⟩ := HZ.out w2 HB2.out
    obtain ⟨⟨c0, c1, c2, c3⟩, f0, f1, f2, f3⟩ := four_facts z
    obtain ⟨⟨k0, k1, k2, k3⟩, _⟩ := four_facts (four_set z (.int .i64 0) (.string ⟨#[]⟩) (.slice none 0 0) (.string ⟨#[]⟩))
    have HB4 : Hid (Below w.heap.size w (fourSet w2 R (.int .i64 0) (.string ⟨#[]⟩) (.slice none 0 0) (.string ⟨#[]⟩))) := below_four hbz hRw
    unfold fourSet at k0 k1 k2 k3
    clear z hbz kb1 hv2 hwk hps hbs
    go_wp2_with fail
    exact bodyPost_ret (v := .tuple #[.agg #[.int .i64 0, .string ⟨#[]⟩, .slice none 0 0, .string ⟨#[]⟩], .bool false]) (by simp [results, Tryz.results39, go_sem, k0, k1, k2, k3]) rfl (.inr ⟨rfl, HNO.out, HB4.out⟩)
  · have HP : Hid (ReqP m p fs bd) := kb1.1 rfl
    have hT2 : TabOk w2 := HTAB.out.below (HZ.out w2 HB2.out).2
    clear kb1
    go_wp2_with fail
    refine (reqText_any m p _ bd n w.heap.size fs _ hv2 (by omega) hwk hps hbs hT2).mono ?_
    rintro e w3 ⟨u, rfl, ku, _, bb3⟩
    have HU : Hid (u = reqT m p fs bd) := ku HP.out
    have HB3 : Hid (Below w1.heap.size w1 w3) := HB2.out.trans (bb3.mono HB2.out.size)
    clear d0 d1 d2 d3 hv2 bb3 ku hT2 hwk hps hbs
    obtain ⟨⟨d0, d1, d2, d3⟩, _, hown3⟩ := HQ.out w3 HB3.out
    by_cases hus : u = s
    · have HIS : Hid (IsReq s m p fs bd) := ⟨HP.out, by rw [← HU.out]; exact hus⟩
      have hts : (u.toList == s.toList) = true := (text_beq _ _).2 hus
      clear hus hown3
      go_wp2_with fail
      refine (face_any m p oa n cp bd _).mono ?_
      rintro e w4 ⟨rfl, bb4⟩
      have hB4 : Below w1.heap.size w1 w4 := HB3.out.trans (bb4.mono HB3.out.size)
      obtain ⟨_, _, hown4⟩ := HQ.out w4 hB4
      obtain ⟨z, hbz⟩ := HZ.out w4 hB4
      obtain ⟨⟨c0, c1, c2, c3⟩, f0, f1, f2, f3⟩ := four_facts z
      obtain ⟨⟨k0, k1, k2, k3⟩, _⟩ := four_facts (four_set z (.int .i64 m) (.string p) (.slice oa n cp) (.string bd))
      have HB4 : Hid (Below w.heap.size w (fourSet w4 R (.int .i64 m) (.string p) (.slice oa n cp) (.string bd))) := below_four hbz hRw
      have HOWN : Hid ((fourSet w4 R (.int .i64 m) (.string p) (.slice oa n cp) (.string bd)).ownsRow w.heap.size 63 2 (.slice oa n cp) fs.length (flatF fs)) := by
        show World.ownsRow _ _ _ _ _ _ _
        unfold fourSet
        rw [← HN.out]
        obtain ⟨o1, _, r1⟩ := owns_set (o := 0) (x := .int .i64 m) hown4 (by decide) z
        obtain ⟨o2, _, r2⟩ := owns_set (o := 1) (x := .string p) o1 (by decide) r1
        obtain ⟨o3, _, r3⟩ := owns_set (o := 2) (x := .slice oa n cp) o2 (by decide) r2
        exact (owns_set (o := 3) o3 (by decide) r3).1
      unfold fourSet at k0 k1 k2 k3
      clear z hbz hown4 hB4 bb4 d0 d1 d2 d3
      go_wp2_with fail
      exact bodyPost_ret (v := .tuple #[.agg #[.int .i64 m, .string p, .slice oa n cp, .string bd], .bool true]) (by simp [results, Tryz.results39, go_sem, k0, k1, k2, k3]) rfl (.inl ⟨m, p, fs, bd, _, rfl, HIS.out, HOWN.out, HB4.out⟩)
    · have HNO : Hid (∀ m p fs b, ¬ IsReq s m p fs b) := fun m' p' fs' b' h => by
        obtain ⟨e1, e2, e3, e4⟩ := HC.out m' p' fs' b' h
        subst e1 e2 e3 e4
        exact hus (HU.out.trans h.2)
      have hts := text_beq_no hus
      obtain ⟨z, hbz⟩ := HZ.out w3 HB3.out
      obtain ⟨⟨c0, c1, c2, c3⟩, f0, f1, f2, f3⟩ := four_facts z
      obtain ⟨⟨k0, k1, k2, k3⟩, _⟩ := four_facts (four_set z (.int .i64 0) (.string ⟨#[]⟩) (.slice none 0 0) (.string ⟨#[]⟩))
      have HB4 : Hid (Below w.heap.size w (fourSet w3 R (.int .i64 0) (.string ⟨#[]⟩) (.slice none 0 0) (.string ⟨#[]⟩))) := below_four hbz hRw
      unfold fourSet at k0 k1 k2 k3
      clear z hbz hus hown3
      go_wp2_with fail
      exact bodyPost_ret (v := .tuple #[.agg #[.int .i64 0, .string ⟨#[]⟩, .slice none 0 0, .string ⟨#[]⟩], .bool false]) (by simp [results, Tryz.results39, go_sem, k0, k1, k2, k3]) rfl (.inr ⟨rfl, HNO.out, HB4.out⟩)

end Go.Proofs.YtacfajnagbeocaaGreatDoor

namespace Go.Proofs.YtacfajnagbeocaaGreatDoor
open Go.RowKit
open Go.Lib hiding intOf

/-- The bytes of 'content-length: '. -/
def clenP : ByteArray := ⟨#[99, 111, 110, 116, 101, 110, 116, 45, 108, 101, 110, 103, 116, 104, 58, 32]⟩
theorem clenP_bs : bs clenP = clenM := rfl
theorem lnE_bs : bs lnE = [13, 10] := rfl
theorem lenS_nil (first : Bool) : lenS first [] [] = 0 := rfl

set_option maxHeartbeats 2000000 in
set_option maxRecDepth 100000 in
theorem bodyLength_any (s : ByteArray) (w : World) (hs : s.size ≤ 4000000) (hW : Whole (bs s)) (hne : bs s ≠ []) (hL : LenOk w) :
    Calls Tryz.prog 28 #[.string s] w fun e w' => e = .returned (.int .i64 (lenL (bs s) : Int)) ∧ Below w.heap.size w w' := by
  have HLN0 : Hid (∀ W, Below w.heap.size w W → LenOk W) := fun W h => hL.below h hL.lt
  obtain ⟨k1, k2, k3⟩ := whole_step lnE_bs hW hne
  have HL1 : Hid (lenS false [] (bs (cutB s lnE)) = lenL (bs s)) := by
    show _ = _
    have h := k3 true
    rw [if_pos rfl] at h
    exact h.symm
  have HK1 : Hid (Whole (bs (cutB s lnE))) := k1
  have hcs : (cutB s lnE).size ≤ s.size := by omega
  clear hL k1 k2 k3 hW hne
  obtain ⟨H, hH⟩ : ∃ H, H = w.heap.size := ⟨_, rfl⟩
  have HW : Hid (w.heap.size = H) := hH.symm
  have HLN : Hid (∀ W, Below H w W → LenOk W) := by rw [hH]; exact HLN0
  have hR0 : Reader (w.alloc (Obj.cells #[.string s] 67)) H s := by unfold Reader; rw [hH]; exact heap_alloc_new w _
  have HB0 : Hid (Below H w (w.alloc (Obj.cells #[.string s] 67))) := (Below.refl _ _).alloc (by omega) _
  have HS0 : Hid (H ≤ (w.alloc (Obj.cells #[.string s] 67)).heap.size) := by show _ ≤ _; rw [World.size_alloc]; omega
  clear HLN0
  go_enter Tryz.func28, Tryz.ntmps28
  go_wp2_with fail
  rw [← hH]
  clear hH
  refine (upTo_any H s lnE _ hR0 hs (HLN.out _ HB0.out)).mono ?_
  rintro e w1 ⟨rfl, hr1, hg1⟩
  have HB1 : Hid (Below H w w1) := HB0.out.grown hg1 HS0.out (by intro k hk; cases hk; exact Nat.le_refl _)
  clear hg1 hR0
  go_wp2_with fail
  go_loopw [6] (fun _ wr => ∃ u : ByteArray, u.size ≤ s.size ∧ Reader wr H u ∧ Hid (Whole (bs u)) ∧ Hid (lenS false [] (bs u) = lenL (bs s)) ∧ Hid (Below H w wr)) (fun _ wr => match wr.cell? ⟨H, 0, none⟩ with | some (.string u) => u.size | _ => 0)
  case atStart => exact ⟨cutB s lnE, hcs, hr1, HK1, HL1, HB1⟩
  case round =>
    obtain ⟨u, hu, hr, HWH, HLE, HB⟩ := hrel
    have hc := hr.cell
    by_cases hz : u.size = 0
    · have he : u.toList.isEmpty = true := isEmpty_yes hz
      have HZ : Hid ((0 : Int) = (lenL (bs s) : Int)) := by
        show _ = _
        have hb : bs u = [] := List.length_eq_zero_iff.1 (by rw [bs_len]; exact hz)
        rw [← HLE.out, hb, lenS_nil]
        rfl
      clear hz
      go_wp2_with fail
      go_ret
      exact ⟨by rw [← HZ.out]; rfl, by rw [HW.out]; exact HB.out⟩
    · have he : u.toList.isEmpty = false := isEmpty_no (by omega)
      have hne : bs u ≠ [] := fun e => by have := bs_len u; rw [e] at this; simp at this; omega
      obtain ⟨k1, k2, k3⟩ := whole_step lnE_bs HWH.out hne
      have h3 := k3 false
      rw [if_neg (by decide), HLE.out] at h3
      obtain ⟨line, hline⟩ : ∃ x, x = cutA u lnE := ⟨_, rfl⟩
      obtain ⟨nx, hnx⟩ : ∃ x, x = cutB u lnE := ⟨_, rfl⟩
      have hls : line.size ≤ 4000000 := by rw [hline]; exact Nat.le_trans (cutA_size _ _) (by omega)
      rw [← hline, ← hnx] at h3
      rw [← hnx] at k1 k2
      have HNX : Hid (cutB u lnE = nx) := hnx.symm
      have HLI : Hid (cutA u lnE = line) := hline.symm
      have HK1 : Hid (Whole (bs nx)) := k1
      have HH : Hid (H < wr.heap.size) := (Array.getElem?_eq_some_iff.1 hr).1
      obtain ⟨p1, p2⟩ := clenOf_pre (line := line) (p := clenP) clenP_bs
      have hus : u.size ≤ 4000000 := by omega
      have HCU : Hid (wr.cell? ⟨H, 0, none⟩ = some (.string u)) := hc
      clear hz hne k1 k3 hline hnx HWH HLE
      cases hp : hasP line clenP with
      | true =>
        obtain ⟨p3, p4⟩ := p1 hp
        obtain ⟨dg, hdg⟩ : ∃ x, x = trimP line clenP := ⟨_, rfl⟩
        have hds : dg.size ≤ 4000000 := by rw [hdg]; exact Nat.le_trans (trimP_size _ _) hls
        have HDG : Hid (trimP line clenP = dg) := hdg.symm
        have HPT : Hid (hasP line clenP = true) := hp
        rw [← hdg] at p3 p4
        have HY : Hid (NumOk dg → lenL (bs s) = valL (bs dg)) := fun h => by rw [h3, p3 h]
        have HN : Hid (¬ NumOk dg → lenS false [] (bs nx) = lenL (bs s)) := fun h => by rw [h3, p4 h]
        clear p1 p2 p3 p4 hp hdg h3
        go_wp2_with fail
        refine (upTo_any H u lnE _ hr hus (HLN.out _ HB.out)).mono ?_
        rintro e w2 ⟨rfl, hr2, hg2⟩
        rw [HLI.out]
        rw [HNX.out] at hr2
        have HB2 : Hid (Below H w w2) := HB.out.grown hg2 (Nat.le_of_lt HH.out) (by intro k hk; cases hk; exact Nat.le_refl _)
        have HH2 : Hid (H < w2.heap.size) := Nat.lt_of_lt_of_le HH.out hg2.size
        clear hr hg2 hc
        go_wp2_with fail
        refine (Tryz.strings_CutPrefix line clenP _).mono ?_
        rintro e w3 ⟨rfl, rfl⟩
        rw [show (⟨(Lib.trimPrefix line.data.toList clenP.data.toList).toArray⟩ : ByteArray) = dg from HDG.out, show Lib.hasPrefix line.data.toList clenP.data.toList = true from HPT.out]
        go_wp2_with fail
        refine (implNumRead_any dg _ (by unfold maxLen; omega)).mono ?_
        rintro e w4 ⟨b, n, rfl, hb1, hb2, hb3, b4⟩
        have hr4 : Reader w4 H nx := by unfold Reader; rw [b4.block H HH2.out]; exact hr2
        have HB4 : Hid (Below H w w4) := HB2.out.trans (b4.mono (Nat.le_of_lt HH2.out))
        clear hr2 b4
        cases b with
        | true =>
          have HE : Hid (n = (lenL (bs s) : Int)) := by show _ = _; rw [hb2 rfl, HY.out (hb1.1 rfl)]; rfl
          clear hb1 hb2 hb3
          go_wp2_with fail
          go_ret
          exact ⟨by rw [HE.out]; rfl, by rw [HW.out]; exact HB4.out⟩
        | false =>
          have HE : Hid (lenS false [] (bs nx) = lenL (bs s)) := HN.out (fun h => by cases hb1.2 h)
          have hc4 := hr4.cell
          clear hb1 hb2 hb3
          go_wp2_with fail
          go_roundw
          case rel => exact ⟨nx, by omega, hr4, HK1, HE, HB4⟩
          case measure => rw [hc4, HCU.out]; exact k2
      | false =>
        have HPT : Hid (hasP line clenP = false) := hp
        obtain ⟨dg, hdg⟩ : ∃ x, x = trimP line clenP := ⟨_, rfl⟩
        have hds : dg.size ≤ 4000000 := by rw [hdg]; exact Nat.le_trans (trimP_size _ _) hls
        have HDG : Hid (trimP line clenP = dg) := hdg.symm
        have HE : Hid (lenS false [] (bs nx) = lenL (bs s)) := by show _ = _; rw [h3, p2 hp]
        clear p1 p2 hp hdg h3
        go_wp2_with fail
        refine (upTo_any H u lnE _ hr hus (HLN.out _ HB.out)).mono ?_
        rintro e w2 ⟨rfl, hr2, hg2⟩
        rw [HLI.out]
        rw [HNX.out] at hr2
        have HB2 : Hid (Below H w w2) := HB.out.grown hg2 (Nat.le_of_lt HH.out) (by intro k hk; cases hk; exact Nat.le_refl _)
        have HH2 : Hid (H < w2.heap.size) := Nat.lt_of_lt_of_le HH.out hg2.size
        clear hr hg2 hc
        go_wp2_with fail
        refine (Tryz.strings_CutPrefix line clenP _).mono ?_
        rintro e w3 ⟨rfl, rfl⟩
        rw [show (⟨(Lib.trimPrefix line.data.toList clenP.data.toList).toArray⟩ : ByteArray) = dg from HDG.out, show Lib.hasPrefix line.data.toList clenP.data.toList = false from HPT.out]
        go_wp2_with fail
        refine (implNumRead_any dg _ (by unfold maxLen; omega)).mono ?_
        rintro e w4 ⟨b, n, rfl, hb1, hb2, hb3, b4⟩
        have hr4 : Reader w4 H nx := by unfold Reader; rw [b4.block H HH2.out]; exact hr2
        have HB4 : Hid (Below H w w4) := HB2.out.trans (b4.mono (Nat.le_of_lt HH2.out))
        have hc4 := hr4.cell
        clear hr2 b4 hb1 hb2 hb3
        go_wp2_with fail
        go_roundw
        case rel => exact ⟨nx, by omega, hr4, HK1, HE, HB4⟩
        case measure => rw [hc4, HCU.out]; exact k2

end Go.Proofs.YtacfajnagbeocaaGreatDoor

namespace Go.Proofs.YtacfajnagbeocaaGreatDoor
open Go.RowKit
open Go.Lib hiding intOf

/-- While requests are taken: what is left, what was told, and whether it is bad; the taker's block is T, all else of its own lies behind it. -/
structure TkSt (w : World) (T : Nat) (left : ByteArray) (V : Value) (rv : List (RqD × Value)) (bad : Bool) (wr : World) : Prop where
  tk : wr.heap[T]? = some (.cells #[.string left, V, .bool bad] 41)
  low : Below T w wr
  own : ReqsO wr T V rv
theorem TkSt.size {w : World} {T : Nat} {u : ByteArray} {V : Value} {rv : List (RqD × Value)} {bad : Bool} {wr : World} (h : TkSt w T u V rv bad wr) : T < wr.heap.size := (Array.getElem?_eq_some_iff.1 h.tk).1
theorem TkSt.later {w : World} {T : Nat} {u : ByteArray} {V : Value} {rv : List (RqD × Value)} {bad : Bool} {wr w' : World} (h : TkSt w T u V rv bad wr) (hb : Below wr.heap.size wr w') : TkSt w T u V rv bad w' :=
  ⟨by rw [hb.block _ h.size]; exact h.tk, h.low.trans (hb.mono (Nat.le_of_lt h.size)), h.own.later hb⟩
theorem TkSt.cells {w : World} {T : Nat} {u : ByteArray} {V : Value} {rv : List (RqD × Value)} {bad : Bool} {wr : World} (h : TkSt w T u V rv bad wr) : wr.cell? ⟨T, 0, none⟩ = some (.string u) ∧ wr.cell? ⟨T, 1, none⟩ = some V ∧ wr.cell? ⟨T, 2, none⟩ = some (.bool bad) ∧ ∀ o, wr.frozen? ⟨T, o, none⟩ = false := by
  have e := h.tk
  refine ⟨?_, ?_, ?_, fun o => ?_⟩ <;> simp [World.cell?, World.frozen?, e]
theorem TkSt.putLeft {w : World} {T : Nat} {u : ByteArray} {V : Value} {rv : List (RqD × Value)} {bad : Bool} {wr : World} (h : TkSt w T u V rv bad wr) (x : ByteArray) : TkSt w T x V rv bad (wr.setCell ⟨T, 0, none⟩ (.string x)) :=
  ⟨by rw [heap_set _ _ _ _ _ _ _ h.tk]; rfl, h.low.setCell (Nat.le_refl _) _, h.own.else h.tk (by decide) (by decide) 0 _⟩
theorem TkSt.putBad {w : World} {T : Nat} {u : ByteArray} {V : Value} {rv : List (RqD × Value)} {bad : Bool} {wr : World} (h : TkSt w T u V rv bad wr) (x : Bool) : TkSt w T u V rv x (wr.setCell ⟨T, 2, none⟩ (.bool x)) :=
  ⟨by rw [heap_set _ _ _ _ _ _ _ h.tk]; rfl, h.low.setCell (Nat.le_refl _) _, h.own.else h.tk (by decide) (by decide) 2 _⟩
/-- A request more. -/
theorem TkSt.more {w : World} {T : Nat} {u : ByteArray} {V V' : Value} {rv : List (RqD × Value)} {bad : Bool} {wr W : World} {r : RqD} {v : Value} {base' : Nat} (h : TkSt w T u V rv bad wr) (hb' : T ≤ base') (hv : wr.ownsRow base' 63 2 v r.fs.length (flatF r.fs)) (hold : ∀ j, (∃ x ∈ rv, x.2.ownBlock = some j) → j < base') (hg : wr.grownBy W V.ownBlock) (hrow : W.ownsRow T 37 4 V' (rv.length + 1) (flatR rv ++ rqC (r, v))) :
    W.heap[T]? = some (.cells #[.string u, V, .bool bad] 41) ∧ TkSt w T u V' (rv ++ [(r, v)]) bad (W.setCell ⟨T, 1, none⟩ V') := by
  have hs := h.size
  have hT : W.heap[T]? = some (.cells #[.string u, V, .bool bad] 41) := by
    rw [hg.block _ hs (fun e => own_noR h.own.row (by decide) h.tk e.symm)]; exact h.tk
  have hlow : Below T w W := h.low.trans ((Below.refl T wr).grown hg (by omega) (fun g hg => (own_ltR h.own.row hg).1))
  exact ⟨hT, by rw [heap_set _ _ _ _ _ _ _ hT]; rfl, hlow.setCell (Nat.le_refl _) _, (h.own.more hb' hv hold hg hrow).else hT (by decide) (by decide) 1 _⟩

/-- What 'tell' does. -/
def TellIs (w : World) (T : Nat) (u : ByteArray) (V : Value) (rv : List (RqD × Value)) (n : Nat) (e : Ending) (w' : World) : Prop :=
  (e = .returned (.bool true) ∧ ∃ r v V', TkSt w T (u.extract n u.size) V' (rv ++ [(r, v)]) false w' ∧ r.ok ∧ r.text = bs (u.extract 0 n) ∧ okL (bs (u.extract 0 n)) = true) ∨
  (e = .returned (.bool false) ∧ TkSt w T u V rv true w' ∧ ¬ okL (bs (u.extract 0 n)) = true)

set_option maxHeartbeats 4000000 in
set_option maxRecDepth 100000 in
theorem tell_any (w : World) (T : Nat) (u : ByteArray) (V : Value) (rv : List (RqD × Value)) (n : Nat) (w0 : World) (hst : TkSt w T u V rv false w0) (hn : n ≤ u.size) (hu : u.size ≤ 2200000) (hrl : rv.length ≤ 2200000) (hT : ∀ W, Below T w W → TabOk W) (hL : ∀ W, Below T w W → LenOk W) :
    Calls Tryz.prog 29 #[.pointer (some ⟨T, 0, none⟩), .int .i64 (n : Int)] w0 fun e w' => TellIs w T u V rv n e w' := by
  obtain ⟨i0, hi, hz0, hz1, hz2⟩ := info_parts infoReq
  obtain ⟨oa, cp, rfl⟩ := slice_of_owns hst.own.row
  obtain ⟨nr, hnr⟩ : ∃ x, x = rv.length := ⟨_, rfl⟩
  have HNR : Hid (nr = rv.length) := hnr
  obtain ⟨tx, htx⟩ : ∃ x, x = u.extract 0 n := ⟨_, rfl⟩
  have hts : tx.size ≤ 3000000 := by rw [htx, ByteArray.size_extract]; omega
  have HXT : Hid (u.extract 0 n = tx) := htx.symm
  have HTB : Hid (TabOk w0) := hT _ hst.low
  have HLN : Hid (LenOk w0) := hL _ hst.low
  have hnu : (n : Int) ≤ (u.size : Int) := by omega
  have HST : Hid (TkSt w T u (.slice oa nr cp) rv false w0) := by rw [hnr]; exact hst
  have hc0 := hst.cells.1
  rw [← hnr]
  have h63 : nr + 1 ≤ maxLen := by unfold maxLen; omega
  have h47 : (nr + 1) * 64 ≤ 140737488355328 := by omega
  clear hT hL hst htx hnr hrl
  go_enter Tryz.func29, Tryz.ntmps29
  go_wp2_with fail
  rw [HXT.out]
  refine (implReqRead_any tx _ hts HTB.out HLN.out).mono ?_
  rintro e w2 (⟨m, p, fs, b, v, rfl, hreq, hown, b2⟩ | ⟨rfl, hno, b2⟩)
  · obtain ⟨ov, cv, rfl⟩ := slice_of_owns hown
    obtain ⟨r, hr⟩ : ∃ r : RqD, r = ⟨m, p, fs, b⟩ := ⟨_, rfl⟩
    obtain ⟨nf, hnf⟩ : ∃ x, x = fs.length := ⟨_, rfl⟩
    rw [← hnf] at hown
    rw [← hnf]
    have HRC : Hid (rqC (r, .slice ov nf cv) = [.int .i64 m, .string p, .slice ov nf cv, .string b]) := by show _ = _; rw [hr]; rfl
    have HOKR : Hid (r.ok ∧ r.text = bs tx ∧ nf = r.fs.length) := by show _ ∧ _; rw [hr]; exact ⟨hreq.1, by show bs (reqT m p fs b) = bs tx; rw [hreq.2], hnf⟩
    have HOK2 : Hid (okL (bs tx) = true) := okL_yes hreq
    have HOLD : Hid (∀ j, (∃ x ∈ rv, x.2.ownBlock = some j) → j < w0.heap.size) := fun j hj => (HST.out.own.lt j (.inr hj)).2
    have HOW : Hid (w2.ownsRow w0.heap.size 63 2 (.slice ov nf cv) r.fs.length (flatF r.fs)) := by show World.ownsRow _ _ _ _ _ _ _; rw [← HOKR.out.2.2, hr]; exact hown
    have HTS : Hid (T ≤ w0.heap.size) := Nat.le_of_lt HST.out.size
    have HS2 : Hid (TkSt w T u (.slice oa nr cp) rv false w2) := HST.out.later b2
    obtain ⟨Wa, hWa⟩ : ∃ W, W = w2.alloc (Obj.cells #[.int .i64 m, .string p, .slice ov nf cv, .string b] 37) := ⟨_, rfl⟩
    have HS3 : Hid (TkSt w T u (.slice oa nr cp) rv false Wa) := by
      show TkSt _ _ _ _ _ _ _
      rw [hWa]
      exact HS2.out.later ((Below.refl _ _).alloc (Nat.le_refl _) _)
    have HOW3 : Hid (Wa.ownsRow w0.heap.size 63 2 (.slice ov nf cv) r.fs.length (flatF r.fs)) := by
      show World.ownsRow _ _ _ _ _ _ _
      rw [hWa]
      exact HOW.out.alloc _
    have HR3 : Hid (Wa.heap[w2.heap.size]? = some (Obj.cells #[.int .i64 m, .string p, .slice ov nf cv, .string b] 37)) := by show _ = _; rw [hWa]; exact heap_alloc_new w2 _
    have HDR : Hid (∀ o, TkSt w T u (.slice oa nr cp) rv false (Wa.drew.alloc o)) := fun o => (HS3.out.later ((Below.refl _ _).drew)).later ((Below.refl _ _).alloc (Nat.le_refl _) o)
    have HO3 : Hid (∀ o, (Wa.drew.alloc o).ownsRow T 37 4 (.slice oa nr cp) nr (flatR rv)) := fun o => by have := (HDR.out o).own.row; rw [← HNR.out] at this; exact this
    have HSZ : Hid (∀ o, T ≤ (Wa.drew.alloc o).heap.size) := fun o => Nat.le_of_lt (HDR.out o).size
    have HM : Hid (∀ W4 g cap, (Wa.drew.alloc (Obj.cells #[.int .i64 m, .string p, .slice ov nf cv, .string b] 37)).grownBy W4 (Value.slice oa nr cp).ownBlock → W4.ownsRow T 37 4 (.slice (some ⟨g, 0, none⟩) (nr + 1) cap) (nr + 1) (flatR rv ++ [.int .i64 m, .string p, .slice ov nf cv, .string b]) →
        W4.cell? ⟨T, 1, none⟩ = some (.slice oa nr cp) ∧ W4.frozen? ⟨T, 1, none⟩ = false ∧ (W4.setCell ⟨T, 1, none⟩ (.slice (some ⟨g, 0, none⟩) (nr + 1) cap)).cell? ⟨T, 0, none⟩ = some (.string u) ∧ (W4.setCell ⟨T, 1, none⟩ (.slice (some ⟨g, 0, none⟩) (nr + 1) cap)).frozen? ⟨T, 0, none⟩ = false ∧
        Hid (TkSt w T u (.slice (some ⟨g, 0, none⟩) (nr + 1) cap) (rv ++ [(r, .slice ov nf cv)]) false (W4.setCell ⟨T, 1, none⟩ (.slice (some ⟨g, 0, none⟩) (nr + 1) cap)))) := fun W4 g cap hg ho => by
      have hd : Wa.drew.ownsRow w0.heap.size 63 2 (.slice ov nf cv) r.fs.length (flatF r.fs) := owns_below HOW3.out ((Below.refl _ _).drew) (fun g hg => (own_ltR HOW3.out hg).2)
      obtain ⟨k1, k2⟩ := (HDR.out _).more (V' := .slice (some ⟨g, 0, none⟩) (nr + 1) cap) (r := r) (v := .slice ov nf cv) HTS.out (hd.alloc _) HOLD.out hg (by rw [← HNR.out, HRC.out]; exact ho)
      exact ⟨by simp [World.cell?, k1], by simp [World.frozen?, k1], k2.cells.1, k2.cells.2.2.2 0, k2⟩
    have hc3 : Wa.cell? ⟨T, 1, none⟩ = some (.slice oa nr cp) := HS3.out.cells.2.1
    have hcd3 : Wa.drew.cell? ⟨T, 1, none⟩ = some (.slice oa nr cp) := HS3.out.cells.2.1
    have hca3 : ∀ o, (Wa.drew.alloc o).cell? ⟨T, 1, none⟩ = some (.slice oa nr cp) := fun o => (HDR.out o).cells.2.1
    have hcb3 : ∀ o, (Wa.alloc o).cell? ⟨T, 1, none⟩ = some (.slice oa nr cp) := fun o => hca3 o
    have hq0 : Wa.cell? ⟨w2.heap.size, 0, none⟩ = some (.int .i64 m) := by simp [World.cell?, HR3.out]
    have hq1 : Wa.cell? ⟨w2.heap.size, 1, none⟩ = some (.string p) := by simp [World.cell?, HR3.out]
    have hq2 : Wa.cell? ⟨w2.heap.size, 2, none⟩ = some (.slice ov nf cv) := by simp [World.cell?, HR3.out]
    have hq3 : Wa.cell? ⟨w2.heap.size, 3, none⟩ = some (.string b) := by simp [World.cell?, HR3.out]
    have hr0 : Wa.drew.cell? ⟨w2.heap.size, 0, none⟩ = some (.int .i64 m) := hq0
    have hr1 : Wa.drew.cell? ⟨w2.heap.size, 1, none⟩ = some (.string p) := hq1
    have hr2 : Wa.drew.cell? ⟨w2.heap.size, 2, none⟩ = some (.slice ov nf cv) := hq2
    have hr3 : Wa.drew.cell? ⟨w2.heap.size, 3, none⟩ = some (.string b) := hq3
    have hnews : ∀ j x, [Value.int .i64 m, .string p, .slice ov nf cv, .string b][j]? = some x → (Wa.drew.alloc (Obj.cells #[.int .i64 m, .string p, .slice ov nf cv, .string b] 37)).cell? ((⟨Wa.heap.size, 0, none⟩ : Addr).add j) = some x := World.news_of_block (heap_alloc_new Wa.drew _)
    have HWA : Hid (w2.alloc (Obj.cells #[.int .i64 m, .string p, .slice ov nf cv, .string b] 37) = Wa) := hWa.symm
    clear hown hr hnf b2 hreq hWa hc0
    go_wp2_with fail
    rw [HWA.out]
    go_region_law (refine step_append_lies _ (by rfl) _ _ _ (by rfl) T 37 i0 (.agg #[.int .i64 0, .string ⟨#[]⟩, .slice none 0 0, .string ⟨#[]⟩]) 4 64 Tryz.underlying26 hi hz0 hz1 hz2 rfl (by omega) (.slice oa nr cp) nr (flatR rv) (by rfl) (HO3.out _) ⟨Wa.heap.size, 0, none⟩ 1 1 [.int .i64 m, .string p, .slice ov nf cv, .string b] (by rfl) (by rfl) hnews (by simp [Value.oneCell']) (by omega) h63 h47 (HSZ.out _) (Wa.heap.size + 1) (by simp) ?_; intro g4 cap4 w4 hown4 hgrow4 hat4 hlt4; obtain ⟨hc4, hf4, hc5, hf5, HS5⟩ := HM.out w4 g4 cap4 hgrow4 hown4; clear hown4 hgrow4 hat4 hlt4)
    all_goals
      have HS6 : Hid _ := HS5.out.putLeft (u.extract n u.size)
      go_wp2_with fail
      go_ret
      exact .inl ⟨rfl, r, .slice ov nf cv, _, HS6.out, HOKR.out.1, by rw [HXT.out]; exact HOKR.out.2.1, by rw [HXT.out]; exact HOK2.out⟩
  · have HS2 : Hid (TkSt w T u (.slice oa nr cp) rv false (w2.alloc (Obj.cells #[.int .i64 0, .string ⟨#[]⟩, .slice none 0 0, .string ⟨#[]⟩] 37))) := (HST.out.later b2).later ((Below.refl _ w2).alloc (Nat.le_refl _) _)
    have HNO : Hid (¬ okL (bs tx) = true) := okL_no hno
    have hc2 := HS2.out.cells.2.2.1
    have hf2 := HS2.out.cells.2.2.2 2
    have HS3 := HS2.out.putBad true
    have HS4 : Hid _ := HS3
    clear b2 hno HS3 hc0
    go_wp2_with fail
    go_ret
    exact .inr ⟨rfl, HS4.out, by rw [HXT.out]; exact HNO.out⟩

end Go.Proofs.YtacfajnagbeocaaGreatDoor

namespace Go.Proofs.YtacfajnagbeocaaGreatDoor
open Go.RowKit
open Go.Lib hiding intOf

/-- What 'takeOne' does. -/
def TakeIs (w : World) (T : Nat) (u : ByteArray) (V : Value) (rv : List (RqD × Value)) (e : Ending) (w' : World) : Prop :=
  (e = .returned (.bool true) ∧ ∃ r v V' m, 4 ≤ m ∧ m ≤ u.size ∧ TkSt w T (u.extract m u.size) V' (rv ++ [(r, v)]) false w' ∧ r.ok ∧ ∀ u2 c t, Fd okL lenL (bs (u.extract m u.size)) (u2, c, t) → Fd okL lenL (bs u) (u2, c, r.text :: t)) ∨
  (e = .returned (.bool false) ∧ ∃ c, TkSt w T u V rv c w' ∧ Fd okL lenL (bs u) (if c = true then [] else bs u, c, []))

set_option maxHeartbeats 4000000 in
set_option maxRecDepth 100000 in
theorem takeOne_any (w : World) (T : Nat) (u : ByteArray) (V : Value) (rv : List (RqD × Value)) (w0 : World) (hst : TkSt w T u V rv false w0) (hu : u.size ≤ 2200000) (hrl : rv.length ≤ 2200000) (hT : ∀ W, Below T w W → TabOk W) (hL : ∀ W, Below T w W → LenOk W) :
    Calls Tryz.prog 15 #[.pointer (some ⟨T, 0, none⟩)] w0 fun e w' => TakeIs w T u V rv e w' := by
  have HST : Hid (TkSt w T u V rv false w0) := hst
  have HTB : Hid (∀ W, Below T w W → TabOk W) := hT
  have HLN : Hid (∀ W, Below T w W → LenOk W) := hL
  have hc0 := hst.cells.1
  obtain ⟨m0, hm0⟩ := hL _ hst.low
  clear hst hT hL
  go_enter Tryz.func15, Tryz.ntmps15
  go_wp2_with fail
  refine (Tryz.strings_Index u lnE2 m0 _ (by omega) hm0).mono ?_
  rintro e w1 ⟨rfl, rfl⟩
  rw [show Lib.index u.data.toList lnE2.data.toList = Lib.index (bs u) [13, 10, 13, 10] from rfl]
  clear hm0
  rcases headN_index (bs u) with ⟨hh, hx⟩ | ⟨k, hh, hx, hkl, hwh⟩
  · rw [hx]
    have HFD : Hid (Fd okL lenL (bs u) (bs u, false, [])) := Fd.none hh
    clear hh hx
    go_wp2_with fail
    go_ret
    exact .inr ⟨rfl, false, HST.out, HFD.out⟩
  · rw [hx]
    rw [bs_len] at hkl
    obtain ⟨hd, hhd⟩ : ∃ x, x = u.extract 0 (k + 4) := ⟨_, rfl⟩
    have hhs : hd.size ≤ 4000000 := by rw [hhd, ByteArray.size_extract]; omega
    have HHD : Hid (bs hd = (bs u).take (k + 4)) := by show _ = _; rw [hhd, bs_extract, List.drop_zero]
    have HXD : Hid (u.extract 0 (k + 4) = hd) := hhd.symm
    have HWH : Hid (Whole (bs hd)) := by show Whole _; rw [HHD.out]; exact hwh
    have HNE : Hid (bs hd ≠ []) := fun e => by
      have := congrArg List.length e
      rw [HHD.out, List.length_take, bs_len, List.length_nil] at this
      omega
    have HNN : Hid (headN (bs u) = some (k + 4)) := hh
    have hk4 : (k : Int) + 4 ≤ (u.size : Int) := by omega
    have hk5 : ((k : Int) + 4).toNat = k + 4 := by omega
    have hk6 : (0 : Int) ≤ (k : Int) + 4 := by omega
    have hk7 : ¬ (k : Int) < 0 := by omega
    clear hh hx hwh hhd
    go_wp2_with fail
    rw [HXD.out]
    refine (bodyLength_any hd _ hhs HWH.out HNE.out (HLN.out _ HST.out.low)).mono ?_
    rintro e w2 ⟨rfl, b2⟩
    have HS2 : Hid (TkSt w T u V rv false w2) := HST.out.later b2
    obtain ⟨q, hq⟩ : ∃ q, q = lenL (bs hd) := ⟨_, rfl⟩
    rw [← hq]
    have HQ : Hid (lenL ((bs u).take (k + 4)) = q) := by show _ = _; rw [hq, HHD.out]
    have hq6 : q ≤ 1000000 := by rw [hq]; exact lenL_le _
    have hc2 := HS2.out.cells.1
    clear hq b2 hc0
    by_cases hq120 : (120 : Int) < (q : Int)
    · have HF1 : Hid (Fd okL lenL (bs u) ([], true, [])) := Fd.long HNN.out (by rw [HQ.out]; omega)
      have hc3 := HS2.out.cells.2.2.1
      have hf3 := HS2.out.cells.2.2.2 2
      have HS3 : Hid _ := HS2.out.putBad true
      go_wp2_with fail
      go_ret
      exact .inr ⟨rfl, true, HS3.out, HF1.out⟩
    · by_cases hle : (k : Int) + 4 + (q : Int) ≤ (u.size : Int)
      · have HNX : Hid (∀ r : RqD, r.text = bs (u.extract 0 (k + 4 + q)) → okL (bs (u.extract 0 (k + 4 + q))) = true → ∀ u2 c t, Fd okL lenL (bs (u.extract (k + 4 + q) u.size)) (u2, c, t) → Fd okL lenL (bs u) (u2, c, r.text :: t)) := fun r hr hok u2 c t h => by
          have e1 : bs (u.extract 0 (k + 4 + q)) = (bs u).take (k + 4 + q) := by rw [bs_extract, List.drop_zero]
          have e2 : bs (u.extract (k + 4 + q) u.size) = (bs u).drop (k + 4 + q) := by rw [bs_extract, List.take_of_length_le (by rw [bs_len]; exact Nat.le_refl _)]
          have h1 := Fd.next (ok := okL) (len := lenL) (u := u2) (b := c) (t := t) HNN.out (by rw [HQ.out]; omega) (by rw [HQ.out, bs_len]; omega) (by rw [HQ.out, ← e1]; exact hok) (by rw [HQ.out, ← e2]; exact h)
          rw [HQ.out, ← e1, ← hr] at h1
          exact h1
        have HNO : Hid (¬ okL (bs (u.extract 0 (k + 4 + q))) = true → Fd okL lenL (bs u) ([], true, [])) := fun hok => by
          have e1 : bs (u.extract 0 (k + 4 + q)) = (bs u).take (k + 4 + q) := by rw [bs_extract, List.drop_zero]
          exact Fd.wrong HNN.out (by rw [HQ.out]; omega) (by rw [HQ.out, bs_len]; omega) (by rw [HQ.out, ← e1]; exact hok)
        go_wp2_with fail
        rw [show (k : Int) + 4 + (q : Int) = ((k + 4 + q : Nat) : Int) by omega]
        refine (tell_any w T u V rv (k + 4 + q) _ HS2.out (by omega) hu hrl HTB.out HLN.out).mono ?_
        rintro e w3 (⟨rfl, r, v, V', h1, h2, h3, h4⟩ | ⟨rfl, h1, h2⟩)
        · have HR : Hid (TkSt w T (u.extract (k + 4 + q) u.size) V' (rv ++ [(r, v)]) false w3 ∧ r.ok ∧ ∀ u2 c t, Fd okL lenL (bs (u.extract (k + 4 + q) u.size)) (u2, c, t) → Fd okL lenL (bs u) (u2, c, r.text :: t)) := ⟨h1, h2, HNX.out r h3 h4⟩
          clear h1 h2 h3 h4
          go_wp2_with fail
          go_ret
          exact .inl ⟨rfl, r, v, V', k + 4 + q, by omega, by omega, HR.out⟩
        · have HR : Hid (TkSt w T u V rv true w3 ∧ Fd okL lenL (bs u) ([], true, [])) := ⟨h1, HNO.out h2⟩
          clear h1 h2
          go_wp2_with fail
          go_ret
          exact .inr ⟨rfl, true, HR.out.1, HR.out.2⟩
      · have HF1 : Hid (Fd okL lenL (bs u) (bs u, false, [])) := Fd.short HNN.out (by rw [HQ.out]; omega) (by rw [HQ.out, bs_len]; omega)
        go_wp2_with fail
        go_ret
        exact .inr ⟨rfl, false, HS2.out, HF1.out⟩

/-- An answer's block: what is put into its two cells stands there. -/
theorem ans_put {w : World} {g : Nat} {x y : Value} (h : w.heap[g]? = some (.cells #[x, y] 25)) (x1 y1 : Value) :
    (w.cell? ⟨g, 0, none⟩ = some x ∧ w.cell? ⟨g, 1, none⟩ = some y ∧ w.frozen? ⟨g, 0, none⟩ = false ∧ w.frozen? ⟨g, 1, none⟩ = false) ∧ ((w.setCell ⟨g, 0, none⟩ x1).setCell ⟨g, 1, none⟩ y1).cell? ⟨g, 0, none⟩ = some x1 ∧ ((w.setCell ⟨g, 0, none⟩ x1).setCell ⟨g, 1, none⟩ y1).cell? ⟨g, 1, none⟩ = some y1 := by
  have h1 := heap_set w g 0 _ _ _ x1 h
  have h2 := heap_set (w.setCell ⟨g, 0, none⟩ x1) g 1 _ _ _ y1 h1
  refine ⟨⟨?_, ?_, ?_, ?_⟩, ?_, ?_⟩
  · simp [World.cell?, h]
  · simp [World.cell?, h]
  · simp [World.frozen?, h]
  · simp [World.frozen?, h]
  · simp [World.cell?, h2]
  · simp [World.cell?, h2]

set_option maxHeartbeats 1000000 in
theorem stream_bad (w : World) (T : Nat) (u : ByteArray) (V : Value) (rv : List (RqD × Value)) (c : Bool) (w0 : World) (hst : TkSt w T u V rv c w0) (h : c = true ∨ 1200 < u.size) :
    Calls Tryz.prog 16 #[.pointer (some ⟨T, 0, none⟩)] w0 fun e w' => e = .returned (.agg #[.string ⟨#[]⟩, .bool true]) ∧ Below w0.heap.size w0 w' := by
  have h0 : ∀ o, (w0.alloc o).cell? ⟨T, 0, none⟩ = some (.string u) := fun o => (hst.later ((Below.refl _ _).alloc (Nat.le_refl _) o)).cells.1
  have h2 : ∀ o, (w0.alloc o).cell? ⟨T, 2, none⟩ = some (.bool c) := fun o => (hst.later ((Below.refl _ _).alloc (Nat.le_refl _) o)).cells.2.2.1
  have HBW : Hid (Below w0.heap.size w0 (w0.alloc (.cells #[.string ⟨#[]⟩, .bool true] 25))) := (Below.refl _ _).alloc (Nat.le_refl _) _
  clear hst
  cases c with
  | true =>
    clear h
    go_enter Tryz.func16, Tryz.ntmps16
    go_wp2_with fail
    refine bodyPost_ret (v := .agg #[.string ⟨#[]⟩, .bool true]) (by simp [results, Tryz.results16, go_sem]) rfl ?_
    exact ⟨rfl, HBW.out⟩
  | false =>
    have h12 : (1200 : Int) < (u.size : Int) := by rcases h with h | h; · cases h
                                                   · omega
    clear h
    go_enter Tryz.func16, Tryz.ntmps16
    go_wp2_with fail
    refine bodyPost_ret (v := .agg #[.string ⟨#[]⟩, .bool true]) (by simp [results, Tryz.results16, go_sem]) rfl ?_
    exact ⟨rfl, HBW.out⟩

set_option maxHeartbeats 1000000 in
theorem stream_good (w : World) (T : Nat) (u : ByteArray) (V : Value) (rv : List (RqD × Value)) (w0 : World) (hst : TkSt w T u V rv false w0) (h : ¬ 1200 < u.size) :
    Calls Tryz.prog 16 #[.pointer (some ⟨T, 0, none⟩)] w0 fun e w' => e = .returned (.agg #[.string u, .bool false]) ∧ Below w0.heap.size w0 w' := by
  have h0 : ∀ o, (w0.alloc o).cell? ⟨T, 0, none⟩ = some (.string u) := fun o => (hst.later ((Below.refl _ _).alloc (Nat.le_refl _) o)).cells.1
  have h2 : ∀ o, (w0.alloc o).cell? ⟨T, 2, none⟩ = some (.bool false) := fun o => (hst.later ((Below.refl _ _).alloc (Nat.le_refl _) o)).cells.2.2.1
  have h12 : ¬ (1200 : Int) < (u.size : Int) := by omega
  clear hst h
  go_enter Tryz.func16, Tryz.ntmps16
  go_wp2_with fail
  refine (clone_any u _ (by omega)).mono ?_
  rintro e w1 ⟨rfl, b1⟩
  have hans : w1.heap[w0.heap.size]? = some (.cells #[.string ⟨#[]⟩, .bool false] 25) := by
    rw [b1.block _ (by simp)]
    exact heap_alloc_new w0 _
  obtain ⟨⟨k1, k2, k3, k4⟩, m3, m4⟩ := ans_put hans (.string u) (.bool false)
  have HBW : Hid (Below w0.heap.size w0 ((w1.setCell ⟨w0.heap.size, 0, none⟩ (.string u)).setCell ⟨w0.heap.size, 1, none⟩ (.bool false))) := ((((Below.refl _ w0).alloc (Nat.le_refl _) _).trans (b1.mono (by simp))).setCell (Nat.le_refl _) _).setCell (Nat.le_refl _) _
  clear b1 hans
  go_wp2_with fail
  refine bodyPost_ret (v := .agg #[.string u, .bool false]) (by simp [results, Tryz.results16, go_sem, m3, m4]) rfl ?_
  exact ⟨rfl, HBW.out⟩

/-- A list of one's own, from a lower number on. -/
theorem ReqsO.lower {w : World} {b b' : Nat} {V : Value} {rv : List (RqD × Value)} (h : ReqsO w b V rv) (hb : b' ≤ b) : ReqsO w b' V rv :=
  ⟨owns_base h.row hb, fun x hx => owns_base (h.own x hx) hb, h.apart⟩

set_option maxHeartbeats 4000000 in
set_option maxRecDepth 100000 in
theorem implFeed_any (wait : ByteArray) (bad : Bool) (piece : ByteArray) (w : World) (hs : wait.size + piece.size ≤ 2200000) (hT : TabOk w) (hL : LenOk w) :
    Calls Tryz.prog 7 #[.agg #[.string wait, .bool bad], .string piece] w fun e w' => FeedIs wait bad piece w e w' := by
  cases bad with
  | true =>
    have hF : FeedP okL lenL (bs wait) true (bs piece) (bs ⟨#[]⟩) true ([] : List (List UInt8)) := .inl ⟨rfl, rfl, rfl, rfl⟩
    have HF : Hid (FeedP okL lenL (bs wait) true (bs piece) (bs ⟨#[]⟩) true ([] : List (List UInt8))) := hF
    have HB : Hid (∀ o1 o2, Below w.heap.size w ((w.alloc o1).alloc o2)) := fun o1 o2 => ((Below.refl _ w).alloc (Nat.le_refl _) _).alloc (by simp) _
    clear hF hT hL
    go_enter Tryz.func7, Tryz.ntmps7
    go_wp2_with fail
    refine bodyPost_ret (v := .tuple #[.agg #[.string ⟨#[]⟩, .bool true], .slice none 0 0]) (by simp [results, Tryz.results7, go_sem]) rfl ?_
    exact ⟨⟨#[]⟩, true, _, [], rfl, ReqsO.nil _ _, by simp, HF.out, HB.out _ _⟩
  | false =>
    have q0 : ¬ 9223372036854775807 < wait.size + piece.size := by omega
    obtain ⟨all, hall⟩ : ∃ x, x = wait ++ piece := ⟨_, rfl⟩
    have hals : all.size ≤ 2200000 := by rw [hall, ByteArray.size_append]; omega
    have HALL : Hid (bs all = bs wait ++ bs piece) := by show _ = _; rw [hall, bs_append]
    have HXA : Hid (wait ++ piece = all) := hall.symm
    have HFIN : Hid (∀ (u : ByteArray) (c : Bool) (t : List (List UInt8)), Fd okL lenL (bs all) (if c = true then [] else bs u, c, t) → (((c = true ∨ 1200 < u.size) → FeedP okL lenL (bs wait) false (bs piece) (bs ⟨#[]⟩) true t) ∧ (c = false → ¬ 1200 < u.size → FeedP okL lenL (bs wait) false (bs piece) (bs u) false t))) := fun u c t h => by
      rw [HALL.out] at h
      cases c with
      | true => exact ⟨fun _ => .inr ⟨rfl, [], true, h, .inl ⟨.inl rfl, rfl, rfl⟩⟩, fun h1 _ => by cases h1⟩
      | false => exact ⟨fun hc => .inr ⟨rfl, bs u, false, h, .inl ⟨by rw [bs_len]; exact hc, rfl, rfl⟩⟩, fun h1 h2 => .inr ⟨rfl, bs u, false, h, .inr ⟨h1, by rw [bs_len]; exact h2, rfl, rfl⟩⟩⟩
    obtain ⟨W0, hW0⟩ : ∃ W, W = (w.alloc (Obj.cells #[.string wait, .bool false] 25)).alloc (Obj.cells #[.string ⟨#[]⟩, .bool false] 25) := ⟨_, rfl⟩
    obtain ⟨T, hTT⟩ : ∃ T, T = w.heap.size + 1 + 1 := ⟨_, rfl⟩
    have hWs : W0.heap.size = T := by rw [hW0, hTT]; simp
    have HB0 : Hid (Below w.heap.size w W0) := by
      show Below _ _ _
      rw [hW0]
      exact ((Below.refl _ w).alloc (Nat.le_refl _) _).alloc (by simp) _
    have HTB : Hid (∀ W, Below T W0 W → TabOk W) := fun W h => hT.below (HB0.out.trans (h.mono (by omega)))
    have HLN : Hid (∀ W, Below T W0 W → LenOk W) := fun W h => hL.below (HB0.out.trans (h.mono (by omega))) hL.lt
    have HAN : Hid (∀ W, Below T W0 W → W.heap[w.heap.size + 1]? = some (.cells #[.string ⟨#[]⟩, .bool false] 25)) := fun W h => by
      rw [h.block _ (by omega), hW0]
      have := heap_alloc_new (w.alloc (Obj.cells #[.string wait, .bool false] 25)) (Obj.cells #[.string ⟨#[]⟩, .bool false] 25)
      rw [World.size_alloc] at this
      exact this
    have HST : Hid (TkSt W0 T all (.slice none 0 0) [] false (W0.alloc (Obj.cells #[.string all, .slice none 0 0, .bool false] 41))) :=
      ⟨by rw [← hWs]; exact heap_alloc_new W0 _, (Below.refl _ _).alloc (by omega) _, ReqsO.nil _ _⟩
    have HW0 : Hid ((w.alloc (Obj.cells #[.string wait, .bool false] 25)).alloc (Obj.cells #[.string ⟨#[]⟩, .bool false] 25) = W0) := hW0.symm
    have HTT : Hid (w.heap.size + 1 + 1 = T) := hTT.symm
    clear hT hL hW0 hWs hall
    go_enter Tryz.func7, Tryz.ntmps7
    go_wp2_with fail
    rw [HW0.out, HXA.out, HTT.out]
    clear HW0 HXA hTT q0
    go_loopw [15] (fun _ wr => ∃ (u : ByteArray) (rv : List (RqD × Value)) (V : Value), u.size ≤ all.size ∧ 4 * rv.length + u.size ≤ all.size ∧ Hid (TkSt W0 T u V rv false wr) ∧ Hid (∀ x ∈ rv, x.1.ok) ∧ Hid (∀ u2 c t, Fd okL lenL (bs u) (u2, c, t) → Fd okL lenL (bs all) (u2, c, rv.map (fun x => x.1.text) ++ t))) (fun _ wr => match wr.cell? ⟨T, 0, none⟩ with | some (.string u) => u.size | _ => 0)
    case atStart => exact ⟨all, [], .slice none 0 0, Nat.le_refl _, by simp, HST, (by show ∀ x ∈ _, _; simp), fun u2 c t h => by simpa using h⟩
    case round =>
      obtain ⟨u, rv, V, hu, hrl, HS, HOK, HFD⟩ := hrel
      have HCU : Hid (wr.cell? ⟨T, 0, none⟩ = some (.string u)) := HS.out.cells.1
      go_wp2_with fail
      refine (takeOne_any W0 T u V rv _ HS.out (by omega) (by omega) HTB.out HLN.out).mono ?_
      rintro e w1 (⟨rfl, r, v, V', m, h4, hm, h1, h2, h3⟩ | ⟨rfl, c, h1, h2⟩)
      · have HS1 : Hid (TkSt W0 T (u.extract m u.size) V' (rv ++ [(r, v)]) false w1) := h1
        have HC1 : Hid (w1.cell? ⟨T, 0, none⟩ = some (.string (u.extract m u.size))) := h1.cells.1
        have HOK3 : Hid (∀ x ∈ rv ++ [(r, v)], x.1.ok) := fun x hx => by
          simp only [List.mem_append, List.mem_singleton] at hx
          rcases hx with hx | rfl
          · exact HOK.out x hx
          · exact h2
        have HFD3 : Hid (∀ u2 c t, Fd okL lenL (bs (u.extract m u.size)) (u2, c, t) → Fd okL lenL (bs all) (u2, c, (rv ++ [(r, v)]).map (fun x => x.1.text) ++ t)) := fun u2 c t h => by
          have h5 := HFD.out _ _ _ (h3 _ _ _ h)
          rw [List.map_append, List.append_assoc]
          exact h5
        clear h1 h2 h3
        go_wp2_with fail
        go_roundw
        case rel =>
          refine ⟨u.extract m u.size, rv ++ [(r, v)], V', ?_, ?_, HS1, HOK3, HFD3⟩
          · rw [ByteArray.size_extract]; omega
          · rw [ByteArray.size_extract, List.length_append, List.length_singleton]; omega
        case measure => rw [HC1.out, HCU.out]; simp only [ByteArray.size_extract]; omega
      · have HS1 : Hid (TkSt W0 T u V rv c w1) := h1
        have hF := HFD.out _ _ _ h2
        rw [List.append_nil] at hF
        obtain ⟨f1, f2⟩ := HFIN.out u c _ hF
        obtain ⟨G, hG⟩ : ∃ G, G = w.heap.size + 1 := ⟨_, rfl⟩
        have hGT : G ≠ T := by have := HTT.out; omega
        have HLO : Hid (w.heap.size ≤ T ∧ w.heap.size ≤ G) := by have := HTT.out; exact ⟨by omega, by omega⟩
        have HAG : Hid (∀ W, Below T W0 W → W.heap[G]? = some (.cells #[.string ⟨#[]⟩, .bool false] 25)) := by rw [hG]; exact HAN
        have HBU : Hid (∀ X Y W, Below w1.heap.size w1 W → W.cell? ⟨T, 1, none⟩ = some V ∧ (W.cell? ⟨G, 0, none⟩ = some (.string ⟨#[]⟩) ∧ W.cell? ⟨G, 1, none⟩ = some (.bool false) ∧ W.frozen? ⟨G, 0, none⟩ = false ∧ W.frozen? ⟨G, 1, none⟩ = false) ∧ ((W.setCell ⟨G, 0, none⟩ X).setCell ⟨G, 1, none⟩ Y).cell? ⟨T, 1, none⟩ = some V ∧ ((W.setCell ⟨G, 0, none⟩ X).setCell ⟨G, 1, none⟩ Y).cell? ⟨G, 0, none⟩ = some X ∧ ((W.setCell ⟨G, 0, none⟩ X).setCell ⟨G, 1, none⟩ Y).cell? ⟨G, 1, none⟩ = some Y ∧ Hid (ReqsO ((W.setCell ⟨G, 0, none⟩ X).setCell ⟨G, 1, none⟩ Y) w.heap.size V rv ∧ Below w.heap.size w ((W.setCell ⟨G, 0, none⟩ X).setCell ⟨G, 1, none⟩ Y))) := fun X Y W hW => by
          have hS := HS1.out.later hW
          have an := HAG.out W hS.low
          obtain ⟨a1, a2, a3⟩ := ans_put an X Y
          have an1 := heap_set W G 0 _ _ _ X an
          refine ⟨hS.cells.2.1, a1, ?_, a2, a3, ((hS.own.lower HLO.out.1).else an (by decide) (by decide) 0 X).else an1 (by decide) (by decide) 1 Y, ((HB0.out.trans (hS.low.mono HLO.out.1)).setCell HLO.out.2 _).setCell HLO.out.2 _⟩
          have e : ((W.setCell ⟨G, 0, none⟩ X).setCell ⟨G, 1, none⟩ Y).heap[T]? = W.heap[T]? := by
            rw [heap_setCell_other _ _ T _ (fun e => hGT e.symm), heap_setCell_other _ _ T _ (fun e => hGT e.symm)]
          simp [World.cell?, e, hS.tk]
        have hcd1 : w1.cell? ⟨T, 1, none⟩ = some V := h1.cells.2.1
        have hcd : w1.drew.cell? ⟨T, 1, none⟩ = some V := hcd1
        rw [← hG]
        clear h1 h2 hF hG HAN hGT
        by_cases hb : c = true ∨ 1200 < u.size
        · have HP : Hid (FeedP okL lenL (bs wait) false (bs piece) (bs ⟨#[]⟩) true (rv.map (fun x => x.1.text))) := f1 hb
          clear f1 f2
          go_wp2_with fail
          go_region_with (go_at_call 16; refine (stream_bad W0 T u V rv c _ (HS1.out.later ((Below.refl _ _).drew)) hb).mono ?_; rintro e w5 ⟨rfl, b5⟩; obtain ⟨c1, ⟨c2, c3, c4, c5⟩, c6, c7, c8, HQ⟩ := HBU.out (.string ⟨#[]⟩) (.bool true) w5 (((Below.refl _ _).drew).trans b5); clear b5)
          all_goals
            go_wp2_with fail
            refine bodyPost_ret (v := .tuple #[.agg #[.string ⟨#[]⟩, .bool true], V]) (by simp [results, Tryz.results7, go_sem, c7, c8]) rfl ?_
            exact ⟨⟨#[]⟩, true, V, rv, rfl, HQ.out.1, HOK.out, HP.out, HQ.out.2⟩
        · have hcf : c = false := by
            cases c with
            | true => exact absurd (.inl rfl) hb
            | false => rfl
          subst hcf
          have hb2 : ¬ 1200 < u.size := fun x => hb (.inr x)
          have HP : Hid (FeedP okL lenL (bs wait) false (bs piece) (bs u) false (rv.map (fun x => x.1.text))) := f2 rfl hb2
          clear f1 f2 hb
          go_wp2_with fail
          go_region_with (go_at_call 16; refine (stream_good W0 T u V rv _ (HS1.out.later ((Below.refl _ _).drew)) hb2).mono ?_; rintro e w5 ⟨rfl, b5⟩; obtain ⟨c1, ⟨c2, c3, c4, c5⟩, c6, c7, c8, HQ⟩ := HBU.out (.string u) (.bool false) w5 (((Below.refl _ _).drew).trans b5); clear b5)
          all_goals
            go_wp2_with fail
            refine bodyPost_ret (v := .tuple #[.agg #[.string u, .bool false], V]) (by simp [results, Tryz.results7, go_sem, c7, c8]) rfl ?_
            exact ⟨u, false, V, rv, rfl, HQ.out.1, HOK.out, HP.out, HQ.out.2⟩

end Go.Proofs.YtacfajnagbeocaaGreatDoor
