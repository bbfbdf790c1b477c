/- How the program reads a message: pieces up to an end, words that are passed, lines that are fields. No program. -/
import Derived.Test.YtacfajnagbeocaaGreatDoorMsgPlain
import Derived.Lib.CutLaws
import Derived.Lib.Strings
namespace Go.Proofs.YtacfajnagbeocaaGreatDoor
open Go.RowKit

def cutA (s sep : ByteArray) : ByteArray := ⟨(Lib.cut s.data.toList sep.data.toList).1.toArray⟩
def cutB (s sep : ByteArray) : ByteArray := ⟨(Lib.cut s.data.toList sep.data.toList).2.1.toArray⟩
def trimP (s p : ByteArray) : ByteArray := ⟨(Lib.trimPrefix s.data.toList p.data.toList).toArray⟩
def hasP (s p : ByteArray) : Bool := Lib.hasPrefix s.data.toList p.data.toList
theorem bs_cutA (s sep : ByteArray) : bs (cutA s sep) = (Lib.cut (bs s) (bs sep)).1 := by simp [bs, cutA]
theorem bs_cutB (s sep : ByteArray) : bs (cutB s sep) = (Lib.cut (bs s) (bs sep)).2.1 := by simp [bs, cutB]
theorem bs_trimP (s p : ByteArray) : bs (trimP s p) = Lib.trimPrefix (bs s) (bs p) := by simp [bs, trimP]
theorem cutA_size (s sep : ByteArray) : (cutA s sep).size ≤ s.size := by
  rw [← bs_len, ← bs_len, bs_cutA]
  unfold Lib.cut
  split
  · simp; omega
  · exact Nat.le_refl _
theorem cutB_size (s sep : ByteArray) : (cutB s sep).size ≤ s.size := by
  rw [← bs_len, ← bs_len, bs_cutB]
  unfold Lib.cut
  split
  · simp
  · simp
theorem trimP_size (s p : ByteArray) : (trimP s p).size ≤ s.size := by
  rw [← bs_len, ← bs_len, bs_trimP]
  unfold Lib.trimPrefix
  split
  · simp
  · exact Nat.le_refl _
theorem index_at (c : UInt8) (t rest : List UInt8) : ∀ (pre : List UInt8), (∀ b ∈ pre, b ≠ c) → Lib.index (pre ++ ((c :: t) ++ rest)) (c :: t) = (pre.length : Int) := by
  intro pre
  induction pre with
  | nil => intro _; simp [Lib.index]
  | cons b r ih =>
    intro h
    have hb : b ≠ c := h b (by simp)
    have ih := ih (fun x hx => h x (by simp [hx]))
    rw [List.cons_append, Lib.index, if_neg (by simp [List.isPrefixOf]; intro e; exact absurd e.symm hb), ih]
    rw [if_neg (by rw [beq_iff_eq]; omega)]
    simp
theorem cut_of {s sep : ByteArray} {c : UInt8} {t rest pre : List UInt8} (hs : bs s = pre ++ ((c :: t) ++ rest)) (hp : bs sep = c :: t) (h : ∀ b ∈ pre, b ≠ c) : bs (cutA s sep) = pre ∧ bs (cutB s sep) = rest := by
  rw [bs_cutA, bs_cutB, hs, hp]
  unfold Lib.cut
  rw [index_at c t rest pre h, if_pos (by omega)]
  constructor
  · simp
  · simp
theorem trim_of {s p : ByteArray} {rest : List UInt8} (hs : bs s = bs p ++ rest) : bs (trimP s p) = rest := by
  rw [bs_trimP, hs]
  unfold Lib.trimPrefix Lib.hasPrefix
  rw [if_pos (by simp)]
  simp

def nmE : ByteArray := ⟨#[58, 32]⟩
def blE : ByteArray := ⟨#[32]⟩
/-- One line of a head taken: a field more, but for the length's line; nothing where the head is over. -/
def lineStep (x : List (ByteArray × ByteArray) × ByteArray) : List (ByteArray × ByteArray) × ByteArray :=
  if hasP x.2 lnE = true then x else (if cutA x.2 nmE = clen then x.1 else x.1 ++ [(cutA x.2 nmE, cutA (cutB x.2 nmE) lnE)], cutB (cutB x.2 nmE) lnE)
def lineTo (x : List (ByteArray × ByteArray) × ByteArray) : Nat → List (ByteArray × ByteArray) × ByteArray
  | 0 => x
  | k + 1 => lineStep (lineTo x k)
theorem line_stuck (x : List (ByteArray × ByteArray) × ByteArray) (k : Nat) (h : hasP (lineTo x k).2 lnE = true) : ∀ d, lineTo x (k + d) = lineTo x k := by
  intro d
  induction d with
  | zero => rfl
  | succ d ih =>
    rw [show k + (d + 1) = (k + d) + 1 by omega, lineTo, ih]
    unfold lineStep
    rw [if_pos h]
theorem lineTo_size (s : ByteArray) : ∀ k, (lineTo ([], s) k).1.length ≤ k ∧ (lineTo ([], s) k).2.size ≤ s.size ∧ ∀ f ∈ (lineTo ([], s) k).1, f.1.size ≤ s.size ∧ f.2.size ≤ s.size := by
  intro k
  induction k with
  | zero => exact ⟨Nat.le_refl _, Nat.le_refl _, fun f hf => by simp [lineTo] at hf⟩
  | succ k ih =>
    obtain ⟨h1, h2, h3⟩ := ih
    rw [lineTo]
    generalize lineTo ([], s) k = x at *
    have a1 := cutA_size x.2 nmE
    have a2 := cutB_size x.2 nmE
    have a3 := cutA_size (cutB x.2 nmE) lnE
    have a4 := cutB_size (cutB x.2 nmE) lnE
    unfold lineStep
    by_cases hh : hasP x.2 lnE = true
    · rw [if_pos hh]; exact ⟨by omega, h2, h3⟩
    · rw [if_neg hh]
      by_cases hc : cutA x.2 nmE = clen
      · rw [if_pos hc]; exact ⟨Nat.le_succ_of_le h1, Nat.le_trans a4 (Nat.le_trans a2 h2), h3⟩
      · rw [if_neg hc]
        refine ⟨by simp; omega, Nat.le_trans a4 (Nat.le_trans a2 h2), fun f hf => ?_⟩
        simp only [List.mem_append, List.mem_singleton] at hf
        rcases hf with hf | rfl
        · exact h3 f hf
        · exact ⟨Nat.le_trans a1 h2, Nat.le_trans a3 (Nat.le_trans a2 h2)⟩

/-- Fields whose lines can be read: no colon in a name, none begins with a line's end, none in a value. -/
def LineOk (f : ByteArray × ByteArray) : Prop := (∀ b ∈ bs f.1, b ≠ 58) ∧ (∃ c r, bs f.1 = c :: r ∧ c ≠ 13) ∧ ∀ b ∈ bs f.2, b ≠ 13
def keepF (xs : List (ByteArray × ByteArray)) : List (ByteArray × ByteArray) := xs.filter (fun f => decide (f.1 ≠ clen))
theorem lines_of (x : List (ByteArray × ByteArray) × ByteArray) (body : List UInt8) : ∀ (xs : List (ByteArray × ByteArray)), (∀ f ∈ xs, LineOk f) → ∀ k acc left, lineTo x k = (acc, left) → bs left = (xs.map fieldLine).flatMap (fun l => l ++ [13, 10]) ++ 13 :: 10 :: body →
    ∃ left', lineTo x (k + xs.length) = (acc ++ keepF xs, left') ∧ bs left' = 13 :: 10 :: body := by
  intro xs
  induction xs with
  | nil =>
    intro _ k acc left h1 h2
    exact ⟨left, by rw [show k + ([] : List (ByteArray × ByteArray)).length = k from rfl, h1]; simp [keepF], by simpa using h2⟩
  | cons f r ih =>
    intro hx k acc left h1 h2
    obtain ⟨hn, ⟨c, nr, hc, hc13⟩, hv⟩ := hx f (by simp)
    obtain ⟨rest, hrest⟩ : ∃ y, y = (r.map fieldLine).flatMap (fun l => l ++ [13, 10]) ++ 13 :: 10 :: body := ⟨_, rfl⟩
    have e1 : bs left = bs f.1 ++ ((58 :: [32]) ++ (bs f.2 ++ ((13 :: [10]) ++ rest))) := by
      rw [h2, hrest]; simp [fieldLine]
    have k1 := cut_of (sep := nmE) e1 rfl hn
    have k2 := cut_of (sep := lnE) k1.2 rfl hv
    have hno : ¬ hasP left lnE = true := by
      unfold hasP Lib.hasPrefix
      show ¬ List.isPrefixOf (bs lnE) (bs left) = true
      rw [e1, hc]
      intro e
      simp [bs, lnE, List.isPrefixOf] at e
      exact hc13 e.1.symm
    have hstep : lineTo x (k + 1) = (if f.1 = clen then acc else acc ++ [(f.1, f.2)], cutB (cutB left nmE) lnE) := by
      rw [lineTo, h1]
      unfold lineStep
      rw [if_neg hno]
      have n1 : cutA left nmE = f.1 := bs_inj k1.1
      have n2 : cutA (cutB left nmE) lnE = f.2 := bs_inj k2.1
      simp only [n1, n2]
    obtain ⟨left', g1, g2⟩ := ih (fun y hy => hx y (by simp [hy])) (k + 1) _ _ hstep (by rw [k2.2, hrest])
    refine ⟨left', ?_, g2⟩
    rw [List.length_cons, show k + (r.length + 1) = k + 1 + r.length by omega, g1]
    by_cases he : f.1 = clen
    · rw [if_pos he]; simp [keepF, he]
    · rw [if_neg he]; simp [keepF, he]

def restFs (s : ByteArray) : List (ByteArray × ByteArray) := (lineTo ([], s) 9).1
def restBody (s : ByteArray) : ByteArray := trimP (lineTo ([], s) 9).2 lnE
theorem rest_of {s : ByteArray} {xs : List (ByteArray × ByteArray)} {body : List UInt8} (hs : bs s = (xs.map fieldLine).flatMap (fun l => l ++ [13, 10]) ++ 13 :: 10 :: body) (hx : ∀ f ∈ xs, LineOk f) (hl : xs.length ≤ 9) : restFs s = keepF xs ∧ bs (restBody s) = body := by
  obtain ⟨left', g1, g2⟩ := lines_of ([], s) body xs hx 0 [] s rfl hs
  have hst := line_stuck ([], s) (0 + xs.length) (by
    rw [g1]
    unfold hasP Lib.hasPrefix
    show List.isPrefixOf (bs lnE) (bs left') = true
    rw [g2]
    simp [bs, lnE, List.isPrefixOf]) (9 - xs.length)
  rw [show 0 + xs.length + (9 - xs.length) = 9 by omega, g1] at hst
  unfold restFs restBody
  rw [hst]
  exact ⟨by simp, trim_of (by rw [g2]; simp [bs, lnE])⟩
theorem line_tok {f : ByteArray × ByteArray} (h : TokOk f.1 ∧ ValOk f.2 ∧ f.1 ≠ clen) : LineOk f := by
  have hT : ∀ b ∈ bs f.1, TokB (b.toNat : Int) := bs_all h.1.2.2
  refine ⟨fun b hb e => ?_, ?_, fun b hb => ?_⟩
  · have := hT b hb
    subst e
    unfold TokB at this
    simp at this
  · have hl : 1 ≤ (bs f.1).length := by rw [bs_len]; exact h.1.1
    cases hc : bs f.1 with
    | nil => rw [hc] at hl; simp at hl
    | cons c r =>
      refine ⟨c, r, rfl, fun e => ?_⟩
      have := hT c (by rw [hc]; simp)
      subst e
      unfold TokB at this
      simp at this
  · intro e
    have := (line_field h).2 b (by simp [fieldLine, hb])
    exact this e
theorem line_len (n : Nat) (h : n ≤ 1000000) : LineOk (clen, numText n) := by
  refine ⟨show ∀ b ∈ bs clen, b ≠ 58 by decide, ⟨99, [111, 110, 116, 101, 110, 116, 45, 108, 101, 110, 103, 116, 104], rfl, by decide⟩, fun b hb e => ?_⟩
  exact (line_clen n h).2 b (by rw [bs_num] at hb; simp [clenLine, hb]) e
theorem keep_all {fs : List (ByteArray × ByteArray)} (h : ∀ f ∈ fs, TokOk f.1 ∧ ValOk f.2 ∧ f.1 ≠ clen) : keepF fs = fs := by
  unfold keepF
  rw [List.filter_eq_self]
  intro f hf
  simpa using (h f hf).2.2
theorem keep_len {fs : List (ByteArray × ByteArray)} (h : ∀ f ∈ fs, TokOk f.1 ∧ ValOk f.2 ∧ f.1 ≠ clen) (n : Nat) : keepF (fs ++ [(clen, numText n)]) = fs := by
  have := keep_all h
  unfold keepF at this ⊢
  rw [List.filter_append, this]
  simp
/-- What stands behind the first line of a right message is read as it was. -/
theorem rest_read {s : ByteArray} {fs : List (ByteArray × ByteArray)} {b : ByteArray} (hf : FldsOk fs) (hb : b.size ≤ 120) (tell : Bool) (hs : bs s = (fs.map fieldLine ++ (if tell then [clenLine b.size] else [])).flatMap (fun l => l ++ [13, 10]) ++ 13 :: 10 :: bs b) : restFs s = fs ∧ restBody s = b := by
  have hm := flds_mem hf
  have h8 := hf.1
  cases tell
  · have h := rest_of (xs := fs) (s := s) (body := bs b) (by rw [hs]; simp) (fun f hf => line_tok (hm f hf)) (by omega)
    exact ⟨by rw [h.1, keep_all hm], bs_inj h.2⟩
  · have h := rest_of (xs := fs ++ [(clen, numText b.size)]) (s := s) (body := bs b) (by rw [hs]; simp [fieldLine, clenLine, clenL, clen, ← bs_num]; rfl) (fun f hf => by
      simp only [List.mem_append, List.mem_singleton] at hf
      rcases hf with hf | rfl
      · exact line_tok (hm f hf)
      · exact line_len _ (by omega)) (by simp; omega)
    exact ⟨by rw [h.1, keep_len hm], bs_inj h.2⟩

/-- Which method a word names; 0: none. -/
def methOf (a : ByteArray) : Int := if methB 1 = a then 1 else if methB 2 = a then 2 else if methB 3 = a then 3 else if methB 4 = a then 4 else 0
theorem methOf_of {m : Int} (h : 1 ≤ m ∧ m ≤ 4) : methOf (methB m) = m := by
  rcases meth_cases h with rfl | rfl | rfl | rfl <;> decide
def httpLn : ByteArray := ⟨#[72, 84, 84, 80, 47, 49, 46, 49, 13, 10]⟩
def dotLn : ByteArray := ⟨#[46, 13, 10]⟩
/-- What is left of a request's text behind its first line. -/
def reqRest (s : ByteArray) : ByteArray := trimP (cutB (cutB s blE) blE) httpLn
theorem req_read {s : ByteArray} {m : Int} {p : ByteArray} {fs : List (ByteArray × ByteArray)} {b : ByteArray} (h : IsReq s m p fs b) :
    methOf (cutA s blE) = m ∧ cutA (cutB s blE) blE = p ∧ restFs (reqRest s) = fs ∧ restBody (reqRest s) = b := by
  obtain ⟨⟨hm, hp, hf, hb⟩, rfl⟩ := h
  obtain ⟨rest, hrest⟩ : ∃ y, y = (fs.map fieldLine ++ (if body_tell : decide (b.size ≠ 0) = true then [clenLine b.size] else [])).flatMap (fun l => l ++ [13, 10]) ++ 13 :: 10 :: bs b := ⟨_, rfl⟩
  have e0 : bs (reqT m p fs b) = bs (methB m) ++ ((32 :: []) ++ (bs p ++ ((32 :: []) ++ (bs httpLn ++ rest)))) := by
    rw [bs_reqT, hrest]
    by_cases h0 : b.size = 0
    · simp [h0, reqLine, httpL, bs, httpLn]
    · simp [h0, reqLine, httpL, bs, httpLn]
  have k1 := cut_of (sep := blE) e0 rfl (fun x hx => ((meth_bytes hm).2 x hx).2)
  have k2 := cut_of (sep := blE) k1.2 rfl (fun x hx e => by
    have := bs_all hp.1 x hx
    subst e
    unfold PathB at this
    simp at this)
  have k3 := trim_of (p := httpLn) k2.2
  have k4 := rest_read (s := reqRest (reqT m p fs b)) hf hb (decide (b.size ≠ 0)) (by rw [show bs (reqRest (reqT m p fs b)) = rest from k3, hrest]; simp)
  refine ⟨?_, bs_inj k2.1, k4.1, k4.2⟩
  rw [show cutA (reqT m p fs b) blE = methB m from bs_inj k1.1]
  exact methOf_of hm
/-- What is left of an answer's text behind its first line. -/
def respRest (s : ByteArray) : ByteArray := trimP (cutB (trimP s httpAhead) blE) dotLn
def respNum (s : ByteArray) : ByteArray := cutA (trimP s httpAhead) blE
theorem resp_read {s : ByteArray} {st : Int} {fs : List (ByteArray × ByteArray)} {b : ByteArray} (h : IsResp s st fs b) :
    respNum s = numText st.toNat ∧ restFs (respRest s) = fs ∧ restBody (respRest s) = b := by
  obtain ⟨⟨hm, hf, hb⟩, rfl⟩ := h
  obtain ⟨rest, hrest⟩ : ∃ y, y = (fs.map fieldLine ++ [clenLine b.size]).flatMap (fun l => l ++ [13, 10]) ++ 13 :: 10 :: bs b := ⟨_, rfl⟩
  have e0 : bs (respT st fs b) = bs httpAhead ++ (numL st.toNat ++ ((32 :: []) ++ (bs dotLn ++ rest))) := by
    rw [bs_respT, hrest]
    simp [respLine, httpL, bs, httpAhead, dotLn]
  have k0 := trim_of (p := httpAhead) e0
  have k1 := cut_of (sep := blE) k0 rfl (fun x hx e => by
    have := (numL_dig st.toNat (by omega)).2 x hx
    subst e
    unfold DigB at this
    simp at this)
  have k3 := trim_of (p := dotLn) k1.2
  have k4 := rest_read (s := respRest (respT st fs b)) hf hb true (by rw [show bs (respRest (respT st fs b)) = rest from k3, hrest]; simp)
  exact ⟨bs_inj (by rw [bs_num]; exact k1.1), k4.1, k4.2⟩

end Go.Proofs.YtacfajnagbeocaaGreatDoor
