/- What the proof of FnResponses leans on: contracts of the program's and the specification's functions, and plain facts (part 3 of 3). -/
import Derived.Test.YtmmkbgkiglmgeaaGreatDoorFnResponsesB
namespace Go.Proofs.YtmmkbgkiglmgeaaGreatDoor
open Go.RowKit

/-- What stands behind a length and its line's end; what stands behind the part's bytes. -/
def rdA (r : List UInt8) : List UInt8 := r.drop (lenK r + 2)
def rdB (r : List UInt8) : List UInt8 := (rdA r).drop (lenN r)
/-- What is told of a text from a place on; none: not told within so many parts. -/
def rdF : Nat → List UInt8 → List UInt8 → Nat → Option (List UInt8 × Nat × Int)
  | 0, _, _, _ => none
  | f + 1, r, body, pos =>
    if lenC r ≠ 0 then some ([], 0, lenC r)
    else if 120 < body.length + lenN r then some ([], 0, 3)
    else if (rdA r).length < lenN r then some ([], 0, 1)
    else if lineC (rdB r) ≠ 0 then some ([], 0, lineC (rdB r))
    else if lenN r = 0 then some (body, pos + lenK r + 4, 0)
    else rdF f ((rdB r).drop 2) (body ++ (rdA r).take (lenN r)) (pos + lenK r + lenN r + 4)
def Rd (r body : List UInt8) (pos : Nat) (x : List UInt8 × Nat × Int) : Prop := ∃ f, rdF f r body pos = some x
theorem rdF_more : ∀ (f : Nat) (r body : List UInt8) (pos : Nat) (x : List UInt8 × Nat × Int), rdF f r body pos = some x → ∀ d, rdF (f + d) r body pos = some x := by
  intro f
  induction f with
  | zero => intro r body pos x h; simp [rdF] at h
  | succ f ih =>
    intro r body pos x h d
    rw [show f + 1 + d = (f + d) + 1 by omega]
    unfold rdF at h ⊢
    by_cases h1 : lenC r ≠ 0
    · rw [if_pos h1] at h ⊢; exact h
    · rw [if_neg h1] at h ⊢
      by_cases h2 : 120 < body.length + lenN r
      · rw [if_pos h2] at h ⊢; exact h
      · rw [if_neg h2] at h ⊢
        by_cases h3 : (rdA r).length < lenN r
        · rw [if_pos h3] at h ⊢; exact h
        · rw [if_neg h3] at h ⊢
          by_cases h4 : lineC (rdB r) ≠ 0
          · rw [if_pos h4] at h ⊢; exact h
          · rw [if_neg h4] at h ⊢
            by_cases h5 : lenN r = 0
            · rw [if_pos h5] at h ⊢; exact h
            · rw [if_neg h5] at h ⊢
              exact ih _ _ _ _ h d
/-- One thing is told of a text. -/
theorem Rd.uniq {r body : List UInt8} {pos : Nat} {x y : List UInt8 × Nat × Int} (h : Rd r body pos x) (k : Rd r body pos y) : x = y := by
  obtain ⟨f, hf⟩ := h
  obtain ⟨g, hg⟩ := k
  have h1 := rdF_more f r body pos x hf g
  have h2 := rdF_more g r body pos y hg f
  rw [Nat.add_comm] at h2
  rw [h1] at h2
  exact Option.some.inj h2
theorem Rd.len {r body : List UInt8} {pos : Nat} (h : lenC r ≠ 0) : Rd r body pos ([], 0, lenC r) := ⟨1, by unfold rdF; rw [if_pos h]⟩
theorem Rd.long {r body : List UInt8} {pos : Nat} (h1 : lenC r = 0) (h2 : 120 < body.length + lenN r) : Rd r body pos ([], 0, 3) := ⟨1, by unfold rdF; rw [if_neg (by simp [h1]), if_pos h2]⟩
theorem Rd.short {r body : List UInt8} {pos : Nat} (h1 : lenC r = 0) (h2 : ¬ 120 < body.length + lenN r) (h3 : (rdA r).length < lenN r) : Rd r body pos ([], 0, 1) := ⟨1, by unfold rdF; rw [if_neg (by simp [h1]), if_neg h2, if_pos h3]⟩
theorem Rd.line {r body : List UInt8} {pos : Nat} (h1 : lenC r = 0) (h2 : ¬ 120 < body.length + lenN r) (h3 : ¬ (rdA r).length < lenN r) (h4 : lineC (rdB r) ≠ 0) : Rd r body pos ([], 0, lineC (rdB r)) := ⟨1, by unfold rdF; rw [if_neg (by simp [h1]), if_neg h2, if_neg h3, if_pos h4]⟩
theorem Rd.fin {r body : List UInt8} {pos : Nat} (h1 : lenC r = 0) (h2 : ¬ 120 < body.length + lenN r) (h3 : ¬ (rdA r).length < lenN r) (h4 : lineC (rdB r) = 0) (h5 : lenN r = 0) : Rd r body pos (body, pos + lenK r + 4, 0) := ⟨1, by unfold rdF; rw [if_neg (by simp [h1]), if_neg h2, if_neg h3, if_neg (by simp [h4]), if_pos h5]⟩
theorem Rd.part {r body : List UInt8} {pos : Nat} {x : List UInt8 × Nat × Int} (h1 : lenC r = 0) (h2 : ¬ 120 < body.length + lenN r) (h3 : ¬ (rdA r).length < lenN r) (h4 : lineC (rdB r) = 0) (h5 : lenN r ≠ 0) (h : Rd ((rdB r).drop 2) (body ++ (rdA r).take (lenN r)) (pos + lenK r + lenN r + 4) x) : Rd r body pos x := by
  obtain ⟨f, hf⟩ := h
  exact ⟨f + 1, by unfold rdF; rw [if_neg (by simp [h1]), if_neg h2, if_neg h3, if_neg (by simp [h4]), if_neg h5]; exact hf⟩

theorem rdA_len {r : List UInt8} (h : lenC r = 0) : lenK r + 2 ≤ r.length := by
  obtain ⟨_, _, _, t, ht⟩ := lenC_zero h
  have := congrArg List.length ht
  simp at this
  omega
/-- What is told of a text, but that there must be more, is told of it with whatever behind it. -/
theorem rdF_behind (t : List UInt8) : ∀ (f : Nat) (r body : List UInt8) (pos : Nat) (x : List UInt8 × Nat × Int), rdF f r body pos = some x → x.2.2 ≠ 1 → rdF f (r ++ t) body pos = some x := by
  intro f
  induction f with
  | zero => intro r body pos x h; simp [rdF] at h
  | succ f ih =>
    intro r body pos x h hx
    unfold rdF at h ⊢
    by_cases h1 : lenC r ≠ 0
    · rw [if_pos h1] at h
      have e := Option.some.inj h
      subst e
      have hx : lenC r ≠ 1 := hx
      rw [lenC_mono t hx, if_pos h1]
    · have h0 : lenC r = 0 := by simpa using h1
      obtain ⟨k1, k2, k3⟩ := lenK_mono t h0
      have hl := rdA_len h0
      have eA : rdA (r ++ t) = rdA r ++ t := by unfold rdA; rw [k1, List.drop_append_of_le_length hl]
      rw [if_neg h1] at h
      rw [if_neg (by simp [k3]), k1, k2, eA]
      by_cases h2 : 120 < body.length + lenN r
      · rw [if_pos h2] at h ⊢; exact h
      · rw [if_neg h2] at h ⊢
        by_cases h3 : (rdA r).length < lenN r
        · rw [if_pos h3] at h
          have e := Option.some.inj h
          subst e
          exact absurd rfl hx
        · rw [if_neg h3] at h
          have eB : rdB (r ++ t) = rdB r ++ t := by unfold rdB; rw [eA, k2, List.drop_append_of_le_length (by omega)]
          rw [if_neg (by simp; omega), eB]
          by_cases h4 : lineC (rdB r) ≠ 0
          · rw [if_pos h4] at h
            have e := Option.some.inj h
            subst e
            have hx : lineC (rdB r) ≠ 1 := hx
            rw [lineC_mono hx, if_pos h4]
          · have h40 : lineC (rdB r) = 0 := by simpa using h4
            have hne : lineC (rdB r) ≠ 1 := by rw [h40]; simp
            obtain ⟨u, hu⟩ := lineC_zero h40
            rw [if_neg h4] at h
            rw [lineC_mono hne, if_neg h4]
            by_cases h5 : lenN r = 0
            · rw [if_pos h5] at h ⊢; exact h
            · rw [if_neg h5] at h ⊢
              rw [List.drop_append_of_le_length (by rw [hu]; simp), List.take_append_of_le_length (by omega)]
              exact ih _ _ _ _ h hx
theorem Rd.behind {r body : List UInt8} {pos : Nat} {x : List UInt8 × Nat × Int} (h : Rd r body pos x) (hx : x.2.2 ≠ 1) (t : List UInt8) : Rd (r ++ t) body pos x := by
  obtain ⟨f, hf⟩ := h
  exact ⟨f, rdF_behind t f r body pos x hf hx⟩
/-- A body in parts. -/
def chunkL : List (List UInt8) → List UInt8
  | [] => [48, 13, 10, 13, 10]
  | p :: ps => hexL p.length ++ (13 :: 10 :: (p ++ (13 :: 10 :: chunkL ps)))
theorem part_head (p rest : List UInt8) (h : p.length < 65536) : lenC (hexL p.length ++ (13 :: 10 :: (p ++ rest))) = 0 ∧ lenK (hexL p.length ++ (13 :: 10 :: (p ++ rest))) = (hexL p.length).length ∧ lenN (hexL p.length ++ (13 :: 10 :: (p ++ rest))) = p.length ∧ rdA (hexL p.length ++ (13 :: 10 :: (p ++ rest))) = p ++ rest ∧ rdB (hexL p.length ++ (13 :: 10 :: (p ++ rest))) = rest := by
  obtain ⟨h1, h2, h3⟩ := len_head p.length h (13 :: 10 :: (p ++ rest)) (fun c r e => by simp at e; exact e.1.symm)
  have hA : rdA (hexL p.length ++ (13 :: 10 :: (p ++ rest))) = p ++ rest := by
    unfold rdA
    rw [h1, List.drop_append]
    simp
  refine ⟨by rw [h3]; simp [lineC], h1, h2, hA, ?_⟩
  unfold rdB
  rw [hA, h2, List.drop_left]
theorem end_head (rest : List UInt8) : lenC (48 :: 13 :: 10 :: rest) = 0 ∧ lenK (48 :: 13 :: 10 :: rest) = 1 ∧ lenN (48 :: 13 :: 10 :: rest) = 0 ∧ rdA (48 :: 13 :: 10 :: rest) = rest ∧ rdB (48 :: 13 :: 10 :: rest) = rest := by
  have := part_head [] rest (by simp)
  simpa [hexL] using this
/-- Cut short, a text of parts is not whole. -/
theorem Rd.cut : ∀ (ps : List (List UInt8)) (body : List UInt8) (pos k : Nat), (∀ p ∈ ps, p ≠ []) → body.length + ps.flatten.length ≤ 120 → k < (chunkL ps).length → Rd ((chunkL ps).take k) body pos ([], 0, 1) := by
  intro ps
  induction ps with
  | nil =>
    intro body pos k _ hb hk
    have hk5 : k < 5 := by simpa [chunkL] using hk
    have hb : body.length ≤ 120 := by simpa using hb
    rcases (show k = 0 ∨ k = 1 ∨ k = 2 ∨ k = 3 ∨ k = 4 by omega) with rfl | rfl | rfl | rfl | rfl
    · exact Rd.len (r := []) (by decide)
    · exact Rd.len (r := [48]) (by decide)
    · exact Rd.len (r := [48, 13]) (by decide)
    · obtain ⟨h1, h2, h3, h4, h5⟩ := end_head []
      have := Rd.line (body := body) (pos := pos) h1 (by rw [h3]; simpa using hb) (by rw [h3]; simp) (by rw [h5]; simp [lineC])
      rw [h5] at this
      exact this
    · obtain ⟨h1, h2, h3, h4, h5⟩ := end_head [13]
      have := Rd.line (body := body) (pos := pos) h1 (by rw [h3]; simpa using hb) (by rw [h3]; simp) (by rw [h5]; simp [lineC])
      rw [h5] at this
      exact this
  | cons p ps ih =>
    intro body pos k hp hb hk
    have hpl : 1 ≤ p.length := by
      have := hp p (by simp)
      cases p with
      | nil => exact absurd rfl this
      | cons c r => simp
    simp only [List.flatten_cons, List.length_append] at hb
    obtain ⟨g1, g2, g3, g4, g5⟩ := hex_head p.length (by omega)
    have hlen : (chunkL (p :: ps)).length = (hexL p.length).length + (p.length + (chunkL ps).length + 4) := by simp [chunkL]; omega
    by_cases c1 : k ≤ (hexL p.length).length
    · -- within the length, or at its end
      have e : (chunkL (p :: ps)).take k = (hexL p.length).take k := by
        simp only [chunkL]
        rw [List.take_append_of_le_length c1]
      rw [e]
      have hl : ((hexL p.length).take k).length = k := by rw [List.length_take]; omega
      have hK : lenK ((hexL p.length).take k) = k := by
        have := digN_pre ((hexL p.length).take k) [] 5 (by omega) (fun b hb => g3 b (List.mem_of_mem_take hb)) (.inr (fun c r e => by simp at e))
        rw [List.append_nil, hl] at this
        exact this
      have hC : lenC ((hexL p.length).take k) = 1 := by
        unfold lenC
        rw [if_neg]
        · by_cases k0 : k = 0
          · rw [if_pos (by rw [hK]; exact k0)]
          · rw [if_neg (by rw [hK]; exact k0), hK, List.drop_of_length_le (by omega)]; rfl
        · rintro (h | ⟨h, e⟩ | ⟨h, e⟩)
          · rw [hK] at h; omega
          · rw [hK] at h
            rw [List.head?_take, if_neg (by omega)] at e
            exact g5 (by omega) 48 e rfl
          · rw [hK] at h
            subst h
            simp at e
      have := Rd.len (r := (hexL p.length).take k) (body := body) (pos := pos) (by rw [hC]; simp)
      rw [hC] at this
      exact this
    · obtain ⟨j, rfl⟩ : ∃ j, k = (hexL p.length).length + 1 + j := ⟨k - (hexL p.length).length - 1, by omega⟩
      have e : (chunkL (p :: ps)).take ((hexL p.length).length + 1 + j) = hexL p.length ++ (13 :: (10 :: (p ++ (13 :: 10 :: chunkL ps))).take j) := by
        simp only [chunkL]
        rw [show (hexL p.length).length + 1 + j = (hexL p.length).length + (1 + j) by omega, List.take_length_add_append, Nat.add_comm 1 j, List.take_succ_cons]
      rw [e]
      cases j with
      | zero =>
        obtain ⟨h1, h2, h3⟩ := len_head p.length (by omega) [13] (fun c r e => by simp at e; exact e.1.symm)
        have := Rd.len (r := hexL p.length ++ [13]) (body := body) (pos := pos) (by rw [h3]; simp [lineC])
        rw [h3] at this
        simpa [lineC] using this
      | succ j =>
        rw [List.take_succ_cons]
        by_cases c2 : j < p.length
        · have e2 : (p ++ (13 :: 10 :: chunkL ps)).take j = p.take j := List.take_append_of_le_length (by omega)
          rw [e2]
          obtain ⟨h1, h2, h3⟩ := len_head p.length (by omega) (13 :: 10 :: p.take j) (fun c r e => by simp at e; exact e.1.symm)
          have hC : lenC (hexL p.length ++ (13 :: 10 :: p.take j)) = 0 := by rw [h3]; simp [lineC]
          refine Rd.short hC (by rw [h2]; omega) ?_
          unfold rdA
          rw [h1, h2, List.drop_append]
          simp
          omega
        · obtain ⟨i, rfl⟩ : ∃ i, j = p.length + i := ⟨j - p.length, by omega⟩
          have e2 : (p ++ (13 :: 10 :: chunkL ps)).take (p.length + i) = p ++ (13 :: 10 :: chunkL ps).take i := List.take_length_add_append _
          rw [e2]
          obtain ⟨h1, h2, h3, h4, h5⟩ := part_head p ((13 :: 10 :: chunkL ps).take i) (by omega)
          match i with
          | 0 =>
            have := Rd.line (body := body) (pos := pos) h1 (by rw [h3]; omega) (by rw [h3, h4]; simp) (by rw [h5]; simp [lineC])
            rw [h5] at this
            exact this
          | 1 =>
            have := Rd.line (body := body) (pos := pos) h1 (by rw [h3]; omega) (by rw [h3, h4]; simp) (by rw [h5]; simp [lineC])
            rw [h5] at this
            exact this
          | i + 2 =>
            refine Rd.part h1 (by rw [h3]; omega) (by rw [h3, h4]; simp) (by rw [h5]; simp [lineC]) (by rw [h3]; omega) ?_
            rw [h2, h3, h4, h5, List.take_left]
            have k := ih (body ++ p) (pos + (hexL p.length).length + p.length + 4) i (fun x hx => hp x (by simp [hx])) (by rw [List.length_append]; omega) (by omega)
            simpa using k

end Go.Proofs.YtmmkbgkiglmgeaaGreatDoor

namespace Go.Proofs.YtmmkbgkiglmgeaaGreatDoor
open Go.RowKit
open Go.Lib hiding intOf

/-- A list of ints that a function reads. -/
def IntsV (w : World) (oa : Option Addr) (n : Nat) (zs : List Int) : Prop := zs.length = n ∧ ∀ i, i < n → ∃ g, oa = some ⟨g, 0, none⟩ ∧ g < w.heap.size ∧ w.cell? ⟨g, i, none⟩ = some (.int .i64 (zs.getD i 0))
theorem IntsV.below {w w' : World} {oa : Option Addr} {n : Nat} {zs : List Int} (h : IntsV w oa n zs) (hb : Below w.heap.size w w') : IntsV w' oa n zs :=
  ⟨h.1, fun i hi => by
    obtain ⟨g, e, hg, hc⟩ := h.2 i hi
    exact ⟨g, e, Nat.lt_of_lt_of_le hg hb.size, by rw [hb.cell (p := ⟨g, i, none⟩) hg]; exact hc⟩⟩

end Go.Proofs.YtmmkbgkiglmgeaaGreatDoor

namespace Go.Proofs.YtmmkbgkiglmgeaaGreatDoor
open Go.RowKit

/-- How many bytes a head has; none: it is not whole. -/
def headN : List UInt8 → Option Nat
  | [] => none
  | c :: t => if (c :: t).take 4 = [13, 10, 13, 10] then some 4 else (headN t).map (· + 1)

theorem headN_len : ∀ {w : List UInt8} {n : Nat}, headN w = some n → 4 ≤ n ∧ n ≤ w.length := by
  intro w
  induction w with
  | nil => intro n h; simp [headN] at h
  | cons c t ih =>
    intro n h
    unfold headN at h
    by_cases h4 : (c :: t).take 4 = [13, 10, 13, 10]
    · rw [if_pos h4] at h
      obtain rfl := Option.some.inj h
      have := congrArg List.length h4
      simp [List.length_take] at this
      refine ⟨Nat.le_refl _, ?_⟩
      simp
      omega
    · rw [if_neg h4] at h
      obtain ⟨m, hm, rfl⟩ := Option.map_eq_some_iff.1 h
      have := ih hm
      simp
      omega

/-- A whole head stays the head, whatever is behind it. -/
theorem headN_app (x : List UInt8) : ∀ {w : List UInt8} {n : Nat}, headN w = some n → headN (w ++ x) = some n := by
  intro w
  induction w with
  | nil => intro n h; simp [headN] at h
  | cons c t ih =>
    intro n h
    have hl := headN_len h
    have ht : ((c :: t) ++ x).take 4 = (c :: t).take 4 := List.take_append_of_le_length (by omega)
    unfold headN at h
    show headN (c :: (t ++ x)) = some n
    unfold headN
    have ht' : (c :: (t ++ x)).take 4 = (c :: t).take 4 := ht
    rw [ht']
    by_cases h4 : (c :: t).take 4 = [13, 10, 13, 10]
    · rw [if_pos h4] at h ⊢; exact h
    · rw [if_neg h4] at h ⊢
      obtain ⟨m, hm, rfl⟩ := Option.map_eq_some_iff.1 h
      rw [ih hm]; rfl

/-- What waits behind it, whether it is bad, and what was told; none: not told within so many requests. -/
def fdF (ok : List UInt8 → Bool) (len : List UInt8 → Nat) : Nat → List UInt8 → Option (List UInt8 × Bool × List (List UInt8))
  | 0, _ => none
  | f + 1, w =>
    match headN w with
    | none => some (w, false, [])
    | some n =>
      if 120 < len (w.take n) then some ([], true, [])
      else if w.length < n + len (w.take n) then some (w, false, [])
      else if ok (w.take (n + len (w.take n))) = true then (fdF ok len f (w.drop (n + len (w.take n)))).map (fun x => (x.1, x.2.1, w.take (n + len (w.take n)) :: x.2.2))
      else some ([], true, [])

variable {ok : List UInt8 → Bool} {len : List UInt8 → Nat}

theorem fdF_more : ∀ (f : Nat) (w : List UInt8) (x : List UInt8 × Bool × List (List UInt8)), fdF ok len f w = some x → ∀ d, fdF ok len (f + d) w = some x := by
  intro f
  induction f with
  | zero => intro w x h; simp [fdF] at h
  | succ f ih =>
    intro w x h d
    rw [show f + 1 + d = (f + d) + 1 by omega]
    unfold fdF at h ⊢
    cases hn : headN w with
    | none => rw [hn] at h; exact h
    | some n =>
      rw [hn] at h
      simp only at h ⊢
      by_cases h1 : 120 < len (w.take n)
      · rw [if_pos h1] at h ⊢; exact h
      · rw [if_neg h1] at h ⊢
        by_cases h2 : w.length < n + len (w.take n)
        · rw [if_pos h2] at h ⊢; exact h
        · rw [if_neg h2] at h ⊢
          by_cases h3 : ok (w.take (n + len (w.take n))) = true
          · rw [if_pos h3] at h ⊢
            obtain ⟨y, hy, rfl⟩ := Option.map_eq_some_iff.1 h
            rw [ih _ _ hy d]; rfl
          · rw [if_neg h3] at h ⊢; exact h

/-- Bad stays bad, and what was told ahead of it stays told, whatever comes behind it. -/
theorem fdF_bad (x : List UInt8) : ∀ (f : Nat) (w u : List UInt8) (t : List (List UInt8)), fdF ok len f w = some (u, true, t) → u = [] ∧ fdF ok len f (w ++ x) = some ([], true, t) := by
  intro f
  induction f with
  | zero => intro w u t h; simp [fdF] at h
  | succ f ih =>
    intro w u t h
    unfold fdF at h ⊢
    cases hn : headN w with
    | none => rw [hn] at h; simp at h
    | some n =>
      have hl := headN_len hn
      rw [hn] at h
      rw [headN_app x hn]
      simp only at h ⊢
      rw [List.take_append_of_le_length hl.2]
      by_cases h1 : 120 < len (w.take n)
      · rw [if_pos h1] at h ⊢
        simp at h
        obtain ⟨rfl, rfl⟩ := h
        exact ⟨rfl, rfl⟩
      · rw [if_neg h1] at h ⊢
        by_cases h2 : w.length < n + len (w.take n)
        · rw [if_pos h2] at h; simp at h
        · rw [if_neg h2] at h
          rw [if_neg (by rw [List.length_append]; omega), List.take_append_of_le_length (by omega), List.drop_append_of_le_length (by omega)]
          by_cases h3 : ok (w.take (n + len (w.take n))) = true
          · rw [if_pos h3] at h ⊢
            obtain ⟨⟨y1, y2, y3⟩, hy, he⟩ := Option.map_eq_some_iff.1 h
            simp at he
            obtain ⟨rfl, rfl, rfl⟩ := he
            obtain ⟨e1, e2⟩ := ih _ _ _ hy
            rw [e2]
            exact ⟨e1, rfl⟩
          · rw [if_neg h3] at h ⊢
            simp at h
            obtain ⟨rfl, rfl⟩ := h
            exact ⟨rfl, rfl⟩

/-- What waits, with more behind it, goes on as the whole would have. -/
theorem fdF_on (x : List UInt8) (g : Nat) (u2 : List UInt8) (b2 : Bool) (t2 : List (List UInt8)) : ∀ (f : Nat) (w u : List UInt8) (t : List (List UInt8)), fdF ok len f w = some (u, false, t) → fdF ok len g (u ++ x) = some (u2, b2, t2) → fdF ok len (f + g) (w ++ x) = some (u2, b2, t ++ t2) := by
  intro f
  induction f with
  | zero => intro w u t h; simp [fdF] at h
  | succ f ih =>
    intro w u t h k
    have hstay : u = w → t = [] → fdF ok len (f + 1 + g) (w ++ x) = some (u2, b2, t ++ t2) := by
      rintro rfl rfl
      rw [Nat.add_comm]
      exact fdF_more _ _ _ k _
    unfold fdF at h
    cases hn : headN w with
    | none =>
      rw [hn] at h
      simp at h
      exact hstay h.1.symm h.2
    | some n =>
      have hl := headN_len hn
      rw [hn] at h
      simp only at h
      by_cases h1 : 120 < len (w.take n)
      · rw [if_pos h1] at h; simp at h
      · rw [if_neg h1] at h
        by_cases h2 : w.length < n + len (w.take n)
        · rw [if_pos h2] at h
          simp at h
          exact hstay h.1.symm h.2
        · rw [if_neg h2] at h
          by_cases h3 : ok (w.take (n + len (w.take n))) = true
          · rw [if_pos h3] at h
            obtain ⟨⟨y1, y2, y3⟩, hy, he⟩ := Option.map_eq_some_iff.1 h
            simp at he
            obtain ⟨rfl, rfl, rfl⟩ := he
            rw [show f + 1 + g = (f + g) + 1 by omega]
            unfold fdF
            rw [headN_app x hn]
            simp only
            rw [List.take_append_of_le_length hl.2, if_neg h1, if_neg (by rw [List.length_append]; omega), List.take_append_of_le_length (by omega), List.drop_append_of_le_length (by omega), if_pos h3, ih _ _ _ hy k]
            rfl
          · rw [if_neg h3] at h; simp at h

/-- What waits is no longer than the text; what was told is right, and no longer together. -/
theorem fdF_bound : ∀ (f : Nat) (w u : List UInt8) (b : Bool) (t : List (List UInt8)), fdF ok len f w = some (u, b, t) → u.length + t.flatten.length ≤ w.length ∧ (∀ y ∈ t, ok y = true) ∧ 4 * t.length ≤ w.length := by
  intro f
  induction f with
  | zero => intro w u b t h; simp [fdF] at h
  | succ f ih =>
    intro w u b t h
    unfold fdF at h
    cases hn : headN w with
    | none =>
      rw [hn] at h
      simp at h
      obtain ⟨rfl, rfl, rfl⟩ := h
      simp
    | some n =>
      have hl := headN_len hn
      rw [hn] at h
      simp only at h
      by_cases h1 : 120 < len (w.take n)
      · rw [if_pos h1] at h
        simp at h
        obtain ⟨rfl, rfl, rfl⟩ := h
        simp
      · rw [if_neg h1] at h
        by_cases h2 : w.length < n + len (w.take n)
        · rw [if_pos h2] at h
          simp at h
          obtain ⟨rfl, rfl, rfl⟩ := h
          simp
        · rw [if_neg h2] at h
          by_cases h3 : ok (w.take (n + len (w.take n))) = true
          · rw [if_pos h3] at h
            obtain ⟨⟨y1, y2, y3⟩, hy, he⟩ := Option.map_eq_some_iff.1 h
            simp at he
            obtain ⟨rfl, rfl, rfl⟩ := he
            obtain ⟨e1, e2, e3⟩ := ih _ _ _ _ hy
            rw [List.length_drop] at e1 e3
            refine ⟨?_, ?_, ?_⟩
            · rw [List.flatten_cons, List.length_append, List.length_take]
              omega
            · intro y hy'
              rcases List.mem_cons.1 hy' with rfl | hy'
              · exact h3
              · exact e2 y hy'
            · rw [List.length_cons]; omega
          · rw [if_neg h3] at h
            simp at h
            obtain ⟨rfl, rfl, rfl⟩ := h
            simp

/-- What is told of a text: one thing. -/
def Fd (ok : List UInt8 → Bool) (len : List UInt8 → Nat) (w : List UInt8) (x : List UInt8 × Bool × List (List UInt8)) : Prop := ∃ f, fdF ok len f w = some x
theorem Fd.uniq {w : List UInt8} {x y : List UInt8 × Bool × List (List UInt8)} (h : Fd ok len w x) (k : Fd ok len w y) : x = y := by
  obtain ⟨f, hf⟩ := h
  obtain ⟨g, hg⟩ := k
  have h1 := fdF_more f w x hf g
  have h2 := fdF_more g w y hg f
  rw [Nat.add_comm] at h2
  rw [h1] at h2
  exact Option.some.inj h2
theorem Fd.none {w : List UInt8} (h : headN w = .none) : Fd ok len w (w, false, []) := ⟨1, by unfold fdF; rw [h]⟩
theorem Fd.long {w : List UInt8} {n : Nat} (h : headN w = some n) (h1 : 120 < len (w.take n)) : Fd ok len w ([], true, []) := ⟨1, by unfold fdF; rw [h]; simp only; rw [if_pos h1]⟩
theorem Fd.short {w : List UInt8} {n : Nat} (h : headN w = some n) (h1 : ¬ 120 < len (w.take n)) (h2 : w.length < n + len (w.take n)) : Fd ok len w (w, false, []) := ⟨1, by unfold fdF; rw [h]; simp only; rw [if_neg h1, if_pos h2]⟩
/-- Feed: what waits and whether it is bad, ahead and behind, and what was told. -/
def FeedP (ok : List UInt8 → Bool) (len : List UInt8 → Nat) (w : List UInt8) (b : Bool) (p : List UInt8) (w' : List UInt8) (b' : Bool) (t : List (List UInt8)) : Prop :=
  (b = true ∧ w' = [] ∧ b' = true ∧ t = []) ∨
  (b = false ∧ ∃ u c, Fd ok len (w ++ p) (u, c, t) ∧ (((c = true ∨ 1200 < u.length) ∧ w' = [] ∧ b' = true) ∨ (c = false ∧ ¬ 1200 < u.length ∧ w' = u ∧ b' = false)))
theorem FeedP.uniq {w p w1 w2 : List UInt8} {b b1 b2 : Bool} {t1 t2 : List (List UInt8)} (h : FeedP ok len w b p w1 b1 t1) (k : FeedP ok len w b p w2 b2 t2) : w1 = w2 ∧ b1 = b2 ∧ t1 = t2 := by
  rcases h with ⟨hb, rfl, rfl, rfl⟩ | ⟨hb, u, c, hf, hh⟩
  · rcases k with ⟨_, rfl, rfl, rfl⟩ | ⟨kb, _⟩
    · exact ⟨rfl, rfl, rfl⟩
    · rw [hb] at kb; cases kb
  · rcases k with ⟨kb, _⟩ | ⟨_, u2, c2, kf, kk⟩
    · rw [hb] at kb; cases kb
    · have e := hf.uniq kf
      simp at e
      obtain ⟨rfl, rfl, rfl⟩ := e
      rcases hh with ⟨ho, rfl, rfl⟩ | ⟨hc, hl, rfl, rfl⟩
      · rcases kk with ⟨_, rfl, rfl⟩ | ⟨kc, kl, _, _⟩
        · exact ⟨rfl, rfl, rfl⟩
        · rcases ho with ho | ho
          · rw [kc] at ho; cases ho
          · exact absurd ho kl
      · rcases kk with ⟨ko, _, _⟩ | ⟨_, _, rfl, rfl⟩
        · rcases ko with ko | ko
          · rw [hc] at ko; cases ko
          · exact absurd ko hl
        · exact ⟨rfl, rfl, rfl⟩
/-- Feed of each piece, one behind the other, and all that was told. -/
def FeedAllP (ok : List UInt8 → Bool) (len : List UInt8 → Nat) : List (List UInt8) → List UInt8 → Bool → List UInt8 → Bool → List (List UInt8) → Prop
  | [], w, b, w', b', t => w' = w ∧ b' = b ∧ t = []
  | p :: ps, w, b, w', b', t => ∃ w1 b1 t1 t2, FeedP ok len w b p w1 b1 t1 ∧ FeedAllP ok len ps w1 b1 w' b' t2 ∧ t = t1 ++ t2

/-- Promise 5 in plain words: in whatever pieces it comes, the same is told, and the same waits. -/
theorem FeedAllP.pieces : ∀ (ps : List (List UInt8)) (w : List UInt8) (b : Bool) (w' : List UInt8) (b' : Bool) (t : List (List UInt8)), ps ≠ [] → w.length + ps.flatten.length ≤ 1200 → FeedAllP ok len ps w b w' b' t → FeedP ok len w b ps.flatten w' b' t := by
  intro ps
  induction ps with
  | nil => intro w b w' b' t h; exact absurd rfl h
  | cons p ps ih =>
    intro w b w' b' t _ hl h
    obtain ⟨w1, b1, t1, t2, hf, ha, rfl⟩ := h
    rw [List.flatten_cons, List.length_append] at hl
    rw [List.flatten_cons]
    cases ps with
    | nil =>
      obtain ⟨rfl, rfl, rfl⟩ := ha
      simpa using hf
    | cons q qs =>
      rcases hf with ⟨hb, rfl, rfl, rfl⟩ | ⟨hb, u, c, hfd, hh⟩
      · rcases ih _ _ _ _ _ (by simp) (by simp only [List.length_nil]; omega) ha with ⟨_, rfl, rfl, rfl⟩ | ⟨kb, _⟩
        · exact .inl ⟨hb, rfl, rfl, rfl⟩
        · cases kb
      · obtain ⟨f, hfd⟩ := hfd
        have hbd := (fdF_bound f _ _ _ _ hfd).1
        rw [List.length_append] at hbd
        cases c with
        | true =>
          rcases hh with ⟨_, rfl, rfl⟩ | ⟨hc, _⟩
          · rcases ih _ _ _ _ _ (by simp) (by simp only [List.length_nil]; omega) ha with ⟨_, rfl, rfl, rfl⟩ | ⟨kb, _⟩
            · refine .inr ⟨hb, [], true, ⟨f, ?_⟩, .inl ⟨.inl rfl, rfl, rfl⟩⟩
              rw [← List.append_assoc, List.append_nil]
              exact (fdF_bad _ f _ _ _ hfd).2
            · cases kb
          · cases hc
        | false =>
          rcases hh with ⟨ho, _, _⟩ | ⟨_, _, rfl, rfl⟩
          · rcases ho with ho | ho
            · cases ho
            · exfalso; omega
          · rcases ih _ _ _ _ _ (by simp) (by omega) ha with ⟨kb, _⟩ | ⟨_, u2, c2, ⟨g, hg⟩, kk⟩
            · cases kb
            · refine .inr ⟨hb, u2, c2, ⟨f + g, ?_⟩, kk⟩
              rw [← List.append_assoc]
              exact fdF_on _ g _ _ _ f _ _ _ hfd hg

/-- A text cut into pieces of these sizes, and the rest as the last one, if it is not empty. -/
def pcs : List Int → List UInt8 → List (List UInt8)
  | [], s => if s = [] then [] else [s]
  | z :: zs, s => s.take z.toNat :: pcs zs (s.drop z.toNat)
theorem pcs_flat : ∀ (zs : List Int) (s : List UInt8), (pcs zs s).flatten = s := by
  intro zs
  induction zs with
  | nil =>
    intro s
    unfold pcs
    by_cases h : s = []
    · rw [if_pos h, h]; rfl
    · rw [if_neg h]; simp
  | cons z zs ih =>
    intro s
    unfold pcs
    rw [List.flatten_cons, ih, List.take_append_drop]
/-- The law's last piece is empty, so that there is one: the same is told of the pieces and of the whole. -/
theorem FeedAllP.cut {zs : List Int} {s w w' : List UInt8} {b b' : Bool} {t : List (List UInt8)} (hl : w.length + s.length ≤ 1200) (h : FeedAllP ok len (pcs zs s ++ [[]]) w b w' b' t) : FeedP ok len w b s w' b' t := by
  have hf : (pcs zs s ++ [[]]).flatten = s := by rw [List.flatten_append, pcs_flat]; simp
  have := FeedAllP.pieces (pcs zs s ++ [[]]) w b w' b' t (by simp) (by rw [hf]; exact hl) h
  rw [hf] at this
  exact this
end Go.Proofs.YtmmkbgkiglmgeaaGreatDoor

namespace Go.Proofs.YtmmkbgkiglmgeaaGreatDoor
open Go.RowKit
open Go.Lib hiding intOf

/-- A request, as it is told. -/
structure RqD where
  m : Int
  p : ByteArray
  fs : List (ByteArray × ByteArray)
  b : ByteArray
/-- Its text. -/
def RqD.text (r : RqD) : List UInt8 := bs (reqT r.m r.p r.fs r.b)
def RqD.ok (r : RqD) : Prop := ReqP r.m r.p r.fs r.b
theorem own_ltR {w : World} {base : Nat} {t : TypeId} {size : Nat} {v : Value} {n : Nat} {xs : List Value} {j : Nat} (h : w.ownsRow base t size v n xs) (hj : v.ownBlock = some j) : base ≤ j ∧ j < w.heap.size := by
  rcases h.2 with ⟨rfl, _⟩ | ⟨g, cap, cur, rfl, h0, h1, _⟩
  · cases hj
  · cases hj
    exact ⟨h0, (Array.getElem?_eq_some_iff.1 h1).1⟩
end Go.Proofs.YtmmkbgkiglmgeaaGreatDoor

namespace Go.Proofs.YtmmkbgkiglmgeaaGreatDoor
open Go.RowKit
open Go.Lib hiding intOf

/-- The cells of it. -/
def CcD.cs (c : CcD) : Array Value := #[.bool c.ns, .bool c.nc, .bool c.pr, .bool c.mu, .bool c.ha, .int .i64 c.age]
end Go.Proofs.YtmmkbgkiglmgeaaGreatDoor

namespace Go.Proofs.YtmmkbgkiglmgeaaGreatDoor
open Go.RowKit
open Go.Lib hiding intOf

theorem putL_len (fs : List (ByteArray × ByteArray)) (name value : ByteArray) : (putF fs name value).length ≤ fs.length + 1 := by
  unfold putF
  split
  · rw [List.length_set]; omega
  · rw [List.length_append]; simp
theorem putL_short {fs : List (ByteArray × ByteArray)} (h : ShortF fs) {name value : ByteArray} (h1 : name.size ≤ 64) (h2 : value.size ≤ 64) : ShortF (putF fs name value) := by
  by_cases hin : atF fs name < fs.length
  · unfold putF
    rw [if_pos hin]
    intro f hf
    rcases List.mem_or_eq_of_mem_set hf with hf | hf
    · exact h f hf
    · subst hf
      refine ⟨?_, h2⟩
      first
        | exact h1
        | (unfold nameAt
           rw [List.getD_eq_getElem?_getD, List.getElem?_eq_getElem hin]
           exact (h _ (List.getElem_mem hin)).1)
  · unfold putF
    rw [if_neg hin]
    exact h.snoc h1 h2

/-- While they are drawn. -/
structure FtSt (w : World) (c : Nat) (a : Option Addr) (len cap : Nat) (v : Value) (fs : List (ByteArray × ByteArray)) (wr : World) : Prop where
  own : wr.ownsRow (c + 1) 53 2 v fs.length (flatF fs)
  le : fs.length ≤ 41
  short : ShortF fs
  cur : CurAt wr c a len cap
  low : Below c w wr
theorem FtSt.grown {w : World} {c : Nat} {a : Option Addr} {len cap : Nat} {v : Value} {fs : List (ByteArray × ByteArray)} {wr W : World} (h : FtSt w c a len cap v fs wr) (hg : wr.grownBy W (some c)) (hcu : CurAt W c a len cap) : FtSt w c a len cap v fs W :=
  ⟨owns_same h.own (fun j hj => hg.block j (own_ltR h.own hj).2 (fun e => by cases e; have := (own_ltR h.own hj).1; omega)), h.le, h.short, hcu, h.low.grown hg (by have := h.cur.lt; omega) (by intro k hk; cases hk; exact Nat.le_refl _)⟩
end Go.Proofs.YtmmkbgkiglmgeaaGreatDoor

namespace Go.Proofs.YtmmkbgkiglmgeaaGreatDoor
open Go.RowKit
open Go.Lib hiding intOf

/-- 'wpAnyH_take', its place named. -/
theorem wpAnyH_takeD {P : Program} {ops : Array Oper} {Q : Exit → Act → World → Prop} {md : Region.Mode} {S : World → Prop} {i : Nat} {oi : Oper} {v : Value} {fuel : Nat} {listed : Array Bool} {a : Act} {w : World} (d : Option Tmp) (hi : ops[i]? = some oi) (hd : oi.dst = d)
    (hs : Region.noSelect ops = true) (hf : Region.free md ops listed i = true) (hr : (Region.ready md ops listed).contains i = true)
    (hQ : ∀ c a w, Q (.panic c) (a.put oi.dst v) w → Q (.panic c) a w) (hy : YieldsIf P ops S oi v a) (hS : S w)
    (h : wpAnyH P md ops Q S fuel (listed.setIfInBounds i true) (a.put d v) w) : wpAnyH P md ops Q S (fuel + 1) listed a w :=
  wpAnyH_take hi hs hf hr hQ hy hS (hd ▸ h)
end Go.Proofs.YtmmkbgkiglmgeaaGreatDoor

namespace Go.Proofs.YtmmkbgkiglmgeaaGreatDoor
open Go.RowKit
open Go.Lib hiding intOf

/-- A call on the cursor answers an answer. -/
def RespDrawn (bmax : Nat) (w : World) (c : Nat) (a : Option Addr) (len cap : Nat) (e : Ending) (w' : World) : Prop :=
  ∃ (m : Int) (v : Value) (fs : List (ByteArray × ByteArray)) (b : ByteArray), e = .returned (.agg #[.int .i64 m, v, .string b]) ∧ (-1000 ≤ m ∧ m ≤ 1000) ∧ w'.ownsRow w.heap.size 53 2 v fs.length (flatF fs) ∧ fs.length ≤ 40 ∧ ShortF fs ∧ b.size ≤ bmax ∧ CurAt w' c a len cap ∧ w.grownBy w' (some c)
/-- While it is drawn: the answer's memory R, the variable r. -/
structure DResp (w : World) (c R r : Nat) (m : Int) (fv : Value) (fs : List (ByteArray × ByteArray)) (b : ByteArray) (a : Option Addr) (len cap : Nat) (W : World) : Prop where
  hR : W.heap[R]? = some (.cells #[.int .i64 0, .slice none 0 0, .string ⟨#[]⟩] 26)
  hr : W.heap[r]? = some (.cells #[.int .i64 m, fv, .string b] 26)
  own : W.ownsRow w.heap.size 53 2 fv fs.length (flatF fs)
  cur : CurAt W c a len cap
  grow : w.grownBy W (some c)
  apart : ∀ j, fv.ownBlock = some j → j ≠ R ∧ j ≠ r
theorem DResp.later {w : World} {c R r : Nat} {m : Int} {fv : Value} {fs : List (ByteArray × ByteArray)} {b : ByteArray} {a : Option Addr} {len cap : Nat} {W : World} {W' : World} (h : DResp w c R r m fv fs b a len cap W) (hcw : c < w.heap.size) (hRw : w.heap.size ≤ R) (hrw : w.heap.size ≤ r) (hcu : CurAt W' c a len cap) (hg : W.grownBy W' (some c)) : DResp w c R r m fv fs b a len cap W' := by
  refine ⟨?_, ?_, ?_, hcu, grownBy_trans h.grow hg, h.apart⟩
  · rw [hg.block R ((Array.getElem?_eq_some_iff.1 h.hR).1) (fun e => by have := Option.some.inj e; omega)]; exact h.hR
  · rw [hg.block r ((Array.getElem?_eq_some_iff.1 h.hr).1) (fun e => by have := Option.some.inj e; omega)]; exact h.hr
  · exact h.own.kept hg (by cases h2 : fv.ownBlock <;> simp; exact fun e => by have h7 := owns_ge h.own h2; omega)
theorem DResp.setStatus {w : World} {c R r : Nat} {m : Int} {fv : Value} {fs : List (ByteArray × ByteArray)} {b : ByteArray} {a : Option Addr} {len cap : Nat} {W : World} {m' : Int} (h : DResp w c R r m fv fs b a len cap W) (hcw : c < w.heap.size) (hrw : w.heap.size ≤ r) (hrR : R ≠ r) : DResp w c R r m' fv fs b a len cap (W.setCell ⟨r, 0, none⟩ (.int .i64 m')) := by
  refine ⟨?_, ?_, ?_, ?_, grown_later h.grow (grown_set W r 0 _) (fun g e => by cases e; exact hrw), h.apart⟩
  · rw [heap_setCell_other _ _ R _ (fun e => hrR e)]; exact h.hR
  · have := heap_set W r 0 _ _ _ (.int .i64 m') h.hr
    simpa using this
  · exact h.own.kept (grown_set W r 0 _) (by cases h3 : fv.ownBlock <;> simp; exact (h.apart _ h3).2)
  · obtain ⟨i, hh, hi, h4⟩ := h.cur
    refine ⟨i, hh, hi, ?_⟩
    rw [heap_setCell_other _ _ c _ (fun e => by have e2 : c = r := e; omega)]
    exact h4
theorem DResp.setFields {w : World} {c R r : Nat} {m : Int} {fv : Value} {fs : List (ByteArray × ByteArray)} {b : ByteArray} {a : Option Addr} {len cap : Nat} {W : World} {gv : Value} {gs : List (ByteArray × ByteArray)} (h : DResp w c R r m fv fs b a len cap W) (hcw : c < w.heap.size) (hrw : w.heap.size ≤ r) (hrR : R ≠ r) (hown : W.ownsRow w.heap.size 53 2 gv gs.length (flatF gs)) : DResp w c R r m gv gs b a len cap (W.setCell ⟨r, 1, none⟩ (gv)) := by
  have hap : ∀ j, gv.ownBlock = some j → j ≠ R ∧ j ≠ r := fun j hj => by
    obtain ⟨cur, hcj⟩ := owns_heap hown hj
    refine ⟨fun e => ?_, fun e => ?_⟩
    · rw [e, h.hR] at hcj
      simp at hcj
    · rw [e, h.hr] at hcj
      simp at hcj
  refine ⟨?_, ?_, ?_, ?_, grown_later h.grow (grown_set W r 1 _) (fun g e => by cases e; exact hrw), hap⟩
  · rw [heap_setCell_other _ _ R _ (fun e => hrR e)]; exact h.hR
  · have := heap_set W r 1 _ _ _ (gv) h.hr
    simpa using this
  · exact hown.kept (grown_set W r 1 _) (by cases h3 : gv.ownBlock <;> simp; exact (hap _ h3).2)
  · obtain ⟨i, hh, hi, h4⟩ := h.cur
    refine ⟨i, hh, hi, ?_⟩
    rw [heap_setCell_other _ _ c _ (fun e => by have e2 : c = r := e; omega)]
    exact h4
theorem DResp.setBody {w : World} {c R r : Nat} {m : Int} {fv : Value} {fs : List (ByteArray × ByteArray)} {b : ByteArray} {a : Option Addr} {len cap : Nat} {W : World} {b' : ByteArray} (h : DResp w c R r m fv fs b a len cap W) (hcw : c < w.heap.size) (hrw : w.heap.size ≤ r) (hrR : R ≠ r) : DResp w c R r m fv fs b' a len cap (W.setCell ⟨r, 2, none⟩ (.string b')) := by
  refine ⟨?_, ?_, ?_, ?_, grown_later h.grow (grown_set W r 2 _) (fun g e => by cases e; exact hrw), h.apart⟩
  · rw [heap_setCell_other _ _ R _ (fun e => hrR e)]; exact h.hR
  · have := heap_set W r 2 _ _ _ (.string b') h.hr
    simpa using this
  · exact h.own.kept (grown_set W r 2 _) (by cases h3 : fv.ownBlock <;> simp; exact (h.apart _ h3).2)
  · obtain ⟨i, hh, hi, h4⟩ := h.cur
    refine ⟨i, hh, hi, ?_⟩
    rw [heap_setCell_other _ _ c _ (fun e => by have e2 : c = r := e; omega)]
    exact h4
/-- The answer handed back. -/
theorem DResp.fin {w : World} {c R r : Nat} {m : Int} {fv : Value} {fs : List (ByteArray × ByteArray)} {b : ByteArray} {a : Option Addr} {len cap : Nat} {W : World} (h : DResp w c R r m fv fs b a len cap W) (hcw : c < w.heap.size) (hRw : w.heap.size ≤ R) (hm : -1000 ≤ m ∧ m ≤ 1000) (hf : fs.length ≤ 40) (hsh : ShortF fs) {bmax : Nat} (hb : b.size ≤ bmax) :
    (threeSet W R (.int .i64 m) fv (.string b)).heap[R]? = some (.cells #[.int .i64 m, fv, .string b] 26) ∧ RespDrawn bmax w c a len cap (.returned (.agg #[.int .i64 m, fv, .string b])) (threeSet W R (.int .i64 m) fv (.string b)) := by
  have hg : W.grownBy (threeSet W R (.int .i64 m) fv (.string b)) (some R) := by
    unfold threeSet
    exact grown_then (grown_then (grown_set _ _ _ _) (grown_set _ _ _ _)) (grown_set _ _ _ _)
  refine ⟨three_set h.hR _ _ _, m, fv, fs, b, rfl, hm, ?_, hf, hsh, hb, ?_, grown_later h.grow hg (fun g e => by cases e; exact hRw)⟩
  · exact h.own.kept hg (by cases h3 : fv.ownBlock <;> simp; exact (h.apart _ h3).1)
  · obtain ⟨i, hh, hi, h4⟩ := h.cur
    refine ⟨i, hh, hi, ?_⟩
    rw [hg.block c (Array.getElem?_eq_some_iff.1 h4).1 (fun e => by have := Option.some.inj e; omega)]
    exact h4
/-- How long the body is that lies there. -/
def bodyLenP (r : Nat) (W : World) : Nat := match W.cell? ⟨r, 2, none⟩ with | some (.string t) => t.size | _ => 0

set_option maxHeartbeats 4000000 in
set_option maxRecDepth 100000 in
theorem l3DrawResp_any (c B : Nat) (a : Option Addr) (len cap : Nat) (zs : List Int) (w : World) (hcur : CurAt w c a len cap) (hcode : CodeAt w B a len zs) (hB : B ≤ c) :
    Calls Tryz.prog 24 #[.pointer (some ⟨c, 0, none⟩)] w fun e w' => RespDrawn 14 w c a len cap e w' := by
  have hcw := hcur.lt
  have HCO : Hid (∀ W, w.grownBy W (some c) → CodeAt W B a len zs) := fun W h => hcode.grown h hB
  obtain ⟨R, hR⟩ : ∃ R, R = w.heap.size := ⟨_, rfl⟩
  have hg0 : w.grownBy (w.alloc (.cells #[.int .i64 0, .slice none 0 0, .string ⟨#[]⟩] 26)) (some c) := World.grownBy_alloc w _ _
  have hcu0 := hcur.below ((Below.refl _ w).alloc (Nat.le_refl _) (.cells #[.int .i64 0, .slice none 0 0, .string ⟨#[]⟩] 26)) hcw
  have hco0 := HCO.out _ hg0
  have hz0' : (w.alloc (.cells #[.int .i64 0, .slice none 0 0, .string ⟨#[]⟩] 26)).heap[R]? = some (.cells #[.int .i64 0, .slice none 0 0, .string ⟨#[]⟩] 26) := by rw [hR]; exact heap_alloc_new w _
  have hRlt : R < (w.alloc (.cells #[.int .i64 0, .slice none 0 0, .string ⟨#[]⟩] 26)).heap.size := by rw [hR]; simp
  have hRc : R ≠ c := by omega
  have hRw : w.heap.size ≤ R := by omega
  have HRE : Hid (R = w.heap.size) := hR
  obtain ⟨w0, hw0⟩ : ∃ W, W = w.alloc (.cells #[.int .i64 0, .slice none 0 0, .string ⟨#[]⟩] 26) := ⟨_, rfl⟩
  have HW0 : Hid (w0 = w.alloc (.cells #[.int .i64 0, .slice none 0 0, .string ⟨#[]⟩] 26)) := hw0
  have HS0 : Hid (w0.heap.size = w.heap.size + 1) := by show _ = _; rw [hw0]; simp
  rw [← hw0] at hg0 hcu0 hco0 hz0' hRlt
  clear hcur hcode hR hw0
  go_enter Tryz.func24, Tryz.ntmps24
  go_wp2_with fail
  rw [← HW0.out, ← HS0.out]
  refine (pickInt_new c B [200, 200, 200, 200, 404, 500, 304] 200 500 (by decide) a len cap zs w0 hcu0 hco0 hB (by decide) (by decide)).mono ?_
  rintro e w1 ⟨m, rfl, hm1, hm2, hcu1, hg1⟩
  have hm : -1000 ≤ m ∧ m ≤ 1000 := by omega
  have hga1 := grownBy_trans hg0 hg1
  have hz1' : w1.heap[R]? = some (.cells #[.int .i64 0, .slice none 0 0, .string ⟨#[]⟩] 26) := by rw [hg1.block R hRlt (fun e => hRc (Option.some.inj e))]; exact hz0'
  have hR1 : R < w1.heap.size := (Array.getElem?_eq_some_iff.1 hz1').1
  clear hg0 hg1 hcu0 hco0 hz0' hRlt
  go_wp2_with fail
  refine (l2DrawRight_any c B a len cap zs _ hcu1 (HCO.out _ hga1) hB).mono ?_
  rintro e w2 ⟨fv, fs, rfl, hown, hfl, hsh, hcu2, hg2⟩
  obtain ⟨fo, fc, rfl⟩ := slice_of_owns hown
  have hga2 := grownBy_trans hga1 hg2
  have hz2' : w2.heap[R]? = some (.cells #[.int .i64 0, .slice none 0 0, .string ⟨#[]⟩] 26) := by rw [hg2.block R hR1 (fun e => hRc (Option.some.inj e))]; exact hz1'
  have hR2 : R < w2.heap.size := (Array.getElem?_eq_some_iff.1 hz2').1
  have HOWN : Hid (w2.ownsRow w1.heap.size 53 2 (.slice fo fs.length fc) fs.length (flatF fs)) := hown
  have HSZ1 : Hid (w.heap.size ≤ w1.heap.size ∧ R < w1.heap.size ∧ c < w1.heap.size) := ⟨hga1.size, hR1, hcu1.lt⟩
  clear hg2 hga1 hcu1 hz1' hR1 hown
  go_wp2_with fail
  refine (l3DrawBody_any c B a len cap zs _ hcu2 (HCO.out _ hga2) hB).mono ?_
  rintro e w3 ⟨b, rfl, hb, hcu3, hg3⟩
  have hga3 := grownBy_trans hga2 hg3
  have hz3' : w3.heap[R]? = some (.cells #[.int .i64 0, .slice none 0 0, .string ⟨#[]⟩] 26) := by rw [hg3.block R hR2 (fun e => hRc (Option.some.inj e))]; exact hz2'
  have hR3 : R < w3.heap.size := (Array.getElem?_eq_some_iff.1 hz3').1
  have HOWN3 : Hid (w3.ownsRow w1.heap.size 53 2 (.slice fo fs.length fc) fs.length (flatF fs)) := owns_grown HOWN.out hg3 HSZ1.out.2.2
  rw [← HRE.out]
  have hs1 := HSZ1.out
  clear hg3 hga2 hcu2 hz2' hR2 HOWN
  obtain ⟨r, hr⟩ : ∃ r, r = w3.heap.size := ⟨_, rfl⟩
  have hrw : w.heap.size ≤ r := by rw [hr]; exact hga3.size
  have hrR : R ≠ r := by omega
  have HD0 : Hid (DResp w c R r m (.slice fo fs.length fc) fs b a len cap (w3.alloc (.cells #[.int .i64 m, .slice fo fs.length fc, .string b] 26))) := by
    have hgal : w3.grownBy (w3.alloc (.cells #[.int .i64 m, .slice fo fs.length fc, .string b] 26)) (some c) := World.grownBy_alloc w3 _ _
    refine ⟨?_, by rw [hr]; exact heap_alloc_new w3 _, (owns_wide HOWN3.out (by omega)).alloc _, hcu3.below ((Below.refl _ w3).alloc (Nat.le_refl _) _) hcu3.lt, grownBy_trans hga3 hgal, fun j hj => ⟨by have := owns_ge HOWN3.out hj; omega, by have := owns_lt HOWN3.out hj; omega⟩⟩
    rw [hgal.block R hR3 (fun e => hRc (Option.some.inj e))]; exact hz3'
  have HR' : Hid (r = w3.heap.size) := hr
  obtain ⟨wv, hwv⟩ : ∃ W, W = w3.alloc (.cells #[.int .i64 m, .slice fo fs.length fc, .string b] 26) := ⟨_, rfl⟩
  have HWV : Hid (wv = w3.alloc (.cells #[.int .i64 m, .slice fo fs.length fc, .string b] 26)) := hwv
  rw [← hwv] at HD0
  clear hr hz3' hR3 hcu3 hga3 hwv HOWN3 HSZ1 hs1
  go_upto_region 2 with fail
  rw [← HR'.out, ← HWV.out]
  go_wp2_with fail
  refine (l1Once_any c B 2 a len cap zs _ HD0.out.cur (HCO.out _ HD0.out.grow) hB (by omega) (by omega)).mono ?_
  rintro e wx ⟨hbb, hcux, hgx⟩
  obtain ⟨bb, rfl⟩ := hbb.out
  have HDX0 : Hid (DResp w c R r m (.slice fo fs.length fc) fs b a len cap wx) := HD0.out.later hcw hRw hrw hcux hgx
  clear hbb hcux hgx HD0 HWV HR' HW0 HS0 HRE
  cases bb with
  | false =>
    obtain ⟨⟨c0, c1, c2⟩, f0, f1, f2⟩ := three_facts HDX0.out.hr
    obtain ⟨⟨d0, d1, d2⟩, g0, g1, g2⟩ := three_facts HDX0.out.hR
    obtain ⟨hh, hfin⟩ := HDX0.out.fin (bmax := 14) hcw hRw hm (by omega) hsh (by omega)
    obtain ⟨⟨k0, k1, k2⟩, _⟩ := three_facts hh
    have HFIN : Hid _ := hfin
    unfold threeSet at k0 k1 k2
    clear hh hfin
    go_wp2_with fail
    exact bodyPost_ret (v := .agg #[.int .i64 m, (.slice fo fs.length fc), .string b]) (by simp [results, Tryz.results24, go_sem, k0, k1, k2]) rfl HFIN.out
  | true =>
    have HDX : Hid (DResp w c R r m (.slice fo fs.length fc) fs b a len cap wx.drew) := HDX0.out.later hcw hRw hrw HDX0.out.cur (grown_below ((Below.refl _ wx).drew) _)
    clear HDX0
    go_upto_region 3 with fail
    obtain ⟨wy, hwy⟩ : ∃ W, W = wx.drew := ⟨_, rfl⟩
    refine wp_region_held_drew (S := fun _ => True) (by kernel_rfl) trivial (fun _ => ?_)
    rw [← hwy]
    rw [← hwy] at HDX
    clear hwy
    refine wpAnyH_takeD (i := 0) (v := .pointer (some ⟨r, 1, none⟩)) (some 14) rfl rfl (by kernel_rfl) (by kernel_rfl) (by kernel_rfl) (fun _ _ _ h => h) (Or.inl ⟨by rfl, by intro W _; go_simp⟩) trivial ?_
    simp only [Act.put, List.setIfInBounds_toArray, List.set_cons_zero, List.set_cons_succ]
    refine wpAnyH_takeD (i := 2) (v := .pointer (some ⟨c, 0, none⟩)) (some 16) rfl rfl (by kernel_rfl) (by kernel_rfl) (by kernel_rfl) (fun _ _ _ h => h) (Or.inl ⟨by rfl, by intro W _; go_simp⟩) trivial ?_
    simp only [Act.put, List.setIfInBounds_toArray, List.set_cons_zero, List.set_cons_succ]
    refine wpAnyH_ready (rs := [1, 3]) (by kernel_rfl) (by simp) ?_
    refine AllReadyH.cons rfl (fun K hK => ?_) (AllReadyH.cons rfl (fun K hK => ?_) AllReadyH.nil)
    · obtain ⟨⟨c0, c1, c2⟩, f0, f1, f2⟩ := three_facts HDX.out.hr
      go_simp
      refine hK.out _ _ trivial (fun _ => ?_)
      clear hK K c0 c1 c2 f0 f1 f2
      refine wpAnyH_ready (rs := [3]) (by kernel_rfl) (by simp) ?_
      refine AllReadyH.cons rfl (fun K hK => ?_) AllReadyH.nil
      go_simp
      refine hK.out _ _ trivial (fun _ => ?_)
      clear hK K
      refine wpAnyH_ready (rs := [4]) (by kernel_rfl) (by simp) ?_
      refine AllReadyH.cons rfl (fun K hK => ?_) AllReadyH.nil
      go_simp
      refine (pick_new c B [⟨#[109, 97, 120, 45, 97, 103, 101, 61, 53]⟩, ⟨#[109, 97, 120, 45, 97, 103, 101, 61, 50, 48]⟩, ⟨#[109, 97, 120, 45, 97, 103, 101, 61, 57]⟩] 10 (by decide) a len cap zs wy HDX.out.cur (HCO.out _ HDX.out.grow) hB (by decide) (by decide)).mono ?_
      rintro e wb ⟨t, rfl, hts, hcub, hgb⟩
      have HDB : Hid (DResp w c R r m (.slice fo fs.length fc) fs b a len cap wb) := HDX.out.later hcw hRw hrw hcub hgb
      refine hK.out _ _ trivial (fun _ => ?_)
      clear hK K hcub hgb
      obtain ⟨⟨c0, c1, c2⟩, f0, f1, f2⟩ := three_facts HDB.out.hr
      refine wpAnyH_ready (rs := [5]) (by kernel_rfl) (by simp) ?_
      refine AllReadyH.cons rfl (fun K hK => ?_) AllReadyH.nil
      go_simp
      refine (specPut_any _ fs.length w.heap.size fs ⟨#[99, 97, 99, 104, 101, 45, 99, 111, 110, 116, 114, 111, 108]⟩ t _ (FieldsV.of_owns HDB.out.own) (by omega)).mono ?_
      rintro e wd ⟨zv, rfl, ownz, bd⟩
      obtain ⟨oz, cz, rfl⟩ := slice_of_owns ownz
      have HDD : Hid (DResp w c R r m (.slice fo fs.length fc) fs b a len cap wd) := HDB.out.later hcw hRw hrw (HDB.out.cur.below bd HDB.out.cur.lt) (grown_below bd _)
      have HDE : Hid (DResp w c R r m (.slice oz (putF fs ⟨#[99, 97, 99, 104, 101, 45, 99, 111, 110, 116, 114, 111, 108]⟩ t).length cz) (putF fs ⟨#[99, 97, 99, 104, 101, 45, 99, 111, 110, 116, 114, 111, 108]⟩ t) b a len cap (wd.setCell ⟨r, 1, none⟩ (.slice oz (putF fs ⟨#[99, 97, 99, 104, 101, 45, 99, 111, 110, 116, 114, 111, 108]⟩ t).length cz))) := HDD.out.setFields hcw hrw hrR (owns_wide ownz (by have := HDB.out.grow.size; omega))
      refine hK.out _ _ trivial (fun _ => ?_)
      clear hK K c0 c1 c2 f0 f1 f2 ownz bd HDB
      obtain ⟨⟨c0, c1, c2⟩, f0, f1, f2⟩ := three_facts HDD.out.hr
      refine wpAnyH_takeD (i := 6) (v := .pointer (some ⟨r, 1, none⟩)) (some 20) rfl rfl (by kernel_rfl) (by kernel_rfl) (by kernel_rfl) (fun _ _ _ h => h) (Or.inl ⟨by rfl, by intro W _; go_simp⟩) trivial ?_
      simp only [Act.put, List.setIfInBounds_toArray, List.set_cons_zero, List.set_cons_succ]
      refine wpAnyH_ready (rs := [7]) (by kernel_rfl) (by simp) ?_
      refine AllReadyH.cons rfl (fun K hK => ?_) AllReadyH.nil
      go_simp
      refine hK.out _ _ trivial (fun _ => ?_)
      clear hK K c0 c1 c2 f0 f1 f2 HDD
      refine wpAnyH_done (by kernel_rfl) ?_ _
      have hpl : (putF fs ⟨#[99, 97, 99, 104, 101, 45, 99, 111, 110, 116, 114, 111, 108]⟩ t).length ≤ 40 := by have := putL_len fs ⟨#[99, 97, 99, 104, 101, 45, 99, 111, 110, 116, 114, 111, 108]⟩ t; omega
      have hps : ShortF (putF fs ⟨#[99, 97, 99, 104, 101, 45, 99, 111, 110, 116, 114, 111, 108]⟩ t) := putL_short hsh (by decide) (by omega)
      obtain ⟨PF, hPF⟩ : ∃ P, P = putF fs ⟨#[99, 97, 99, 104, 101, 45, 99, 111, 110, 116, 114, 111, 108]⟩ t := ⟨_, rfl⟩
      rw [← hPF] at hpl hps HDE ⊢
      obtain ⟨np, hnp⟩ : ∃ k, k = PF.length := ⟨_, rfl⟩
      rw [← hnp] at HDE ⊢
      clear hPF hnp
      obtain ⟨⟨c0, c1, c2⟩, f0, f1, f2⟩ := three_facts HDE.out.hr
      obtain ⟨⟨d0, d1, d2⟩, g0, g1, g2⟩ := three_facts HDE.out.hR
      obtain ⟨hh, hfin⟩ := HDE.out.fin (bmax := 14) hcw hRw hm hpl hps (by omega)
      obtain ⟨⟨k0, k1, k2⟩, _⟩ := three_facts hh
      have HFIN : Hid _ := hfin
      unfold threeSet at k0 k1 k2
      clear hh hfin
      go_wp2_with fail
      exact bodyPost_ret (v := .agg #[.int .i64 m, (.slice oz np cz), .string b]) (by simp [results, Tryz.results24, go_sem, k0, k1, k2]) rfl HFIN.out
    · go_simp
      refine hK.out _ _ trivial (fun _ => ?_)
      clear hK K
      refine wpAnyH_ready (rs := [1, 4]) (by kernel_rfl) (by simp) ?_
      refine AllReadyH.cons rfl (fun K hK => ?_) (AllReadyH.cons rfl (fun K hK => ?_) AllReadyH.nil)
      · have c1a : (wy.alloc (.cells #[.string ⟨#[109, 97, 120, 45, 97, 103, 101, 61, 53]⟩, .string ⟨#[109, 97, 120, 45, 97, 103, 101, 61, 50, 48]⟩, .string ⟨#[109, 97, 120, 45, 97, 103, 101, 61, 57]⟩] 9)).cell? ⟨r, 1, none⟩ = some (.slice fo fs.length fc) := (((Below.refl _ wy).alloc (Nat.le_refl _) (.cells #[.string ⟨#[109, 97, 120, 45, 97, 103, 101, 61, 53]⟩, .string ⟨#[109, 97, 120, 45, 97, 103, 101, 61, 50, 48]⟩, .string ⟨#[109, 97, 120, 45, 97, 103, 101, 61, 57]⟩] 9)).cell (p := ⟨r, 1, none⟩) (Array.getElem?_eq_some_iff.1 HDX.out.hr).1).trans (three_facts HDX.out.hr).1.2.1
        go_simp
        refine hK.out _ _ trivial (fun _ => ?_)
        clear hK K c1a
        refine wpAnyH_ready (rs := [4]) (by kernel_rfl) (by simp) ?_
        refine AllReadyH.cons rfl (fun K hK => ?_) AllReadyH.nil
        go_simp
        refine (pick_new c B [⟨#[109, 97, 120, 45, 97, 103, 101, 61, 53]⟩, ⟨#[109, 97, 120, 45, 97, 103, 101, 61, 50, 48]⟩, ⟨#[109, 97, 120, 45, 97, 103, 101, 61, 57]⟩] 10 (by decide) a len cap zs wy HDX.out.cur (HCO.out _ HDX.out.grow) hB (by decide) (by decide)).mono ?_
        rintro e wb ⟨t, rfl, hts, hcub, hgb⟩
        have HDB : Hid (DResp w c R r m (.slice fo fs.length fc) fs b a len cap wb) := HDX.out.later hcw hRw hrw hcub hgb
        refine hK.out _ _ trivial (fun _ => ?_)
        clear hK K hcub hgb
        obtain ⟨⟨c0, c1, c2⟩, f0, f1, f2⟩ := three_facts HDB.out.hr
        refine wpAnyH_ready (rs := [5]) (by kernel_rfl) (by simp) ?_
        refine AllReadyH.cons rfl (fun K hK => ?_) AllReadyH.nil
        go_simp
        refine (specPut_any _ fs.length w.heap.size fs ⟨#[99, 97, 99, 104, 101, 45, 99, 111, 110, 116, 114, 111, 108]⟩ t _ (FieldsV.of_owns HDB.out.own) (by omega)).mono ?_
        rintro e wd ⟨zv, rfl, ownz, bd⟩
        obtain ⟨oz, cz, rfl⟩ := slice_of_owns ownz
        have HDD : Hid (DResp w c R r m (.slice fo fs.length fc) fs b a len cap wd) := HDB.out.later hcw hRw hrw (HDB.out.cur.below bd HDB.out.cur.lt) (grown_below bd _)
        have HDE : Hid (DResp w c R r m (.slice oz (putF fs ⟨#[99, 97, 99, 104, 101, 45, 99, 111, 110, 116, 114, 111, 108]⟩ t).length cz) (putF fs ⟨#[99, 97, 99, 104, 101, 45, 99, 111, 110, 116, 114, 111, 108]⟩ t) b a len cap (wd.setCell ⟨r, 1, none⟩ (.slice oz (putF fs ⟨#[99, 97, 99, 104, 101, 45, 99, 111, 110, 116, 114, 111, 108]⟩ t).length cz))) := HDD.out.setFields hcw hrw hrR (owns_wide ownz (by have := HDB.out.grow.size; omega))
        refine hK.out _ _ trivial (fun _ => ?_)
        clear hK K c0 c1 c2 f0 f1 f2 ownz bd HDB
        obtain ⟨⟨c0, c1, c2⟩, f0, f1, f2⟩ := three_facts HDD.out.hr
        refine wpAnyH_takeD (i := 6) (v := .pointer (some ⟨r, 1, none⟩)) (some 20) rfl rfl (by kernel_rfl) (by kernel_rfl) (by kernel_rfl) (fun _ _ _ h => h) (Or.inl ⟨by rfl, by intro W _; go_simp⟩) trivial ?_
        simp only [Act.put, List.setIfInBounds_toArray, List.set_cons_zero, List.set_cons_succ]
        refine wpAnyH_ready (rs := [7]) (by kernel_rfl) (by simp) ?_
        refine AllReadyH.cons rfl (fun K hK => ?_) AllReadyH.nil
        go_simp
        refine hK.out _ _ trivial (fun _ => ?_)
        clear hK K c0 c1 c2 f0 f1 f2 HDD
        refine wpAnyH_done (by kernel_rfl) ?_ _
        have hpl : (putF fs ⟨#[99, 97, 99, 104, 101, 45, 99, 111, 110, 116, 114, 111, 108]⟩ t).length ≤ 40 := by have := putL_len fs ⟨#[99, 97, 99, 104, 101, 45, 99, 111, 110, 116, 114, 111, 108]⟩ t; omega
        have hps : ShortF (putF fs ⟨#[99, 97, 99, 104, 101, 45, 99, 111, 110, 116, 114, 111, 108]⟩ t) := putL_short hsh (by decide) (by omega)
        obtain ⟨PF, hPF⟩ : ∃ P, P = putF fs ⟨#[99, 97, 99, 104, 101, 45, 99, 111, 110, 116, 114, 111, 108]⟩ t := ⟨_, rfl⟩
        rw [← hPF] at hpl hps HDE ⊢
        obtain ⟨np, hnp⟩ : ∃ k, k = PF.length := ⟨_, rfl⟩
        rw [← hnp] at HDE ⊢
        clear hPF hnp
        obtain ⟨⟨c0, c1, c2⟩, f0, f1, f2⟩ := three_facts HDE.out.hr
        obtain ⟨⟨d0, d1, d2⟩, g0, g1, g2⟩ := three_facts HDE.out.hR
        obtain ⟨hh, hfin⟩ := HDE.out.fin (bmax := 14) hcw hRw hm hpl hps (by omega)
        obtain ⟨⟨k0, k1, k2⟩, _⟩ := three_facts hh
        have HFIN : Hid _ := hfin
        unfold threeSet at k0 k1 k2
        clear hh hfin
        go_wp2_with fail
        exact bodyPost_ret (v := .agg #[.int .i64 m, (.slice oz np cz), .string b]) (by simp [results, Tryz.results24, go_sem, k0, k1, k2]) rfl HFIN.out
      · go_simp
        refine (pick_new c B [⟨#[109, 97, 120, 45, 97, 103, 101, 61, 53]⟩, ⟨#[109, 97, 120, 45, 97, 103, 101, 61, 50, 48]⟩, ⟨#[109, 97, 120, 45, 97, 103, 101, 61, 57]⟩] 10 (by decide) a len cap zs wy HDX.out.cur (HCO.out _ HDX.out.grow) hB (by decide) (by decide)).mono ?_
        rintro e wb ⟨t, rfl, hts, hcub, hgb⟩
        have HDB : Hid (DResp w c R r m (.slice fo fs.length fc) fs b a len cap wb) := HDX.out.later hcw hRw hrw hcub hgb
        refine hK.out _ _ trivial (fun _ => ?_)
        clear hK K hcub hgb
        obtain ⟨⟨c0, c1, c2⟩, f0, f1, f2⟩ := three_facts HDB.out.hr
        refine wpAnyH_ready (rs := [1]) (by kernel_rfl) (by simp) ?_
        refine AllReadyH.cons rfl (fun K hK => ?_) AllReadyH.nil
        go_simp
        refine hK.out _ _ trivial (fun _ => ?_)
        clear hK K
        refine wpAnyH_ready (rs := [5]) (by kernel_rfl) (by simp) ?_
        refine AllReadyH.cons rfl (fun K hK => ?_) AllReadyH.nil
        go_simp
        refine (specPut_any _ fs.length w.heap.size fs ⟨#[99, 97, 99, 104, 101, 45, 99, 111, 110, 116, 114, 111, 108]⟩ t _ (FieldsV.of_owns HDB.out.own) (by omega)).mono ?_
        rintro e wd ⟨zv, rfl, ownz, bd⟩
        obtain ⟨oz, cz, rfl⟩ := slice_of_owns ownz
        have HDD : Hid (DResp w c R r m (.slice fo fs.length fc) fs b a len cap wd) := HDB.out.later hcw hRw hrw (HDB.out.cur.below bd HDB.out.cur.lt) (grown_below bd _)
        have HDE : Hid (DResp w c R r m (.slice oz (putF fs ⟨#[99, 97, 99, 104, 101, 45, 99, 111, 110, 116, 114, 111, 108]⟩ t).length cz) (putF fs ⟨#[99, 97, 99, 104, 101, 45, 99, 111, 110, 116, 114, 111, 108]⟩ t) b a len cap (wd.setCell ⟨r, 1, none⟩ (.slice oz (putF fs ⟨#[99, 97, 99, 104, 101, 45, 99, 111, 110, 116, 114, 111, 108]⟩ t).length cz))) := HDD.out.setFields hcw hrw hrR (owns_wide ownz (by have := HDB.out.grow.size; omega))
        refine hK.out _ _ trivial (fun _ => ?_)
        clear hK K c0 c1 c2 f0 f1 f2 ownz bd HDB
        obtain ⟨⟨c0, c1, c2⟩, f0, f1, f2⟩ := three_facts HDD.out.hr
        refine wpAnyH_takeD (i := 6) (v := .pointer (some ⟨r, 1, none⟩)) (some 20) rfl rfl (by kernel_rfl) (by kernel_rfl) (by kernel_rfl) (fun _ _ _ h => h) (Or.inl ⟨by rfl, by intro W _; go_simp⟩) trivial ?_
        simp only [Act.put, List.setIfInBounds_toArray, List.set_cons_zero, List.set_cons_succ]
        refine wpAnyH_ready (rs := [7]) (by kernel_rfl) (by simp) ?_
        refine AllReadyH.cons rfl (fun K hK => ?_) AllReadyH.nil
        go_simp
        refine hK.out _ _ trivial (fun _ => ?_)
        clear hK K c0 c1 c2 f0 f1 f2 HDD
        refine wpAnyH_done (by kernel_rfl) ?_ _
        have hpl : (putF fs ⟨#[99, 97, 99, 104, 101, 45, 99, 111, 110, 116, 114, 111, 108]⟩ t).length ≤ 40 := by have := putL_len fs ⟨#[99, 97, 99, 104, 101, 45, 99, 111, 110, 116, 114, 111, 108]⟩ t; omega
        have hps : ShortF (putF fs ⟨#[99, 97, 99, 104, 101, 45, 99, 111, 110, 116, 114, 111, 108]⟩ t) := putL_short hsh (by decide) (by omega)
        obtain ⟨PF, hPF⟩ : ∃ P, P = putF fs ⟨#[99, 97, 99, 104, 101, 45, 99, 111, 110, 116, 114, 111, 108]⟩ t := ⟨_, rfl⟩
        rw [← hPF] at hpl hps HDE ⊢
        obtain ⟨np, hnp⟩ : ∃ k, k = PF.length := ⟨_, rfl⟩
        rw [← hnp] at HDE ⊢
        clear hPF hnp
        obtain ⟨⟨c0, c1, c2⟩, f0, f1, f2⟩ := three_facts HDE.out.hr
        obtain ⟨⟨d0, d1, d2⟩, g0, g1, g2⟩ := three_facts HDE.out.hR
        obtain ⟨hh, hfin⟩ := HDE.out.fin (bmax := 14) hcw hRw hm hpl hps (by omega)
        obtain ⟨⟨k0, k1, k2⟩, _⟩ := three_facts hh
        have HFIN : Hid _ := hfin
        unfold threeSet at k0 k1 k2
        clear hh hfin
        go_wp2_with fail
        exact bodyPost_ret (v := .agg #[.int .i64 m, (.slice oz np cz), .string b]) (by simp [results, Tryz.results24, go_sem, k0, k1, k2]) rfl HFIN.out


set_option maxHeartbeats 4000000 in
set_option maxRecDepth 100000 in
theorem l3DrawBadResp_any (c B : Nat) (a : Option Addr) (len cap : Nat) (zs : List Int) (w : World) (hcur : CurAt w c a len cap) (hcode : CodeAt w B a len zs) (hB : B ≤ c) :
    Calls Tryz.prog 13 #[.pointer (some ⟨c, 0, none⟩)] w fun e w' => RespDrawn 140 w c a len cap e w' := by
  have hcw := hcur.lt
  have HCO : Hid (∀ W, w.grownBy W (some c) → CodeAt W B a len zs) := fun W h => hcode.grown h hB
  obtain ⟨R, hR⟩ : ∃ R, R = w.heap.size := ⟨_, rfl⟩
  have hg0 : w.grownBy (w.alloc (.cells #[.int .i64 0, .slice none 0 0, .string ⟨#[]⟩] 26)) (some c) := World.grownBy_alloc w _ _
  have hcu0 := hcur.below ((Below.refl _ w).alloc (Nat.le_refl _) (.cells #[.int .i64 0, .slice none 0 0, .string ⟨#[]⟩] 26)) hcw
  have hco0 := HCO.out _ hg0
  have hz0' : (w.alloc (.cells #[.int .i64 0, .slice none 0 0, .string ⟨#[]⟩] 26)).heap[R]? = some (.cells #[.int .i64 0, .slice none 0 0, .string ⟨#[]⟩] 26) := by rw [hR]; exact heap_alloc_new w _
  have hRlt : R < (w.alloc (.cells #[.int .i64 0, .slice none 0 0, .string ⟨#[]⟩] 26)).heap.size := by rw [hR]; simp
  have hRc : R ≠ c := by omega
  have hRw : w.heap.size ≤ R := by omega
  have HRE : Hid (R = w.heap.size) := hR
  obtain ⟨w0, hw0⟩ : ∃ W, W = w.alloc (.cells #[.int .i64 0, .slice none 0 0, .string ⟨#[]⟩] 26) := ⟨_, rfl⟩
  have HW0 : Hid (w0 = w.alloc (.cells #[.int .i64 0, .slice none 0 0, .string ⟨#[]⟩] 26)) := hw0
  have HS0 : Hid (w0.heap.size = w.heap.size + 1) := by show _ = _; rw [hw0]; simp
  rw [← hw0] at hg0 hcu0 hco0 hz0' hRlt
  clear hcur hcode hR hw0
  go_enter Tryz.func13, Tryz.ntmps13
  go_wp2_with fail
  rw [← HW0.out]
  refine (l3DrawResp_any c B a len cap zs _ hcu0 hco0 hB).mono ?_
  rintro e w1 ⟨m, fv, fs, b, rfl, hm, hown, hfl, hsh, hb, hcu1, hg1⟩
  obtain ⟨fo, fc, rfl⟩ := slice_of_owns hown
  have hz1' : w1.heap[R]? = some (.cells #[.int .i64 0, .slice none 0 0, .string ⟨#[]⟩] 26) := by rw [hg1.block R hRlt (fun e => hRc (Option.some.inj e))]; exact hz0'
  have hR1 : R < w1.heap.size := (Array.getElem?_eq_some_iff.1 hz1').1
  have hga1 := grownBy_trans hg0 hg1
  have hs0 := HS0.out
  obtain ⟨r, hr⟩ : ∃ r, r = w1.heap.size := ⟨_, rfl⟩
  have hrw : w.heap.size ≤ r := by rw [hr]; exact hga1.size
  have hrR : R ≠ r := by omega
  have HD0 : Hid (DResp w c R r m (.slice fo fs.length fc) fs b a len cap (w1.alloc (.cells #[.int .i64 m, .slice fo fs.length fc, .string b] 26))) := by
    have hgal : w1.grownBy (w1.alloc (.cells #[.int .i64 m, .slice fo fs.length fc, .string b] 26)) (some c) := World.grownBy_alloc w1 _ _
    refine ⟨?_, by rw [hr]; exact heap_alloc_new w1 _, (owns_wide hown (by omega)).alloc _, hcu1.below ((Below.refl _ w1).alloc (Nat.le_refl _) _) hcu1.lt, grownBy_trans hga1 hgal, fun j hj => ⟨by have := owns_ge hown hj; omega, by have := owns_lt hown hj; omega⟩⟩
    rw [hgal.block R hR1 (fun e => hRc (Option.some.inj e))]; exact hz1'
  have HR' : Hid (r = w1.heap.size) := hr
  obtain ⟨wv, hwv⟩ : ∃ W, W = w1.alloc (.cells #[.int .i64 m, .slice fo fs.length fc, .string b] 26) := ⟨_, rfl⟩
  have HWV : Hid (wv = w1.alloc (.cells #[.int .i64 m, .slice fo fs.length fc, .string b] 26)) := hwv
  rw [← hwv] at HD0
  rw [← HRE.out]
  clear hr hz1' hR1 hcu1 hga1 hwv hown hg1 hg0 hcu0 hco0 hz0' hRlt hs0
  go_wp2_with fail
  rw [← HR'.out, ← HWV.out]
  refine (l1Below_any c B 20 a len cap zs _ HD0.out.cur (HCO.out _ HD0.out.grow) hB (by omega) (by omega)).mono ?_
  rintro e wa ⟨x, rfl, hx0, hx1, hcua, hgaa⟩
  have hda : Hid (DResp w c R r m (.slice fo fs.length fc) fs b a len cap wa) := HD0.out.later hcw hRw hrw hcua hgaa
  clear hcua hgaa HD0 HWV HR' HW0 HS0 HRE
  obtain ⟨⟨c0, c1, c2⟩, f0, f1, f2⟩ := three_facts hda.out.hr
  obtain ⟨⟨d0, d1, d2⟩, g0, g1, g2⟩ := three_facts hda.out.hR
  by_cases x0 : x = 0
  · subst x0
    have hwas : wa.heap.size = wa.heap.size := rfl
    go_wp2_with fail
    refine (pickInt_new c B [99, 100, 599, 600, -1] (-1) 600 (by decide) a len cap zs wa hda.out.cur (HCO.out _ hda.out.grow) hB (by decide) (by decide)).mono ?_
    rintro e wb ⟨y, rfl, hy0, hy1, hcub, hgb⟩
    have hdb : Hid (DResp w c R r m (.slice fo fs.length fc) fs b a len cap wb) := hda.out.later hcw hRw hrw hcub hgb
    have hdc : Hid (DResp w c R r y (.slice fo fs.length fc) fs b a len cap (wb.setCell ⟨r, 0, none⟩ (.int .i64 y))) := hdb.out.setStatus (m' := y) hcw hrw hrR
    clear c0 c1 c2 f0 f1 f2 d0 d1 d2 g0 g1 g2 hcub hgb hda hwas
    obtain ⟨⟨c0, c1, c2⟩, f0, f1, f2⟩ := three_facts hdb.out.hr
    obtain ⟨⟨i0, i1, i2⟩, j0, j1, j2⟩ := three_facts hdc.out.hr
    obtain ⟨⟨d0, d1, d2⟩, g0, g1, g2⟩ := three_facts hdc.out.hR
    obtain ⟨hh, hfin⟩ := hdc.out.fin (bmax := 140) hcw hRw ⟨by omega, by omega⟩ hfl hsh (by omega)
    obtain ⟨⟨k0, k1, k2⟩, _⟩ := three_facts hh
    have HFIN : Hid _ := hfin
    unfold threeSet at k0 k1 k2
    clear hh hfin
    go_wp2_with fail
    exact bodyPost_ret (v := .agg #[.int .i64 y, (.slice fo fs.length fc), .string b]) (by simp [results, Tryz.results13, go_sem, k0, k1, k2]) rfl HFIN.out
  · by_cases x1 : x = 1
    · subst x1
      go_wp2_with fail
      refine (l2Draw_any c B a len cap zs _ hda.out.cur (HCO.out _ hda.out.grow) hB).mono ?_
      rintro e wb ⟨gv, gs, rfl, howng, hgl, hgsh, hcub, hgb⟩
      obtain ⟨go, gc, rfl⟩ := slice_of_owns howng
      have hdb : Hid (DResp w c R r m (.slice fo fs.length fc) fs b a len cap wb) := hda.out.later hcw hRw hrw hcub hgb
      have hdc : Hid (DResp w c R r m (.slice go gs.length gc) gs b a len cap (wb.setCell ⟨r, 1, none⟩ (.slice go gs.length gc))) := hdb.out.setFields hcw hrw hrR (owns_wide howng (by have := hda.out.grow.size; omega))
      clear c0 c1 c2 f0 f1 f2 d0 d1 d2 g0 g1 g2 hcub hgb hda howng
      obtain ⟨⟨c0, c1, c2⟩, f0, f1, f2⟩ := three_facts hdb.out.hr
      obtain ⟨⟨i0, i1, i2⟩, j0, j1, j2⟩ := three_facts hdc.out.hr
      obtain ⟨⟨d0, d1, d2⟩, g0, g1, g2⟩ := three_facts hdc.out.hR
      obtain ⟨hh, hfin⟩ := hdc.out.fin (bmax := 140) hcw hRw hm hgl hgsh (by omega)
      obtain ⟨⟨k0, k1, k2⟩, _⟩ := three_facts hh
      have HFIN : Hid _ := hfin
      unfold threeSet at k0 k1 k2
      clear hh hfin
      go_wp2_with fail
      exact bodyPost_ret (v := .agg #[.int .i64 m, (.slice go gs.length gc), .string b]) (by simp [results, Tryz.results13, go_sem, k0, k1, k2]) rfl HFIN.out
    · by_cases x2 : x = 2
      · subst x2
        clear c0 c1 c2 f0 f1 f2 d0 d1 d2 g0 g1 g2
        go_wp2_with fail
        go_loopw [] (fun wr => ∃ b2 : ByteArray, b2.size ≤ 121 ∧ Hid (DResp w c R r m (.slice fo fs.length fc) fs b2 a len cap wr)) (fun wr => 122 - bodyLenP r wr)
        case atStart => exact ⟨b, by omega, hda⟩
        case round =>
          obtain ⟨b2, hb2, hdr⟩ := hrel
          have hdw : Hid (DResp w c R r m (.slice fo fs.length fc) fs b2 a len cap wr.drew) := hdr.out.later hcw hRw hrw hdr.out.cur (grown_below ((Below.refl _ wr).drew) _)
          obtain ⟨⟨c0, c1, c2⟩, f0, f1, f2⟩ := three_facts hdr.out.hr
          have HL0 : Hid (bodyLenP r wr = b2.size) := by show _ = _; unfold bodyLenP; rw [c2]
          have HA : Hid (∀ wb, CurAt wb c a len cap → wr.drew.grownBy wb (some c) → wb.cell? ⟨r, 2, none⟩ = some (.string b2) ∧ Hid (DResp w c R r m (.slice fo fs.length fc) fs b2 a len cap wb)) := fun wb h1 h2 => by
            have h3 := hdw.out.later hcw hRw hrw h1 h2
            exact ⟨(three_facts h3.hr).1.2.2, h3⟩
          clear c0 c1 f0 f1 f2
          go_wp2_with fail
          go_region_held3 (fun W => W.cell? ⟨r, 2, none⟩ = some (.string b2)) (first | assumption | go_keep) (first | (go_at_call 29; refine (l1Below_any c B 2 a len cap zs _ hdw.out.cur (HCO.out _ hdw.out.grow) hB (by omega) (by omega)).mono ?_; rintro e wb ⟨y, rfl, hy0, hy1, hcub, hgb⟩; obtain ⟨hcb3, hdb⟩ := HA.out wb hcub hgb; have hwy : IntKind.i64.wrap (120 + y) = 120 + y := by rw [IntKind.wrap_i64]; omega))
          clear hcub hgb hdw HA c2
          have hdc : Hid (DResp w c R r m (.slice fo fs.length fc) fs (b2 ++ ⟨#[98]⟩) a len cap (wb.setCell ⟨r, 2, none⟩ (.string (b2 ++ ⟨#[98]⟩)))) := hdb.out.setBody (b' := b2 ++ (⟨#[98]⟩ : ByteArray)) hcw hrw hrR
          obtain ⟨⟨c0, c1, c2⟩, f0, f1, f2⟩ := three_facts hdb.out.hr
          obtain ⟨⟨d0, d1, d2⟩, g0, g1, g2⟩ := three_facts hdb.out.hR
          have e98 : (⟨#[98]⟩ : ByteArray).size = 1 := rfl
          by_cases hlt : (b2.size : Int) < 120 + y
          · have HL1 : Hid (bodyLenP r (wb.setCell ⟨r, 2, none⟩ (.string (b2 ++ ⟨#[98]⟩))) = b2.size + 1) := by
              show _ = _
              have := (three_facts hdc.out.hr).1.2.2
              unfold bodyLenP; rw [this]; simp only [ByteArray.size_append]; omega
            have q1 : ¬ 9223372036854775807 < b2.size + 1 := by omega
            clear d0 d1 d2 g0 g1 g2
            go_wp2
            go_roundw
            case rel => exact ⟨_, by simp only [ByteArray.size_append]; omega, hdc⟩
            case measure => rw [HL1.out, HL0.out]; omega
          · have hdec : decide ((b2.size : Int) < 120 + y) = false := by simpa using hlt
            clear hdc hdr hda HL0
            obtain ⟨hh, hfin⟩ := hdb.out.fin (bmax := 140) hcw hRw hm hfl hsh (by omega)
            obtain ⟨⟨k0, k1, k2⟩, _⟩ := three_facts hh
            have HFIN : Hid _ := hfin
            unfold threeSet at k0 k1 k2
            clear hh hfin
            go_wp2_with fail
            exact bodyPost_ret (v := .agg #[.int .i64 m, (.slice fo fs.length fc), .string b2]) (by simp [results, Tryz.results13, go_sem, k0, k1, k2]) rfl HFIN.out
      · have e0 : (x == 0) = false := by rw [beq_eq_false_iff_ne]; exact x0
        have e1 : (x == 1) = false := by rw [beq_eq_false_iff_ne]; exact x1
        have e2 : (x == 2) = false := by rw [beq_eq_false_iff_ne]; exact x2
        obtain ⟨hh, hfin⟩ := hda.out.fin (bmax := 140) hcw hRw hm hfl hsh (by omega)
        obtain ⟨⟨k0, k1, k2⟩, _⟩ := three_facts hh
        have HFIN : Hid _ := hfin
        unfold threeSet at k0 k1 k2
        clear hh hfin
        go_wp2_with fail
        exact bodyPost_ret (v := .agg #[.int .i64 m, (.slice fo fs.length fc), .string b]) (by simp [results, Tryz.results13, go_sem, k0, k1, k2]) rfl HFIN.out


end Go.Proofs.YtmmkbgkiglmgeaaGreatDoor

namespace Go.Proofs.YtmmkbgkiglmgeaaGreatDoor
open Go.RowKit
open Go.Lib hiding intOf

/-- An answer that was drawn out of a code. -/
def RespGot (w : World) (e : Ending) (w' : World) : Prop :=
  ∃ (m : Int) (v : Value) (fs : List (ByteArray × ByteArray)) (b : ByteArray), e = .returned (.agg #[.int .i64 m, v, .string b]) ∧ w'.ownsRow w.heap.size 53 2 v fs.length (flatF fs) ∧ fs.length ≤ 40 ∧ ShortF fs ∧ b.size ≤ 140 ∧ Below w.heap.size w w'
theorem respT_size {m : Int} {fs : List (ByteArray × ByteArray)} {b : ByteArray} (h : RespP m fs b) : (respT m fs b).size ≤ 1100 := by
  have h2 := restT_size true h.2.1 h.2.2
  have h3 := numText_size m.toNat
  have e1 : (⟨#[32]⟩ : ByteArray).size = 1 := rfl
  have e2 : (⟨#[72, 84, 84, 80, 47, 49, 46, 49, 32]⟩ : ByteArray).size = 9 := rfl
  have e3 : (⟨#[13, 10]⟩ : ByteArray).size = 2 := rfl
  have e4 : (⟨#[46]⟩ : ByteArray).size = 1 := rfl
  rw [← rest_resp]
  simp only [ByteArray.size_append]
  omega

set_option maxHeartbeats 1000000 in
set_option maxRecDepth 100000 in
theorem DrawRespText_any (a : Option Addr) (len cap : Nat) (zs : List Int) (w : World) (hcode : CodeAt w w.heap.size a len zs) :
    Calls Tryz.prog 5 #[.slice a len cap] w fun e w' => RespGot w e w' := by
  obtain ⟨R, hR⟩ : ∃ x, x = w.heap.size := ⟨_, rfl⟩
  have hb0 : Below w.heap.size w (w.alloc (.cells #[.int .i64 0, .slice none 0 0, .string ⟨#[]⟩] 26)) := (Below.refl _ _).alloc (Nat.le_refl _) _
  have hR0 := heap_alloc_new w (.cells #[.int .i64 0, .slice none 0 0, .string ⟨#[]⟩] 26)
  have hco0 := hcode.below hb0
  have HS0 : Hid ((w.alloc (.cells #[.int .i64 0, .slice none 0 0, .string ⟨#[]⟩] 26)).heap.size = w.heap.size + 1) := by show _ = _; simp
  clear hcode
  go_enter Tryz.func5, Tryz.ntmps5
  go_wp2_with fail
  refine (l1New_any w.heap.size a len cap zs _ hco0).mono ?_
  rintro e w1 ⟨rfl, hcu1, hb1⟩
  have hco1 := hco0.below (hb1.mono hb0.size)
  have hR1 : w1.heap[R]? = some (.cells #[.int .i64 0, .slice none 0 0, .string ⟨#[]⟩] 26) := by
    rw [hR, hb1.block _ (by rw [HS0.out]; omega)]; exact hR0
  have hbw1 := hb0.trans (hb1.mono hb0.size)
  rw [HS0.out] at hcu1 ⊢
  obtain ⟨c, hc⟩ : ∃ c, c = w.heap.size + 1 := ⟨_, rfl⟩
  rw [← hc] at hcu1 ⊢
  rw [← hR] at hco1 ⊢
  have hcR : R < c := by omega
  have hwR : w.heap.size ≤ R := by omega
  have hwc : w.heap.size ≤ c := by omega
  clear hb0 hb1 hR0 hco0 hc hR
  go_wp2_with fail
  refine (l3DrawBadResp_any c R a len cap zs _ hcu1 hco1 (by omega)).mono ?_
  rintro e w2 ⟨m, v, fs, b, rfl, _, hown2, hfl, hsh, hbs, _, hg2⟩
  have hlt1 := hcu1.lt
  have hb2 := below_of_grown hbw1 hg2 (by omega)
  have hR2 : w2.heap[R]? = some (.cells #[.int .i64 0, .slice none 0 0, .string ⟨#[]⟩] 26) := by
    rw [hg2.block R (by omega) (by simp; omega)]; exact hR1
  obtain ⟨oa, cp, rfl⟩ := slice_of_owns hown2
  obtain ⟨n, hn⟩ : ∃ x, x = fs.length := ⟨_, rfl⟩
  rw [← hn] at hown2
  rw [← hn]
  have HN : Hid (n = fs.length) := hn
  obtain ⟨⟨c0, c1, c2⟩, f0, f1, f2⟩ := three_facts hR2
  obtain ⟨⟨k0, k1, k2⟩, _⟩ := three_facts (three_set hR2 (.int .i64 m) (.slice oa n cp) (.string b))
  have HB4 : Hid (Below w.heap.size w (threeSet w2 R (.int .i64 m) (.slice oa n cp) (.string b))) := below_three hb2 hwR
  have HOWN : Hid ((threeSet w2 R (.int .i64 m) (.slice oa n cp) (.string b)).ownsRow w.heap.size 53 2 (.slice oa n cp) fs.length (flatF fs)) := by
    show World.ownsRow _ _ _ _ _ _ _
    unfold threeSet
    rw [← HN.out]
    obtain ⟨o1, _, r1⟩ := owns_set (o := 0) (x := .int .i64 m) (owns_wide hown2 hbw1.size) (by decide) hR2
    obtain ⟨o2, _, r2⟩ := owns_set (o := 1) (x := .slice oa n cp) o1 (by decide) r1
    exact (owns_set (o := 2) o2 (by decide) r2).1
  have HF : Hid (fs.length ≤ 40 ∧ ShortF fs ∧ b.size ≤ 140) := ⟨hfl, hsh, hbs⟩
  unfold threeSet at k0 k1 k2
  clear hR2 hR1 hb2 hown2 hg2 hcu1 hco1 hn hfl hsh hbs hbw1
  go_wp2_with fail
  exact bodyPost_ret (v := .agg #[.int .i64 m, .slice oa n cp, .string b]) (by simp [results, Tryz.results5, go_sem, k0, k1, k2]) rfl ⟨m, _, fs, b, rfl, HOWN.out, HF.out.1, HF.out.2.1, HF.out.2.2, HB4.out⟩

def dentPL : List ByteArray := [⟨#[32]⟩, ⟨#[13, 10]⟩, ⟨#[97, 58, 32, 98, 13, 10]⟩, ⟨#[120]⟩, ⟨#[48]⟩, ⟨#[10]⟩]
theorem dentP_short : ∀ j, j < 6 → (textAt dentPL j).size ≤ 64 := by decide
set_option maxHeartbeats 1000000 in
set_option maxRecDepth 100000 in
theorem DrawRespRead_any (a : Option Addr) (len cap : Nat) (zs : List Int) (w : World) (hcode : CodeAt w w.heap.size a len zs) :
    Calls Tryz.prog 11 #[.slice a len cap] w fun e w' => ∃ t : ByteArray, e = .returned (.string t) ∧ t.size ≤ 30000 ∧ Below w.heap.size w w' := by
  go_enter Tryz.func11, Tryz.ntmps11
  go_wp2_with fail
  refine (l1New_any w.heap.size a len cap zs _ hcode).mono ?_
  rintro e w1 ⟨rfl, hcu1, hb1⟩
  have hco1 := hcode.below hb1
  obtain ⟨c, hc⟩ : ∃ c, c = w.heap.size := ⟨_, rfl⟩
  rw [← hc] at hcu1 hco1
  rw [← hc]
  have hcge : w.heap.size ≤ c := by omega
  clear hc hcode
  go_wp2_with fail
  refine (l3DrawResp_any c c a len cap zs _ hcu1 hco1 (Nat.le_refl _)).mono ?_
  rintro e w2 ⟨m, v, fs, b, rfl, _, hown2, hfl, hsh, hbs, hcu2, hg2⟩
  have hb2 := below_of_grown hb1 hg2 (by omega)
  have hco2 := hco1.grown hg2 (Nat.le_refl _)
  have hv2 := FieldsV.of_owns hown2
  obtain ⟨oa, cp, rfl⟩ := slice_of_owns hown2
  have hwk : WalkF fs.length fs := fun i hi => by
    have := hsh.name i hi
    unfold maxLen; omega
  obtain ⟨n, hn⟩ : ∃ x, x = fs.length := ⟨_, rfl⟩
  rw [← hn] at hv2 hwk hfl
  rw [← hn]
  clear hcu1 hco1 hg2 hown2 hsh hn hb1
  go_wp2_with fail
  refine (specRespText_any m _ b n _ fs _ hv2 (by omega) hwk (by unfold maxLen; omega)).mono ?_
  rintro e w3 ⟨u, rfl, ku, kn, bb3⟩
  have hus : u.size ≤ 1100 := by
    by_cases h : RespP m fs b
    · rw [ku h]; exact respT_size h
    · rw [kn h]; exact Nat.zero_le _
  have hb3 := hb2.trans (bb3.mono hb2.size)
  have hco3 := hco2.grown (grown_below bb3 _) (Nat.le_refl _)
  have hcu3 := hcu2.below bb3 hcu2.lt
  have hlt3 := hcu3.lt
  have hbb : Below w3.heap.size w3 (w3.alloc (.cells #[.string ⟨#[32]⟩, .string ⟨#[13, 10]⟩, .string ⟨#[97, 58, 32, 98, 13, 10]⟩, .string ⟨#[120]⟩, .string ⟨#[48]⟩, .string ⟨#[10]⟩] 9)) := (Below.refl _ _).alloc (Nat.le_refl _) _
  have hcu4 := hcu3.below hbb hlt3
  have hco4 := hco3.grown (grown_below hbb _) (Nat.le_refl _)
  have hb4 := hb3.trans (hbb.mono hb3.size)
  have hl4 : ListAt (w3.alloc (.cells #[.string ⟨#[32]⟩, .string ⟨#[13, 10]⟩, .string ⟨#[97, 58, 32, 98, 13, 10]⟩, .string ⟨#[120]⟩, .string ⟨#[48]⟩, .string ⟨#[10]⟩] 9)) w3.heap.size 6 (textAt dentPL) := listAt_alloc w3 dentPL
  clear ku kn bb3 hb2 hb3 hco2 hco3 hcu2 hcu3 hbb hv2 hwk
  go_wp2_with fail
  refine (l3Dent_any c c u (textAt dentPL) w3.heap.size 6 dentP_short (by omega) (by omega) a len cap zs _ hcu4 hco4 (Nat.le_refl _) (by omega) (by omega) hl4).mono ?_
  rintro e w5 ⟨t, rfl, hts, _, hg5⟩
  have hb5 := below_of_grown hb4 hg5 (by omega)
  clear hcu4 hco4 hl4 hg5 hb4
  go_wp2_with fail
  go_ret
  exact ⟨t, rfl, by omega, hb5⟩

end Go.Proofs.YtmmkbgkiglmgeaaGreatDoor
