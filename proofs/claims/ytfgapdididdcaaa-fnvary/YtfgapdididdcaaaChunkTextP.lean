/- A body cut by sizes and told in parts, in plain words. No program. -/
import Derived.Test.YtfgapdididdcaaaChunkRd
import Derived.Test.YtfgapdididdcaaaMsgScan
namespace Go.Proofs.Ytfgapdididdcaaa
open Go.RowKit

/-- How many bytes the part of that number has. -/
def ctN (zs : List Int) (i rest : Nat) : Nat := if i < zs.length then min rest (zs.getD i 0).toNat else rest
def ctStep (body : ByteArray) (st : ByteArray × Nat) (n : Nat) : ByteArray × Nat :=
  if n = 0 then st else (st.1 ++ hexT n ++ ⟨#[13, 10]⟩ ++ body.extract st.2 (st.2 + n) ++ ⟨#[13, 10]⟩, st.2 + n)
def ctTo (body : ByteArray) (zs : List Int) : Nat → ByteArray × Nat
  | 0 => (⟨#[]⟩, 0)
  | i + 1 => ctStep body (ctTo body zs i) (ctN zs i (body.size - (ctTo body zs i).2))
/-- The body told in parts by sizes. -/
def ctext (body : ByteArray) (zs : List Int) : ByteArray := (ctTo body zs (zs.length + 1)).1 ++ ⟨#[48, 13, 10, 13, 10]⟩
theorem ctN_le (zs : List Int) (i rest : Nat) : ctN zs i rest ≤ rest := by
  unfold ctN; split
  · exact Nat.min_le_left _ _
  · exact Nat.le_refl _
theorem hexT_size (n : Nat) : (hexT n).size ≤ 5 := by
  have e : (hexT n).size = (hexL n).length := by simp [hexT, ByteArray.size]
  rw [e]
  unfold hexL
  split
  · simp
  · split
    · simp
    · exact hx_len 5 n 5 (by omega)
theorem ctTo_facts (body : ByteArray) (zs : List Int) : ∀ i, (ctTo body zs i).2 ≤ body.size ∧ (ctTo body zs i).1.size ≤ (ctTo body zs i).2 + 9 * i := by
  intro i
  induction i with
  | zero => exact ⟨Nat.zero_le _, Nat.zero_le _⟩
  | succ i ih =>
    rw [ctTo]
    generalize ctTo body zs i = st at ih ⊢
    have hn := ctN_le zs i (body.size - st.2)
    generalize ctN zs i (body.size - st.2) = n at hn ⊢
    unfold ctStep
    by_cases h0 : n = 0
    · rw [if_pos h0]; exact ⟨ih.1, by omega⟩
    · rw [if_neg h0]
      have h5 := hexT_size n
      have e1 : (⟨#[13, 10]⟩ : ByteArray).size = 2 := rfl
      refine ⟨?_, ?_⟩
      · show st.2 + n ≤ body.size; omega
      · show (st.1 ++ hexT n ++ ⟨#[13, 10]⟩ ++ body.extract st.2 (st.2 + n) ++ ⟨#[13, 10]⟩).size ≤ st.2 + n + 9 * (i + 1)
        simp only [ByteArray.size_append, ByteArray.size_extract]
        omega
theorem ctTo_end (body : ByteArray) (zs : List Int) : (ctTo body zs (zs.length + 1)).2 = body.size := by
  have h := (ctTo_facts body zs zs.length).1
  rw [ctTo]
  generalize ctTo body zs zs.length = st at h ⊢
  unfold ctN
  rw [if_neg (by omega)]
  unfold ctStep
  split
  · omega
  · show st.2 + (body.size - st.2) = body.size; omega
def partsL : List (List UInt8) → List UInt8
  | [] => []
  | p :: ps => hexL p.length ++ (13 :: 10 :: (p ++ (13 :: 10 :: partsL ps)))
theorem partsL_snoc (p : List UInt8) : ∀ ps, partsL (ps ++ [p]) = partsL ps ++ (hexL p.length ++ (13 :: 10 :: (p ++ [13, 10])))
  | [] => by simp [partsL]
  | q :: ps => by simp [partsL, partsL_snoc p ps]
theorem chunkL_parts : ∀ ps, chunkL ps = partsL ps ++ [48, 13, 10, 13, 10]
  | [] => by simp [partsL, chunkL]
  | p :: ps => by simp [partsL, chunkL, chunkL_parts ps]
theorem ctTo_parts (body : ByteArray) (zs : List Int) : ∀ i, ∃ ps : List (List UInt8), bs (ctTo body zs i).1 = partsL ps ∧ ps.flatten = (bs body).take (ctTo body zs i).2 ∧ ∀ p ∈ ps, p ≠ [] ∧ p.length ≤ body.size := by
  intro i
  induction i with
  | zero => exact ⟨[], rfl, by simp [ctTo], by simp⟩
  | succ i ih =>
    have hf := (ctTo_facts body zs i).1
    rw [ctTo]
    obtain ⟨ps, h1, h2, h3⟩ := ih
    generalize ctTo body zs i = st at h1 h2 hf ⊢
    have hn := ctN_le zs i (body.size - st.2)
    generalize ctN zs i (body.size - st.2) = n at hn ⊢
    unfold ctStep
    by_cases h0 : n = 0
    · rw [if_pos h0]; exact ⟨ps, h1, h2, h3⟩
    · rw [if_neg h0]
      have hl : (bs (body.extract st.2 (st.2 + n))).length = n := by rw [bs_len, ByteArray.size_extract]; omega
      refine ⟨ps ++ [bs (body.extract st.2 (st.2 + n))], ?_, ?_, ?_⟩
      · rw [partsL_snoc, hl]
        simp only [bs_append, h1]
        simp [bs, hexT]
      · show (ps ++ [bs (body.extract st.2 (st.2 + n))]).flatten = (bs body).take (st.2 + n)
        rw [List.flatten_append, h2, List.flatten_singleton, bs_extract, List.drop_take, show st.2 + n - st.2 = n by omega, List.take_add]
      · intro p hp
        simp only [List.mem_append, List.mem_singleton] at hp
        rcases hp with hp | rfl
        · exact h3 p hp
        · refine ⟨fun e => ?_, by omega⟩
          rw [e] at hl
          simp at hl
          exact h0 hl.symm
/-- A body that is cut by sizes is told in parts that are it together. -/
theorem ctext_parts (body : ByteArray) (zs : List Int) : ∃ ps : List (List UInt8), bs (ctext body zs) = chunkL ps ∧ ps.flatten = bs body ∧ ∀ p ∈ ps, p ≠ [] ∧ p.length ≤ body.size := by
  obtain ⟨ps, h1, h2, h3⟩ := ctTo_parts body zs (zs.length + 1)
  refine ⟨ps, ?_, ?_, h3⟩
  · unfold ctext
    rw [bs_append, h1, chunkL_parts]
    rfl
  · rw [h2, ctTo_end, ← bs_len, List.take_length]
/-- A body told in parts, whatever stands behind, is read as it was; a longer one is too long; cut short it is not whole. -/
theorem ctext_read (body : ByteArray) (zs : List Int) (tail : List UInt8) (h : body.size ≤ 120) : Rd (bs (ctext body zs) ++ tail) [] 0 (bs body, (ctext body zs).size, 0) := by
  obtain ⟨ps, h1, h2, h3⟩ := ctext_parts body zs
  have k := Rd.chunks tail ps [] 0 (fun p hp => (h3 p hp).1) (by rw [h2, bs_len]; simpa using h)
  rw [← h1, h2, bs_len] at k
  simpa using k
theorem ctext_long (body : ByteArray) (zs : List Int) (tail : List UInt8) (h : 120 < body.size) (h2 : body.size < 65536) : Rd (bs (ctext body zs) ++ tail) [] 0 ([], 0, 3) := by
  obtain ⟨ps, h1, h2', h3⟩ := ctext_parts body zs
  have k := Rd.chunks_long tail ps [] 0 (fun p hp => ⟨(h3 p hp).1, by have := (h3 p hp).2; omega⟩) (by simp) (by rw [h2', bs_len]; simpa using h)
  rw [← h1] at k
  exact k
theorem ctext_cut (body : ByteArray) (zs : List Int) (k : Nat) (h : body.size ≤ 120) (hk : k < (ctext body zs).size) : Rd ((bs (ctext body zs)).take k) [] 0 ([], 0, 1) := by
  obtain ⟨ps, h1, h2, h3⟩ := ctext_parts body zs
  rw [h1]
  exact Rd.cut ps [] 0 k (fun p hp => (h3 p hp).1) (by rw [h2, bs_len]; simpa using h) (by rw [← h1, bs_len]; exact hk)

end Go.Proofs.Ytfgapdididdcaaa
