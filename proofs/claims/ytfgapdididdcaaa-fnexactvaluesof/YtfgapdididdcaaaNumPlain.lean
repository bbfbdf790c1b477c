/- Decimal digits and the number that they are, in plain words: no program is named here. -/
import Derived.Test.YtfgapdididdcaaaTrimPlain
namespace Go.Proofs.Ytfgapdididdcaaa

def DigB (b : UInt8) : Prop := 48 ≤ b.toNat ∧ b.toNat ≤ 57
/-- The number that a row of digits is. -/
def valL (l : List UInt8) : Nat := l.foldl (fun v b => 10 * v + (b.toNat - 48)) 0
theorem valL_snoc (l : List UInt8) (b : UInt8) : valL (l ++ [b]) = 10 * valL l + (b.toNat - 48) := by simp [valL]
/-- The digits of a number that is not 0; none of 0. -/
def dgF : Nat → Nat → List UInt8
  | 0, _ => []
  | f + 1, n => if n = 0 then [] else dgF f (n / 10) ++ [UInt8.ofNat (48 + n % 10)]
theorem dgF_zero (f : Nat) : dgF f 0 = [] := by cases f <;> simp [dgF]
theorem dgF_pos (f n : Nat) (h : n ≠ 0) : dgF (f + 1) n = dgF f (n / 10) ++ [UInt8.ofNat (48 + n % 10)] := by simp [dgF, h]

theorem ofNat_digit (n : Nat) : (UInt8.ofNat (48 + n % 10)).toNat = 48 + n % 10 := by
  simp; omega

theorem list_snoc : ∀ l : List UInt8, l = [] ∨ ∃ r b, l = r ++ [b]
  | [] => .inl rfl
  | a :: t => by
    rcases list_snoc t with rfl | ⟨r, b, rfl⟩
    · exact .inr ⟨[], a, rfl⟩
    · exact .inr ⟨a :: r, b, rfl⟩

theorem head_snoc (r : List UInt8) (b c : UInt8) (hr : r ≠ []) : (r ++ [b]).head? = some c ↔ r.head? = some c := by
  cases r with
  | nil => exact absurd rfl hr
  | cons a t => simp

/-- A row of digits with no nought ahead is greater than any power of ten below its length. -/
theorem val_ge (l : List UInt8) : (∀ b ∈ l, DigB b) → (∀ b, l.head? = some b → b.toNat ≠ 48) → l ≠ [] → 10 ^ (l.length - 1) ≤ valL l := by
  suffices H : ∀ n (l : List UInt8), l.length = n → (∀ b ∈ l, DigB b) → (∀ b, l.head? = some b → b.toNat ≠ 48) → l ≠ [] → 10 ^ (l.length - 1) ≤ valL l from H _ l rfl
  intro n
  induction n with
  | zero => intro l hl _ _ hne; exact absurd (List.length_eq_zero_iff.1 hl) hne
  | succ n ih =>
    intro l hl hd hh hne
    rcases list_snoc l with rfl | ⟨r, b, rfl⟩
    · exact absurd rfl hne
    · rw [valL_snoc]
      by_cases hr : r = []
      · subst hr
        have h1 := hd b (by simp)
        have h2 := hh b rfl
        simp [valL]; unfold DigB at h1; omega
      · have hlen : r.length = n := by simpa using hl
        have h3 := ih r hlen (fun c hc => hd c (by simp [hc])) (fun c hc => hh c ((head_snoc r b c hr).2 hc)) hr
        have hpos : 1 ≤ r.length := by cases r with | nil => exact absurd rfl hr | cons _ _ => simp
        have e : (r ++ [b]).length - 1 = (r.length - 1) + 1 := by simp; omega
        rw [e, Nat.pow_succ]
        omega

/-- The digits of the number that a row of digits is, with no nought ahead, are that row. -/
theorem dg_val : ∀ (f : Nat) (l : List UInt8), (∀ b ∈ l, DigB b) → (∀ b, l.head? = some b → b.toNat ≠ 48) → l.length ≤ f → dgF f (valL l) = l := by
  intro f
  induction f with
  | zero => intro l _ _ hl; rw [List.length_eq_zero_iff.1 (by omega : l.length = 0)]; rfl
  | succ f ih =>
    intro l hd hh hl
    rcases list_snoc l with rfl | ⟨r, b, rfl⟩
    · exact dgF_zero _
    · have hb := hd b (by simp)
      unfold DigB at hb
      have hpos : valL (r ++ [b]) ≠ 0 := by
        have := val_ge (r ++ [b]) hd hh (by simp)
        have : 0 < 10 ^ ((r ++ [b]).length - 1) := Nat.pow_pos (by omega)
        omega
      rw [dgF_pos f _ hpos, valL_snoc]
      have e1 : (10 * valL r + (b.toNat - 48)) / 10 = valL r := by omega
      have e2 : (10 * valL r + (b.toNat - 48)) % 10 = b.toNat - 48 := by omega
      rw [e1, e2]
      have e3 : UInt8.ofNat (48 + (b.toNat - 48)) = b := by
        rw [show 48 + (b.toNat - 48) = b.toNat by omega]; simp
      rw [e3]
      by_cases hr : r = []
      · subst hr; simp [valL, dgF_zero]
      · rw [ih r (fun c hc => hd c (by simp [hc])) (fun c hc => hh c ((head_snoc r b c hr).2 hc)) (by simp at hl; omega)]

/-- The digits of a number begin with no nought, and are that number. -/
theorem dg_facts : ∀ (f n : Nat), n < 10 ^ f → (∀ b, (dgF f n).head? = some b → b.toNat ≠ 48) ∧ valL (dgF f n) = n ∧ (∀ b ∈ dgF f n, DigB b) := by
  intro f
  induction f with
  | zero => intro n h; simp at h; subst h; simp [dgF, valL]
  | succ f ih =>
    intro n h
    by_cases h0 : n = 0
    · subst h0; rw [dgF_zero]; simp [valL]
    · rw [dgF_pos f n h0]
      rw [Nat.pow_succ] at h
      obtain ⟨i1, i2, i3⟩ := ih (n / 10) (by omega)
      refine ⟨?_, ?_, ?_⟩
      · intro b hb
        by_cases hr : dgF f (n / 10) = []
        · rw [hr] at hb
          simp only [List.nil_append, List.head?_cons, Option.some.injEq] at hb
          rw [← hb, ofNat_digit]
          have : n / 10 = 0 := by rw [hr] at i2; simpa [valL] using i2.symm
          omega
        · exact i1 b ((head_snoc _ _ b hr).1 hb)
      · rw [valL_snoc, i2, ofNat_digit]; omega
      · intro b hb
        rcases List.mem_append.1 hb with h | h
        · exact i3 b h
        · simp only [List.mem_singleton] at h
          unfold DigB
          rw [h, ofNat_digit]; omega

/-- The text of a number from 0 to 1000000; the empty text of others. -/
def numL (n : Nat) : List UInt8 := if 1000000 < n then [] else if n = 0 then [48] else dgF 8 n
def numText (n : Nat) : ByteArray := ⟨(numL n).toArray⟩

/-- A text that is a number from 0 to 1000000 in digits without needless noughts. -/
def NumOk (s : ByteArray) : Prop := 1 ≤ s.size ∧ (∀ b ∈ s.data.toList, DigB b) ∧ (1 < s.size → ∀ h : 0 < s.size, (s[0]'h).toNat ≠ 48) ∧ valL s.data.toList ≤ 1000000

theorem head_byte (s : ByteArray) (h : 0 < s.size) : s.data.toList.head? = some (s[0]'h) := by
  rw [List.head?_eq_getElem?, byte_get s 0 h]

theorem num_iff (s : ByteArray) (h1 : 1 ≤ s.size) (h7 : s.size ≤ 7) (hd : ∀ b ∈ s.data.toList, DigB b) : numText (valL s.data.toList) = s ↔ NumOk s := by
  have hlen : s.data.toList.length = s.size := by simp
  have hto : numText (valL s.data.toList) = s ↔ numL (valL s.data.toList) = s.data.toList := by
    constructor
    · intro h
      have := congrArg (fun x : ByteArray => x.data.toList) h
      simpa [numText] using this
    · intro h
      apply ByteArray.ext
      show (numL _).toArray = _
      rw [h]
  rw [hto]
  have hne : s.data.toList ≠ [] := by
    intro e; rw [e] at hlen; simp at hlen; omega
  constructor
  · intro h
    unfold numL at h
    split at h
    · exact absurd h.symm hne
    · rename_i hle
      refine ⟨h1, hd, ?_, by omega⟩
      intro hs hp
      split at h
      · rw [← h] at hlen; simp at hlen; omega
      · rename_i h0
        have hf := (dg_facts 8 (valL s.data.toList) (by omega)).1
        apply hf
        rw [h, head_byte s hp]
  · rintro ⟨_, _, hz, hv⟩
    unfold numL
    rw [if_neg (by omega)]
    by_cases hh : ∀ b, s.data.toList.head? = some b → b.toNat ≠ 48
    · have hg := val_ge s.data.toList hd hh hne
      have hpos : 0 < 10 ^ (s.data.toList.length - 1) := Nat.pow_pos (by omega)
      rw [if_neg (by omega)]
      exact dg_val 8 _ hd hh (by omega)
    · have hp : 0 < s.size := by omega
      have h48 : (s[0]'hp).toNat = 48 := by
        rcases Decidable.em ((s[0]'hp).toNat = 48) with h | h
        · exact h
        · exfalso; apply hh
          intro b hb
          rw [head_byte s hp] at hb
          cases hb; exact h
      have hsz : s.size = 1 := by
        rcases Nat.lt_or_ge 1 s.size with h | h
        · exact absurd h48 (hz h hp)
        · omega
      have hl : s.data.toList = [s[0]'hp] := by
        cases hc : s.data.toList with
        | nil => exact absurd hc hne
        | cons a t =>
          have ht : t = [] := by
            rw [hc] at hlen; simp at hlen; exact List.length_eq_zero_iff.1 (by omega)
          have ha : some a = some (s[0]'hp) := by rw [← head_byte s hp, hc]; rfl
          rw [ht, Option.some.inj ha]
      have he : s[0]'hp = 48 := by
        apply UInt8.toNat_inj.1; rw [h48]; rfl
      rw [hl, he]; rfl

/-- The value of the first k bytes. -/
def valTo (s : ByteArray) (k : Nat) : Nat := valL (s.data.toList.take k)
theorem valTo_succ (s : ByteArray) (k : Nat) (h : k < s.size) : valTo s (k + 1) = 10 * valTo s k + ((s[k]'h).toNat - 48) := by
  unfold valTo
  have : s.data.toList.take (k + 1) = s.data.toList.take k ++ [s[k]'h] := by
    rw [List.take_succ_eq_append_getElem (by simpa using h)]; rfl
  rw [this, valL_snoc]
theorem valTo_end (s : ByteArray) (k : Nat) (h : ¬ k < s.size) : valTo s k = valL s.data.toList := by
  unfold valTo; rw [List.take_of_length_le (by simp; omega)]
theorem valTo_lt (s : ByteArray) : ∀ k, k ≤ s.size → (∀ j (h : j < s.size), j < k → DigB (s[j]'h)) → valTo s k < 10 ^ k := by
  intro k
  induction k with
  | zero => intro _ _; simp [valTo, valL]
  | succ k ih =>
    intro hk hd
    rw [valTo_succ s k (by omega), Nat.pow_succ]
    have h1 := ih (by omega) (fun j h hj => hd j h (by omega))
    have h2 := hd k (by omega) (by omega)
    unfold DigB at h2
    omega
/-- The value of a longer beginning is no less. -/
theorem valTo_mono (s : ByteArray) (k : Nat) : ∀ d, k + d ≤ s.size → valTo s k ≤ valTo s (k + d) := by
  intro d
  induction d with
  | zero => intro _; exact Nat.le_refl _
  | succ d ih =>
    intro h
    rw [show k + (d + 1) = (k + d) + 1 by omega, valTo_succ s (k + d) (by omega)]
    have := ih (by omega)
    omega
theorem val_ge_to (s : ByteArray) (k : Nat) (h : k ≤ s.size) : valTo s k ≤ valL s.data.toList := by
  rw [← valTo_end s s.size (by omega)]
  have := valTo_mono s k (s.size - k) (by omega)
  rw [show k + (s.size - k) = s.size by omega] at this
  exact this
theorem mem_byte {s : ByteArray} {p : UInt8 → Prop} (h : ∀ j (hj : j < s.size), p (s[j]'hj)) : ∀ b ∈ s.data.toList, p b := by
  intro b hb
  obtain ⟨j, hj, rfl⟩ := List.getElem_of_mem hb
  exact h j (by simpa using hj)
theorem byte_mem (s : ByteArray) (j : Nat) (h : j < s.size) : s[j]'h ∈ s.data.toList := List.mem_of_getElem? (byte_get s j h)
/-- A number that is no longer than 1000000 has at most seven digits. -/
theorem num_seven {s : ByteArray} (h : NumOk s) : s.size ≤ 7 := by
  obtain ⟨h1, hd, hz, hv⟩ := h
  rcases Nat.lt_or_ge 7 s.size with h7 | h7
  · exfalso
    have hp : 0 < s.size := by omega
    have hlen : s.data.toList.length = s.size := by simp
    have hg := val_ge s.data.toList hd (fun b hb => by rw [head_byte s hp] at hb; cases hb; exact hz (by omega) hp) (by intro e; rw [e] at hlen; simp at hlen; omega)
    have : 10 ^ 7 ≤ 10 ^ (s.data.toList.length - 1) := Nat.pow_le_pow_right (by omega) (by omega)
    omega
  · exact h7

end Go.Proofs.Ytfgapdididdcaaa
