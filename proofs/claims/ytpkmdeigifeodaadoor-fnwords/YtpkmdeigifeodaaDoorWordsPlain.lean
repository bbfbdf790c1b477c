/- What follows of chapter 1's words, in plain words: a number is read as it was, what is trimmed stays so, what is split holds no commas. -/
import Derived.Test.YtpkmdeigifeodaaDoorNumText
namespace Go.Proofs.YtpkmdeigifeodaaDoor

/-! ### Numbers -/
theorem numText_data (n : Nat) : (numText n).data.toList = numL n := by simp [numText]
theorem numText_size (n : Nat) : (numText n).size = (numL n).length := by
  rw [← numText_data]; simp
theorem numText_ok (n : Nat) (h : n ≤ 1000000) : NumOk (numText n) ∧ valL (numText n).data.toList = n := by
  rw [numText_data]
  by_cases h0 : n = 0
  · subst h0
    have e : numL 0 = [48] := by unfold numL; rw [if_neg (by omega), if_pos rfl]
    refine ⟨⟨by rw [numText_size, e]; simp, ?_, ?_, ?_⟩, by rw [e]; rfl⟩
    · rw [numText_data, e]; intro b hb; simp at hb; subst hb; exact ⟨by decide, by decide⟩
    · intro hs; rw [numText_size, e] at hs; simp at hs
    · rw [numText_data, e]; show 0 ≤ 1000000; omega
  · have e : numL n = dgF 8 n := by unfold numL; rw [if_neg (by omega), if_neg h0]
    obtain ⟨h1, h2, h3⟩ := dg_facts 8 n (by omega)
    have hne : dgF 8 n ≠ [] := by rw [dgF_pos 7 n h0]; simp
    have hsz : 1 ≤ (numText n).size := by
      rw [numText_size, e]
      cases hd : dgF 8 n with
      | nil => exact absurd hd hne
      | cons _ _ => simp
    refine ⟨⟨hsz, by rw [numText_data, e]; exact h3, ?_, by rw [numText_data, e, h2]; exact h⟩, by rw [e, h2]⟩
    intro _ hp
    apply h1
    rw [← e, ← numText_data, head_byte _ hp]
theorem numTextI_in (n : Int) (h0 : 0 ≤ n) (h1 : n ≤ 1000000) : NumOk (numTextI n) ∧ ((valL (numTextI n).data.toList : Nat) : Int) = n := by
  have h := numText_ok n.toNat (by omega)
  unfold numTextI
  rw [if_neg (by omega)]
  exact ⟨h.1, by rw [h.2]; omega⟩
theorem numTextI_out (n : Int) (h : ¬ (0 ≤ n ∧ n ≤ 1000000)) : numTextI n = ⟨#[]⟩ := by
  unfold numTextI
  by_cases hn : n < 0
  · rw [if_pos hn]
  · rw [if_neg hn]; unfold numText numL; rw [if_pos (by omega)]
theorem numTextI_val {s : ByteArray} (h : NumOk s) : numTextI ((valL s.data.toList : Nat) : Int) = s := by
  unfold numTextI
  rw [if_neg (by omega), Int.toNat_natCast]
  exact (num_iff s h.1 (num_seven h) h.2.1).2 h

/-! ### Trimmed -/
theorem dropB_len (l : List UInt8) : (dropB l).length ≤ l.length := by
  induction l with
  | nil => simp [dropB]
  | cons b r ih =>
    rw [dropB]
    split
    · simp; omega
    · simp
theorem dropB_mem (l : List UInt8) : ∀ b ∈ dropB l, b ∈ l := by
  induction l with
  | nil => simp [dropB]
  | cons b r ih =>
    rw [dropB]
    split
    · intro c hc; exact List.mem_cons_of_mem _ (ih c hc)
    · intro c hc; exact hc
theorem dropB_head (l : List UInt8) : ∀ b, (dropB l).head? = some b → b.toNat ≠ 32 := by
  induction l with
  | nil => simp [dropB]
  | cons c r ih =>
    rw [dropB]
    split
    · exact ih
    · rename_i h
      intro b hb
      simp at hb; subst hb; exact h
theorem dropB_suffix (l : List UInt8) : ∃ x, l = x ++ dropB l := by
  induction l with
  | nil => exact ⟨[], by simp [dropB]⟩
  | cons c r ih =>
    rw [dropB]
    split
    · obtain ⟨x, hx⟩ := ih
      exact ⟨c :: x, by rw [List.cons_append, ← hx]⟩
    · exact ⟨[], rfl⟩
theorem trimL_ends (l : List UInt8) : (∀ b, (trimL l).head? = some b → b.toNat ≠ 32) ∧ (∀ b, (trimL l).getLast? = some b → b.toNat ≠ 32) := by
  unfold trimL
  refine ⟨?_, ?_⟩
  · intro b hb
    obtain ⟨x, hx⟩ := dropB_suffix (dropB l).reverse
    apply dropB_head l
    have h2 : dropB l = (dropB (dropB l).reverse).reverse ++ x.reverse := by
      have := congrArg List.reverse hx
      rw [List.reverse_reverse, List.reverse_append] at this
      exact this
    rw [h2]
    cases hr : (dropB (dropB l).reverse).reverse with
    | nil => rw [hr] at hb; cases hb
    | cons c q => rw [hr] at hb; simpa using hb
  · intro b hb
    rw [List.getLast?_reverse] at hb
    exact dropB_head _ b hb
theorem trimL_idem (l : List UInt8) : trimL (trimL l) = trimL l := by
  have h := trimL_ends l
  have := trimL_mid [] (trimL l) [] (by simp) (by simp) h.1 h.2
  simpa using this
theorem trimOf_data (s : ByteArray) : (trimOf s).data.toList = trimL s.data.toList := by simp [trimOf]
theorem trimOf_idem (s : ByteArray) : trimOf (trimOf s) = trimOf s := by
  apply ByteArray.ext
  apply Array.toList_inj.1
  rw [trimOf_data, trimOf_data, trimL_idem]
theorem trimOf_size (s : ByteArray) : (trimOf s).size ≤ s.size := by
  have h1 : (trimOf s).size = (trimL s.data.toList).length := by rw [← trimOf_data]; simp
  have h2 : s.size = s.data.toList.length := by simp
  rw [h1, h2]
  unfold trimL
  rw [List.length_reverse]
  have a := dropB_len (dropB s.data.toList).reverse
  rw [List.length_reverse] at a
  have b := dropB_len s.data.toList
  omega
theorem trimOf_mem (s : ByteArray) : ∀ b ∈ (trimOf s).data.toList, b ∈ s.data.toList := by
  intro b hb
  rw [trimOf_data] at hb
  unfold trimL at hb
  rw [List.mem_reverse] at hb
  have := dropB_mem _ b hb
  rw [List.mem_reverse] at this
  exact dropB_mem _ b this

/-! ### Split -/
/-- A part: not empty, trimmed, without a comma. -/
def Part (p : ByteArray) : Prop := p.size ≠ 0 ∧ trimOf p = p ∧ ∀ b ∈ p.data.toList, b.toNat ≠ 44
theorem extract_mem (s : ByteArray) (a e : Nat) : ∀ b ∈ (s.extract a e).data.toList, ∃ j, ∃ h : j < s.size, a ≤ j ∧ j < e ∧ b = s[j]'h := by
  intro b hb
  rw [ByteArray.data_extract, Array.toList_extract] at hb
  simp only [List.extract] at hb
  obtain ⟨i, hi, rfl⟩ := List.getElem_of_mem hb
  rw [List.length_take, List.length_drop] at hi
  have hl : s.data.toList.length = s.size := by simp
  refine ⟨a + i, by omega, by omega, by omega, ?_⟩
  rw [List.getElem_take, List.getElem_drop]
  rfl
theorem addPart_parts {l : List ByteArray} {t : ByteArray} (hl : ∀ p ∈ l, Part p) (ht : trimOf t = t) (hc : ∀ b ∈ t.data.toList, b.toNat ≠ 44) : ∀ p ∈ addPart l t, Part p := by
  unfold addPart
  split
  · exact hl
  · rename_i h
    intro p hp
    rcases List.mem_append.1 hp with h1 | h1
    · exact hl p h1
    · simp at h1; subst h1; exact ⟨h, ht, hc⟩
theorem trim_part (s : ByteArray) (f k : Nat) (hn : ∀ j (h : j < s.size), f ≤ j → j < k → (s[j]'h).toNat ≠ 44) : ∀ b ∈ (trimOf (s.extract f k)).data.toList, b.toNat ≠ 44 := by
  intro b hb
  obtain ⟨j, h, h1, h2, rfl⟩ := extract_mem s f k b (trimOf_mem _ b hb)
  exact hn j h h1 h2
theorem splitTo_inv (s : ByteArray) : ∀ k, k ≤ s.size → (∀ p ∈ (splitTo s k).1, Part p) ∧ ∀ j (h : j < s.size), (splitTo s k).2 ≤ j → j < k → (s[j]'h).toNat ≠ 44 := by
  intro k
  induction k with
  | zero => intro _; exact ⟨by simp [splitTo], fun _ _ _ h => absurd h (by omega)⟩
  | succ k ih =>
    intro hk
    obtain ⟨h1, h2⟩ := ih (by omega)
    have hks : k < s.size := by omega
    by_cases hc : (s[k]'hks).toNat = 44
    · have e := splitTo_comma s k hks hc
      have hp := addPart_parts h1 (trimOf_idem (s.extract (splitTo s k).2 k)) (trim_part s (splitTo s k).2 k h2)
      generalize addPart (splitTo s k).1 (trimOf (s.extract (splitTo s k).2 k)) = L at e hp
      generalize splitTo s (k + 1) = st at e ⊢
      subst e
      refine ⟨hp, fun j _ a b => ?_⟩
      dsimp only at a
      omega
    · have e := splitTo_other s k hks hc
      generalize splitTo s (k + 1) = st at e ⊢
      subst e
      refine ⟨h1, fun j h a b => ?_⟩
      by_cases e : j = k
      · subst e; exact hc
      · exact h2 j h a (by omega)
theorem splitL_parts (s : ByteArray) : ∀ p ∈ splitL s, Part p := by
  obtain ⟨h1, h2⟩ := splitTo_inv s s.size (Nat.le_refl _)
  exact addPart_parts h1 (trimOf_idem _) (trim_part s _ s.size h2)
theorem split_part {p : ByteArray} (h : Part p) : splitL p = [p] := by
  have hs : splitTo p p.size = ([], 0) := by
    have := splitTo_skip p 0 p.size (by omega) (fun j hj _ _ => h.2.2 _ (byte_mem p j hj))
    rw [Nat.zero_add] at this
    rw [this]; rfl
  unfold splitL
  rw [hs]
  have he : p.extract 0 p.size = p := by apply ByteArray.ext; simp
  rw [he, h.2.1]
  unfold addPart
  rw [if_neg h.1]; rfl
theorem splitL_at (s : ByteArray) (i : Nat) (h : i < (splitL s).length) : Part (textAt (splitL s) i) := by
  apply splitL_parts s
  unfold textAt
  rw [List.getD_eq_getElem?_getD, List.getElem?_eq_getElem h]
  exact List.getElem_mem _

end Go.Proofs.YtpkmdeigifeodaaDoor
