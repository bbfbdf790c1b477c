/- What is said of keeping, in plain words: words that are split, made small and told apart; and that what is written is read as it was. No program. -/
import Derived.Test.YtfgapdididdcaaaSplit
import Derived.Test.YtfgapdididdcaaaNumText
import Derived.Test.YtfgapdididdcaaaMsgPlain
import Derived.Test.YtfgapdididdcaaaMsgScan
namespace Go.Proofs.Ytfgapdididdcaaa
open Go.RowKit

theorem ccNum_data (n : Nat) : (numText n).data.toList = numL n := by simp [numText]
theorem ccNum_size (n : Nat) : (numText n).size = (numL n).length := by
  rw [← ccNum_data]; simp
theorem ccNum_ok (n : Nat) (h : n ≤ 1000000) : NumOk (numText n) ∧ valL (numText n).data.toList = n := by
  rw [ccNum_data]
  by_cases h0 : n = 0
  · subst h0
    have e : numL 0 = [48] := by unfold numL; rw [if_neg (by omega), if_pos rfl]
    refine ⟨⟨by rw [ccNum_size, e]; simp, ?_, ?_, ?_⟩, by rw [e]; rfl⟩
    · rw [ccNum_data, e]; intro b hb; simp at hb; subst hb; exact ⟨by decide, by decide⟩
    · intro hs; rw [ccNum_size, e] at hs; simp at hs
    · rw [ccNum_data, e]; show 0 ≤ 1000000; omega
  · have e : numL n = dgF 8 n := by unfold numL; rw [if_neg (by omega), if_neg h0]
    obtain ⟨h1, h2, h3⟩ := dg_facts 8 n (by omega)
    have hne : dgF 8 n ≠ [] := by rw [dgF_pos 7 n h0]; simp
    have hsz : 1 ≤ (numText n).size := by
      rw [ccNum_size, e]
      cases hd : dgF 8 n with
      | nil => exact absurd hd hne
      | cons _ _ => simp
    refine ⟨⟨hsz, by rw [ccNum_data, e]; exact h3, ?_, by rw [ccNum_data, e, h2]; exact h⟩, by rw [e, h2]⟩
    intro _ hp
    apply h1
    rw [← e, ← ccNum_data, head_byte _ hp]
theorem ccNum_in (n : Int) (h0 : 0 ≤ n) (h1 : n ≤ 1000000) : NumOk (numTextI n) ∧ ((valL (numTextI n).data.toList : Nat) : Int) = n := by
  have h := ccNum_ok n.toNat (by omega)
  unfold numTextI
  rw [if_neg (by omega)]
  exact ⟨h.1, by rw [h.2]; omega⟩

/-- A part of a split text. -/
def partL (cur : List UInt8) : List ByteArray := if trimL cur = [] then [] else [⟨(trimL cur).toArray⟩]
/-- Split, byte by byte: 'cur': what stands of this part. -/
def spA (cur : List UInt8) : List UInt8 → List ByteArray
  | [] => partL cur
  | c :: r => if c = 44 then partL cur ++ spA [] r else spA (cur ++ [c]) r
theorem spA_app (b : List UInt8) : ∀ (a cur : List UInt8), spA cur (a ++ 44 :: b) = spA cur a ++ spA [] b := by
  intro a
  induction a with
  | nil => intro cur; simp [spA]
  | cons c a ih =>
    intro cur
    show spA cur (c :: (a ++ 44 :: b)) = _
    by_cases h : c = 44
    · rw [spA, if_pos h, spA, if_pos h, ih [], List.append_assoc]
    · rw [spA, if_neg h, spA, if_neg h, ih _]
theorem spA_one : ∀ (a cur : List UInt8), (∀ b ∈ a, b ≠ 44) → spA cur a = partL (cur ++ a) := by
  intro a
  induction a with
  | nil => intro cur _; simp [spA]
  | cons c a ih =>
    intro cur h
    rw [spA, if_neg (h c (by simp)), ih _ (fun b hb => h b (by simp [hb]))]
    simp
theorem add_part (l : List ByteArray) (s : ByteArray) : addPart l (trimOf s) = l ++ partL (bs s) := by
  have hs : (trimOf s).size = (trimL (bs s)).length := by
    show (trimL s.data.toList).toArray.size = _
    simp [bs]
  unfold addPart partL
  rw [hs]
  by_cases h : trimL (bs s) = []
  · rw [if_pos h, if_pos (by rw [h]; rfl), List.append_nil]
  · rw [if_neg h, if_neg (fun e => h (List.length_eq_zero_iff.1 e))]
    rfl
theorem ext_part (s : ByteArray) (a k : Nat) : bs (s.extract a k) = ((bs s).take k).drop a := by rw [bs_extract]
theorem split_from (s : ByteArray) : ∀ k, k ≤ s.size → (splitTo s k).1 ++ spA (((bs s).take k).drop (splitTo s k).2) ((bs s).drop k) = spA [] (bs s) := by
  intro k
  induction k with
  | zero => intro _; simp [splitTo]
  | succ k ih =>
    intro hk
    have hlt : k < s.size := by omega
    have h := ih (by omega)
    have hle := (splitTo_le s k).1
    have hd : (bs s).drop k = s[k]'hlt :: (bs s).drop (k + 1) := by
      have hl : k < (bs s).length := by rw [bs_len]; exact hlt
      rw [List.drop_eq_getElem_cons hl]
      congr 1
    have ht : (bs s).take (k + 1) = (bs s).take k ++ [s[k]'hlt] := by
      have hl : k < (bs s).length := by rw [bs_len]; exact hlt
      rw [List.take_succ_eq_append_getElem hl]
      congr 1
    rw [hd] at h
    by_cases hc : (s[k]'hlt).toNat = 44
    · have hc8 : s[k]'hlt = 44 := UInt8.toNat_inj.1 hc
      rw [splitTo_comma s k hlt hc]
      dsimp only
      rw [add_part, ext_part]
      rw [spA, if_pos hc8] at h
      have hn : ((bs s).take (k + 1)).drop (k + 1) = [] := List.drop_of_length_le (by rw [List.length_take]; omega)
      rw [hn, List.append_assoc]
      exact h
    · have hc8 : s[k]'hlt ≠ 44 := fun e => hc (by rw [e]; rfl)
      rw [splitTo_other s k hlt hc]
      rw [spA, if_neg hc8] at h
      have hn : ((bs s).take (k + 1)).drop (splitTo s k).2 = ((bs s).take k).drop (splitTo s k).2 ++ [s[k]'hlt] := by
        rw [ht, List.drop_append_of_le_length (by rw [List.length_take, bs_len]; omega)]
      rw [hn]
      exact h
theorem splitL_sp (s : ByteArray) : splitL s = spA [] (bs s) := by
  have h := split_from s s.size (Nat.le_refl _)
  have hd : (bs s).drop s.size = [] := List.drop_of_length_le (by rw [bs_len]; exact Nat.le_refl _)
  rw [hd] at h
  unfold splitL
  rw [add_part, ext_part]
  exact h

theorem dropB_len : ∀ l : List UInt8, (dropB l).length ≤ l.length := by
  intro l
  induction l with
  | nil => simp [dropB]
  | cons c l ih =>
    unfold dropB
    split
    · simp; omega
    · exact Nat.le_refl _
theorem trimL_len (l : List UInt8) : (trimL l).length ≤ l.length := by
  have h1 := dropB_len l
  have h2 := dropB_len (dropB l).reverse
  unfold trimL
  rw [List.length_reverse]
  rw [List.length_reverse] at h2
  omega
theorem partL_le (cur : List UInt8) : (partL cur).length ≤ 1 ∧ ∀ x ∈ partL cur, x.size ≤ cur.length := by
  unfold partL
  split
  · exact ⟨by simp, fun x hx => nomatch hx⟩
  · refine ⟨by simp, fun x hx => ?_⟩
    obtain rfl := List.mem_singleton.1 hx
    exact trimL_len cur
theorem spA_le : ∀ (l cur : List UInt8), (spA cur l).length ≤ l.length + 1 ∧ ∀ x ∈ spA cur l, x.size ≤ cur.length + l.length := by
  intro l
  induction l with
  | nil => intro cur; exact ⟨(partL_le cur).1, fun x hx => (partL_le cur).2 x hx⟩
  | cons c l ih =>
    intro cur
    unfold spA
    split
    · have h1 := partL_le cur
      have h2 := ih []
      refine ⟨by rw [List.length_append, List.length_cons]; omega, fun x hx => ?_⟩
      rw [List.mem_append] at hx
      rw [List.length_cons]
      rcases hx with hx | hx
      · have := h1.2 x hx; omega
      · have := h2.2 x hx; rw [List.length_nil] at this; omega
    · have h2 := ih (cur ++ [c])
      refine ⟨by rw [List.length_cons]; omega, fun x hx => ?_⟩
      have := h2.2 x hx
      rw [List.length_append, List.length_singleton] at this
      rw [List.length_cons]
      omega
theorem splitL_le (s : ByteArray) : (splitL s).length ≤ s.size + 1 ∧ ∀ x ∈ splitL s, x.size ≤ s.size := by
  have h := spA_le (bs s) []
  rw [← splitL_sp, bs_len, List.length_nil, Nat.zero_add] at h
  exact h

/-- A word: not empty, no comma, no blank first or last, nothing that is made small. -/
def WordB (l : List UInt8) : Prop := l ≠ [] ∧ (∀ b ∈ l, b.toNat ≠ 44 ∧ b.toNat ≠ 32 ∧ ¬ (65 ≤ b.toNat ∧ b.toNat ≤ 90))
theorem trim_word {l : List UInt8} (h : WordB l) : trimL l = l := by
  have := trimL_mid [] l [] (by simp) (by simp) (fun b hb => (h.2 b (List.mem_of_mem_head? hb)).2.1) (fun b hb => (h.2 b (List.mem_of_getLast? hb)).2.1)
  simpa using this
theorem part_word {l : List UInt8} (h : WordB l) : partL l = [⟨l.toArray⟩] := by
  unfold partL
  rw [trim_word h, if_neg h.1]
theorem part_blank (l : List UInt8) : partL (32 :: l) = partL l := by
  have : trimL (32 :: l) = trimL l := by
    unfold trimL
    rw [show dropB (32 :: l) = dropB l from dropB_blanks [32] l (by simp)]
  unfold partL
  rw [this]
/-- Words with a comma and a blank between them. -/
def joinL : List (List UInt8) → List UInt8
  | [] => []
  | [a] => a
  | a :: b :: r => a ++ 44 :: 32 :: joinL (b :: r)
theorem spA_join : ∀ (ws : List (List UInt8)), (∀ l ∈ ws, WordB l) → spA [] (joinL ws) = ws.map (fun l => ⟨l.toArray⟩) ∧ (ws ≠ [] → spA [] (32 :: joinL ws) = ws.map (fun l => ⟨l.toArray⟩)) := by
  intro ws
  induction ws with
  | nil => intro _; exact ⟨rfl, fun h => absurd rfl h⟩
  | cons a r ih =>
    intro h
    have ha := h a (by simp)
    have hn : ∀ b ∈ a, b ≠ 44 := fun b hb e => (ha.2 b hb).1 (by rw [e]; rfl)
    cases r with
    | nil =>
      refine ⟨?_, fun _ => ?_⟩
      · show spA [] a = _
        rw [spA_one _ _ hn, List.nil_append, part_word ha]
        rfl
      · show spA [] (32 :: a) = _
        rw [spA_one _ _ (by intro b hb; simp only [List.mem_cons] at hb; rcases hb with rfl | hb; · decide
                            · exact hn b hb), List.nil_append, part_blank, part_word ha]
        rfl
    | cons b r =>
      obtain ⟨_, i2⟩ := ih (fun l hl => h l (by simp [hl]))
      have i3 := i2 (by simp)
      refine ⟨?_, fun _ => ?_⟩
      · show spA [] (a ++ 44 :: 32 :: joinL (b :: r)) = _
        rw [spA_app, spA_one _ _ hn, List.nil_append, part_word ha, i3]
        rfl
      · show spA [] ((32 :: a) ++ 44 :: 32 :: joinL (b :: r)) = _
        rw [spA_app, spA_one _ _ (by intro b hb; simp only [List.mem_cons] at hb; rcases hb with rfl | hb; · decide
                                     · exact hn b hb), List.nil_append, part_blank, part_word ha, i3]
        rfl

/-- What is said of keeping. -/
structure CcD where
  ns : Bool
  nc : Bool
  pr : Bool
  mu : Bool
  ha : Bool
  age : Int
def cc0 : CcD := ⟨false, false, false, false, false, 0⟩
def CcD.v (c : CcD) : Value := .agg #[.bool c.ns, .bool c.nc, .bool c.pr, .bool c.mu, .bool c.ha, .int .i64 c.age]
theorem CcD.v_inj {c d : CcD} (h : c.v = d.v) : c = d := by
  cases c; cases d
  simp [CcD.v] at h
  simp [h]

def nsW : ByteArray := ⟨#[110, 111, 45, 115, 116, 111, 114, 101]⟩
def ncW : ByteArray := ⟨#[110, 111, 45, 99, 97, 99, 104, 101]⟩
def prW : ByteArray := ⟨#[112, 114, 105, 118, 97, 116, 101]⟩
def muW : ByteArray := ⟨#[109, 117, 115, 116, 45, 114, 101, 118, 97, 108, 105, 100, 97, 116, 101]⟩
def maW : ByteArray := ⟨#[109, 97, 120, 45, 97, 103, 101, 61]⟩
open Classical in
/-- The number that a text is; 0: it is none. -/
noncomputable def numV (s : ByteArray) : Int := if NumOk s then (valL s.data.toList : Int) else 0
open Classical in
/-- What stands behind the word of ages; none: it is another word. -/
noncomputable def ageOf (w : ByteArray) : Option Int := if (bs w).take 8 = bs maW then some (numV ⟨((bs w).drop 8).toArray⟩) else none
/-- One word more. -/
noncomputable def ccStep (c : CcD) (w : ByteArray) : CcD :=
  if w = nsW then { c with ns := true } else if w = ncW then { c with nc := true } else if w = prW then { c with pr := true } else if w = muW then { c with mu := true }
  else match ageOf w with
    | none => c
    | some n => if c.ha = true then { c with age := min c.age n } else { c with ha := true, age := n }
/-- So many of the words. -/
noncomputable def ccTo (l : List ByteArray) : CcD := l.foldl (fun c x => ccStep c (lowerOf x)) cc0
noncomputable def ccR (s : ByteArray) : CcD := ccTo (splitL s)
theorem ccTo_snoc (l : List ByteArray) (x : ByteArray) : ccTo (l ++ [x]) = ccStep (ccTo l) (lowerOf x) := by simp [ccTo]

theorem numV_in (s : ByteArray) : 0 ≤ numV s ∧ numV s ≤ 1000000 := by
  unfold numV
  split
  · rename_i h
    have := h.2.2.2
    omega
  · omega
theorem ageOf_in {w : ByteArray} {n : Int} (h : ageOf w = some n) : 0 ≤ n ∧ n ≤ 1000000 := by
  unfold ageOf at h
  split at h
  · obtain rfl := Option.some.inj h
    exact numV_in _
  · cases h
/-- Ages are in their bounds, and 0 where none is told. -/
def CcD.fit (c : CcD) : Prop := 0 ≤ c.age ∧ c.age ≤ 1000000 ∧ (c.ha = false → c.age = 0)
theorem ccStep_fit {c : CcD} (h : c.fit) (w : ByteArray) : (ccStep c w).fit := by
  obtain ⟨h1, h2, h3⟩ := h
  unfold ccStep
  split
  · exact ⟨h1, h2, h3⟩
  split
  · exact ⟨h1, h2, h3⟩
  split
  · exact ⟨h1, h2, h3⟩
  split
  · exact ⟨h1, h2, h3⟩
  cases hn : ageOf w with
  | none => exact ⟨h1, h2, h3⟩
  | some n =>
    have := ageOf_in hn
    dsimp only
    split
    · rename_i ha
      exact ⟨by dsimp only; omega, by dsimp only; omega, fun e => by dsimp only at e; rw [ha] at e; cases e⟩
    · exact ⟨by dsimp only; omega, by dsimp only; omega, fun e => by cases e⟩
theorem ccTo_fit (l : List ByteArray) : (ccTo l).fit := by
  unfold ccTo
  have : ∀ (l : List ByteArray) (c : CcD), c.fit → (l.foldl (fun c x => ccStep c (lowerOf x)) c).fit := by
    intro l
    induction l with
    | nil => intro c h; exact h
    | cons x l ih => intro c h; exact ih _ (ccStep_fit h _)
  exact this l cc0 ⟨by decide, by decide, fun _ => rfl⟩
theorem ccR_fit (s : ByteArray) : (ccR s).fit := ccTo_fit _

/-- The words of it, in their order. -/
def ccWords (c : CcD) : List ByteArray := (if c.ns = true then [nsW] else []) ++ (if c.nc = true then [ncW] else []) ++ (if c.pr = true then [prW] else []) ++ (if c.mu = true then [muW] else []) ++ (if c.ha = true then [maW ++ numTextI c.age] else [])
def joinB (l : List ByteArray) : ByteArray := ⟨(joinL (l.map bs)).toArray⟩
def ccText (c : CcD) : ByteArray := if c.ha = true ∧ ¬ (0 ≤ c.age ∧ c.age ≤ 1000000) then ⟨#[]⟩ else joinB (ccWords c)

theorem low_word {l : List UInt8} (h : WordB l) : lowerOf ⟨l.toArray⟩ = ⟨l.toArray⟩ := by
  apply ByteArray.ext
  show ((lowXs ⟨l.toArray⟩).map fun n => UInt8.ofNat n.toNat).toArray = l.toArray
  congr 1
  unfold lowXs
  rw [List.map_map]
  show l.map _ = l
  refine (List.map_congr_left fun b hb => ?_).trans (List.map_id l)
  have h2 := (h.2 b hb).2.2
  show UInt8.ofNat (lowB (b.toNat : Int)).toNat = b
  unfold lowB
  rw [if_neg (by omega)]
  simp
theorem dig_word (n : Int) : ∀ b ∈ bs (numTextI n), DigB b := by
  intro b hb
  by_cases h : 0 ≤ n ∧ n ≤ 1000000
  · exact (ccNum_in n h.1 h.2).1.2.1 b hb
  · have e : numTextI n = ⟨#[]⟩ := by
      unfold numTextI
      by_cases h0 : n < 0
      · rw [if_pos h0]
      · rw [if_neg h0]
        unfold numText numL
        rw [if_pos (by omega)]
    rw [e] at hb
    simp [bs] at hb
theorem words_ok (c : CcD) : ∀ l ∈ (ccWords c).map bs, WordB l := by
  have g1 : WordB (bs nsW) := ⟨by decide, by decide⟩
  have g2 : WordB (bs ncW) := ⟨by decide, by decide⟩
  have g3 : WordB (bs prW) := ⟨by decide, by decide⟩
  have g4 : WordB (bs muW) := ⟨by decide, by decide⟩
  have g5 : WordB (bs (maW ++ numTextI c.age)) := by
    rw [bs_append]
    refine ⟨by simp [bs, maW], fun b hb => ?_⟩
    rw [List.mem_append] at hb
    rcases hb with hb | hb
    · revert b
      decide
    · have := dig_word _ b hb
      unfold DigB at this
      omega
  intro l hl
  obtain ⟨x, hx, rfl⟩ := List.mem_map.1 hl
  unfold ccWords at hx
  simp only [List.mem_append] at hx
  rcases hx with (((hx | hx) | hx) | hx) | hx
  all_goals
    split at hx
    · obtain rfl := List.mem_singleton.1 hx
      assumption
    · cases hx
theorem split_text (c : CcD) : splitL (joinB (ccWords c)) = ccWords c := by
  have e : bs (joinB (ccWords c)) = joinL ((ccWords c).map bs) := by simp [bs, joinB]
  rw [splitL_sp, e, (spA_join _ (words_ok c)).1, List.map_map]
  refine (List.map_congr_left fun x _ => ?_).trans (List.map_id _)
  apply ByteArray.ext
  simp [bs]
theorem age_word (n : Int) (h : 0 ≤ n ∧ n ≤ 1000000) : ageOf (maW ++ numTextI n) = some n := by
  have e : bs (maW ++ numTextI n) = bs maW ++ bs (numTextI n) := bs_append _ _
  obtain ⟨h1, h2⟩ := ccNum_in n h.1 h.2
  have hd : (⟨((bs (maW ++ numTextI n)).drop 8).toArray⟩ : ByteArray) = numTextI n := by
    rw [e, List.drop_left' (by rfl)]
    apply ByteArray.ext
    simp [bs]
  unfold ageOf
  rw [if_pos (by rw [e, List.take_left' (by rfl)]), hd]
  unfold numV
  rw [if_pos h1, h2]
theorem low_of_word {x : ByteArray} (h : WordB (bs x)) : lowerOf x = x := by
  have e : x = ⟨(bs x).toArray⟩ := by
    apply ByteArray.ext
    simp [bs]
  rw [e, low_word h]
theorem fold_low : ∀ (l : List ByteArray), (∀ x ∈ l, lowerOf x = x) → ∀ c : CcD, l.foldl (fun c x => ccStep c (lowerOf x)) c = l.foldl ccStep c := by
  intro l
  induction l with
  | nil => intro _ c; rfl
  | cons x l ih =>
    intro h c
    rw [List.foldl_cons, List.foldl_cons, h x (by simp)]
    exact ih (fun y hy => h y (by simp [hy])) _
theorem text_bs (x : ByteArray) : (⟨(bs x).toArray⟩ : ByteArray) = x := by
  apply ByteArray.ext
  simp [bs]
/-- What is written is read as it was. -/
theorem cc_read (c : CcD) (h : c.ha = true → 0 ≤ c.age ∧ c.age ≤ 1000000) (h0 : c.ha = false → c.age = 0) : ccR (ccText c) = c := by
  have hW : ∀ x ∈ ccWords c, lowerOf x = x := fun x hx => low_of_word (words_ok c _ (List.mem_map.2 ⟨x, hx, rfl⟩))
  have ht : ccText c = joinB (ccWords c) := by
    unfold ccText
    rw [if_neg (fun e => e.2 (h e.1))]
  unfold ccR
  rw [ht, split_text]
  have hf : ccTo (ccWords c) = (ccWords c).foldl ccStep cc0 := by
    exact fold_low _ hW cc0
  rw [hf]
  obtain ⟨ns, nc, pr, mu, ha, age⟩ := c
  have s1 : ∀ d : CcD, ccStep d nsW = { d with ns := true } := fun d => by unfold ccStep; rw [if_pos rfl]
  have s2 : ∀ d : CcD, ccStep d ncW = { d with nc := true } := fun d => by unfold ccStep; rw [if_neg (by decide), if_pos rfl]
  have s3 : ∀ d : CcD, ccStep d prW = { d with pr := true } := fun d => by unfold ccStep; rw [if_neg (by decide), if_neg (by decide), if_pos rfl]
  have s4 : ∀ d : CcD, ccStep d muW = { d with mu := true } := fun d => by unfold ccStep; rw [if_neg (by decide), if_neg (by decide), if_neg (by decide), if_pos rfl]
  have s5 : ha = true → ∀ d : CcD, d.ha = false → ccStep d (maW ++ numTextI age) = { d with ha := true, age := age } := fun e d hd => by
    have hb : (bs (maW ++ numTextI age)).take 8 = bs maW := by rw [bs_append, List.take_left' (by rfl)]
    have hne : ∀ x : ByteArray, (bs x).take 8 ≠ bs maW → maW ++ numTextI age ≠ x := fun x hx e => hx (by rw [← e]; exact hb)
    unfold ccStep
    rw [if_neg (hne _ (by decide)), if_neg (hne _ (by decide)), if_neg (hne _ (by decide)), if_neg (hne _ (by decide)), age_word age (h e)]
    dsimp only
    rw [if_neg (by rw [hd]; decide)]
  unfold ccWords
  dsimp only at h h0 s5 ⊢
  cases ha with
  | true =>
    have s6 := s5 rfl
    cases ns <;> cases nc <;> cases pr <;> cases mu <;> simp [cc0, s1, s2, s3, s4, s6]
  | false =>
    have e0 := h0 rfl
    subst e0
    cases ns <;> cases nc <;> cases pr <;> cases mu <;> simp [cc0, s1, s2, s3, s4]

/-- Of several lives the least counts. -/
theorem cc_more (v t : ByteArray) (ht : bs t = 44 :: 32 :: bs (maW ++ numTextI 3)) : (ccR (v ++ t)).ha = true ∧ (ccR (v ++ t)).age ≤ 3 ∧ ((ccR v).ha = true → (ccR (v ++ t)).age ≤ (ccR v).age) ∧ (ccR (v ++ t)).ns = (ccR v).ns := by
  have g : WordB (bs (maW ++ numTextI 3)) := words_ok ⟨false, false, false, false, true, 3⟩ _ (by simp [ccWords])
  have hs : splitL (v ++ t) = splitL v ++ [maW ++ numTextI 3] := by
    have h1 := (spA_join [bs (maW ++ numTextI 3)] (by intro l hl; obtain rfl := List.mem_singleton.1 hl; exact g)).2 (by simp)
    rw [splitL_sp, splitL_sp, bs_append, ht, spA_app]
    have h2 : spA [] (32 :: bs (maW ++ numTextI 3)) = [maW ++ numTextI 3] := by
      refine Eq.trans h1 ?_
      rw [List.map_cons, List.map_nil, text_bs]
    rw [h2]
  have hb : (bs (maW ++ numTextI 3)).take 8 = bs maW := by rw [bs_append, List.take_left' (by rfl)]
  have hne : ∀ x : ByteArray, (bs x).take 8 ≠ bs maW → maW ++ numTextI 3 ≠ x := fun x hx e => hx (by rw [← e]; exact hb)
  have hstep : ∀ d : CcD, ccStep d (maW ++ numTextI 3) = if d.ha = true then { d with age := min d.age 3 } else { d with ha := true, age := 3 } := fun d => by
    unfold ccStep
    rw [if_neg (hne _ (by decide)), if_neg (hne _ (by decide)), if_neg (hne _ (by decide)), if_neg (hne _ (by decide)), age_word 3 (by omega)]
  unfold ccR
  rw [hs, ccTo_snoc, low_of_word g, hstep]
  generalize ccTo (splitL v) = c
  obtain ⟨a1, a2, a3, a4, ha, age⟩ := c
  cases ha with
  | true => exact ⟨rfl, by show min age 3 ≤ 3; omega, fun _ => by show min age 3 ≤ age; omega, rfl⟩
  | false => exact ⟨rfl, by show (3 : Int) ≤ 3; omega, (fun e => nomatch e), rfl⟩

end Go.Proofs.Ytfgapdididdcaaa
