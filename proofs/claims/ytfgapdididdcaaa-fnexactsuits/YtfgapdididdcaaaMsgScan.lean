/- How a text is gone through, place by place: lines, words, fields. No program. -/
import Derived.Test.YtfgapdididdcaaaMsgPlain
namespace Go.Proofs.Ytfgapdididdcaaa
open Go.RowKit

theorem bs_extract (s : ByteArray) (f j : Nat) : bs (s.extract f j) = ((bs s).take j).drop f := by
  simp [bs, List.drop_take]
theorem bs_at (s : ByteArray) (j : Nat) (h : j < s.size) : (bs s)[j]'(by rw [bs_len]; exact h) = s[j]'h := rfl
theorem bs_drop (s : ByteArray) (j : Nat) (h : j < s.size) : (bs s).drop j = s[j]'h :: (bs s).drop (j + 1) := by
  rw [List.drop_eq_getElem_cons (by rw [bs_len]; exact h), bs_at s j h]
theorem take_snoc (s : ByteArray) (f j : Nat) (hf : f ≤ j) (h : j < s.size) : ((bs s).take (j + 1)).drop f = ((bs s).take j).drop f ++ [s[j]'h] := by
  have hl : j < (bs s).length := by rw [bs_len]; exact h
  rw [List.take_succ_eq_append_getElem hl, List.drop_append_of_le_length (by rw [List.length_take]; omega), bs_at s j h]
theorem take_none (s : ByteArray) (k : Nat) : ((bs s).take k).drop k = [] := by
  apply List.drop_eq_nil_of_le
  rw [List.length_take]; omega
theorem u8_eq (b : UInt8) (n : Nat) (hn : n < 256) : b = UInt8.ofNat n ↔ b.toNat = n := by
  constructor
  · intro h; rw [h, UInt8.toNat_ofNat']; omega
  · intro h; rw [← h]; simp

def HdInv (s : ByteArray) (l : List ByteArray) (f j : Nat) : Prop :=
  headL [] [] (bs s) = headL (l.map bs) (((bs s).take (max j f)).drop f) ((bs s).drop (max j f))
theorem hd_start (s : ByteArray) : HdInv s [] 0 0 := by simp [HdInv]
theorem hd_skip {s : ByteArray} {l : List ByteArray} {f j : Nat} (hf : f = j + 1) (h : HdInv s l f j) : HdInv s l f (j + 1) := by
  unfold HdInv at *
  rw [show max (j + 1) f = max j f by omega]; exact h
theorem hd_other {s : ByteArray} {l : List ByteArray} {f j : Nat} (hf : f ≤ j) (hj : j + 1 < s.size) (hn : ¬ ((s[j]'(by omega)).toNat = 13 ∧ (s[j + 1]'hj).toNat = 10)) (h : HdInv s l f j) : HdInv s l f (j + 1) := by
  unfold HdInv at *
  rw [show max j f = j by omega, bs_drop s j (by omega), bs_drop s (j + 1) hj, headL, if_neg (fun e => hn ⟨(u8_eq _ 13 (by omega)).1 e.1, (u8_eq _ 10 (by omega)).1 e.2⟩)] at h
  rw [h, show max (j + 1) f = j + 1 by omega, take_snoc s f j hf (by omega), bs_drop s (j + 1) hj]
theorem hd_line {s : ByteArray} {l : List ByteArray} {f j : Nat} (hf : f < j) (hj : j + 1 < s.size) (h1 : (s[j]'(by omega)).toNat = 13) (h2 : (s[j + 1]'hj).toNat = 10) (h : HdInv s l f j) : HdInv s (l ++ [s.extract f j]) (j + 2) (j + 1) := by
  unfold HdInv at *
  have hne : ((bs s).take j).drop f ≠ [] := fun e => by
    have := congrArg List.length e
    rw [List.length_drop, List.length_take, bs_len] at this
    simp at this; omega
  rw [show max j f = j by omega, bs_drop s j (by omega), bs_drop s (j + 1) hj, headL, if_pos ⟨(u8_eq _ 13 (by omega)).2 h1, (u8_eq _ 10 (by omega)).2 h2⟩, if_neg hne] at h
  rw [h, show max (j + 1) (j + 2) = j + 2 by omega, take_none, List.map_append, List.map_cons, List.map_nil, bs_extract]
theorem hd_fin {s : ByteArray} {l : List ByteArray} {f j : Nat} (hf : f = j) (hj : j + 1 < s.size) (h1 : (s[j]'(by omega)).toNat = 13) (h2 : (s[j + 1]'hj).toNat = 10) (h : HdInv s l f j) : headL [] [] (bs s) = (l.map bs, some ((bs s).drop (j + 2))) := by
  unfold HdInv at h
  subst hf
  rw [show max f f = f by omega, take_none, bs_drop s f (by omega), bs_drop s (f + 1) hj, headL, if_pos ⟨(u8_eq _ 13 (by omega)).2 h1, (u8_eq _ 10 (by omega)).2 h2⟩, if_pos rfl] at h
  exact h
theorem headL_short (out : List (List UInt8)) (cur r : List UInt8) (h : r.length ≤ 1) : headL out cur r = (out, none) := by
  match r, h with
  | [], _ => rfl
  | [_], _ => rfl
  | _ :: _ :: _, h => simp at h
theorem hd_end {s : ByteArray} {l : List ByteArray} {f j : Nat} (hj : ¬ j + 1 < s.size) (h : HdInv s l f j) : headL [] [] (bs s) = (l.map bs, none) := by
  unfold HdInv at h
  rw [h, headL_short]
  rw [List.length_drop, bs_len]; omega

def WdInv (s : ByteArray) (l : List ByteArray) (f k : Nat) : Prop :=
  if k ≤ s.size then wordsL [] [] (bs s) = wordsL (l.map bs) (((bs s).take k).drop f) ((bs s).drop k) else wordsL [] [] (bs s) = l.map bs
theorem wd_start (s : ByteArray) : WdInv s [] 0 0 := by simp [WdInv]
theorem wd_blank {s : ByteArray} {l : List ByteArray} {f k : Nat} (hk : k < s.size) (hc : (s[k]'hk).toNat = 32) (h : WdInv s l f k) : WdInv s (l ++ [s.extract f k]) (k + 1) (k + 1) := by
  unfold WdInv at *
  rw [if_pos (by omega), bs_drop s k hk, wordsL, if_pos (show s[k]'hk = 32 from (u8_eq _ 32 (by omega)).2 hc)] at h
  rw [if_pos (by omega), h, take_none, List.map_append, List.map_cons, List.map_nil, bs_extract]
theorem wd_last {s : ByteArray} {l : List ByteArray} {f k : Nat} (hk : k = s.size) (h : WdInv s l f k) : WdInv s (l ++ [s.extract f k]) (k + 1) (k + 1) := by
  unfold WdInv at *
  rw [if_pos (by omega), (show (bs s).drop k = [] from List.drop_eq_nil_of_le (by rw [bs_len]; omega)), wordsL] at h
  rw [if_neg (by omega), h, List.map_append, List.map_cons, List.map_nil, bs_extract]
theorem wd_other {s : ByteArray} {l : List ByteArray} {f k : Nat} (hf : f ≤ k) (hk : k < s.size) (hc : (s[k]'hk).toNat ≠ 32) (h : WdInv s l f k) : WdInv s l f (k + 1) := by
  unfold WdInv at *
  rw [if_pos (by omega), bs_drop s k hk, wordsL, if_neg (show ¬ s[k]'hk = 32 from fun e => hc ((u8_eq _ 32 (by omega)).1 e))] at h
  rw [if_pos (by omega), h, take_snoc s f k hf hk]
theorem wd_end {s : ByteArray} {l : List ByteArray} {f k : Nat} (hk : ¬ k ≤ s.size) (h : WdInv s l f k) : wordsL [] [] (bs s) = l.map bs := by
  unfold WdInv at h
  rwa [if_neg hk] at h

def FdInv (s : ByteArray) (k : Nat) : Prop := fieldL [] (bs s) = fieldL ((bs s).take k) ((bs s).drop k)
theorem fd_start (s : ByteArray) : FdInv s 0 := by simp [FdInv]
theorem fd_other {s : ByteArray} {k : Nat} (hk : k + 1 < s.size) (hn : ¬ ((s[k]'(by omega)).toNat = 58 ∧ (s[k + 1]'hk).toNat = 32)) (h : FdInv s k) : FdInv s (k + 1) := by
  unfold FdInv at *
  rw [bs_drop s k (by omega), bs_drop s (k + 1) hk, fieldL, if_neg (fun e => hn ⟨(u8_eq _ 58 (by omega)).1 e.1, (u8_eq _ 32 (by omega)).1 e.2⟩)] at h
  have := take_snoc s 0 k (Nat.zero_le _) (by omega)
  simp only [List.drop_zero] at this
  rw [h, this, bs_drop s (k + 1) hk]
theorem fd_cut {s : ByteArray} {k : Nat} (hk : k + 1 < s.size) (h1 : (s[k]'(by omega)).toNat = 58) (h2 : (s[k + 1]'hk).toNat = 32) (h : FdInv s k) : fieldL [] (bs s) = some (bs (s.extract 0 k), bs (s.extract (k + 2) s.size)) := by
  unfold FdInv at h
  rw [bs_drop s k (by omega), bs_drop s (k + 1) hk, fieldL, if_pos ⟨(u8_eq _ 58 (by omega)).2 h1, (u8_eq _ 32 (by omega)).2 h2⟩] at h
  rw [h, bs_extract, bs_extract, List.drop_zero, List.take_of_length_le (i := s.size) (l := bs s) (by rw [bs_len]; omega)]
theorem fieldL_short (cur r : List UInt8) (h : r.length ≤ 1) : fieldL cur r = none := by
  match r, h with
  | [], _ => rfl
  | [_], _ => rfl
  | _ :: _ :: _, h => simp at h
theorem fd_end {s : ByteArray} {k : Nat} (hk : ¬ k + 1 < s.size) (h : FdInv s k) : fieldL [] (bs s) = none := by
  unfold FdInv at h
  rw [h, fieldL_short]
  rw [List.length_drop, bs_len]; omega

def bsP (f : ByteArray × ByteArray) : List UInt8 × List UInt8 := (bs f.1, bs f.2)
/-- The first i lines have been looked at. -/
def GdInv (lines : List ByteArray) (l : List (ByteArray × ByteArray)) (i : Nat) : Prop := fieldsL (lines.map bs) = l.map bsP ++ fieldsL ((lines.drop i).map bs)
theorem gd_start (lines : List ByteArray) : GdInv lines [] 0 := by simp [GdInv]
theorem gd_none {lines : List ByteArray} {l : List (ByteArray × ByteArray)} {i : Nat} (hi : i < lines.length) (hf : fieldL [] (bs (lines[i]'hi)) = none) (h : GdInv lines l i) : GdInv lines l (i + 1) := by
  unfold GdInv at *
  rw [h, List.drop_eq_getElem_cons hi, List.map_cons, fieldsL, hf]
theorem gd_clen {lines : List ByteArray} {l : List (ByteArray × ByteArray)} {i : Nat} {nm vl : ByteArray} (hi : i < lines.length) (hf : fieldL [] (bs (lines[i]'hi)) = some (bs nm, bs vl)) (hn : nm = clen) (h : GdInv lines l i) : GdInv lines l (i + 1) := by
  unfold GdInv at *
  rw [h, List.drop_eq_getElem_cons hi, List.map_cons, fieldsL, hf]
  simp only
  rw [if_pos (by rw [hn]; rfl)]
theorem gd_some {lines : List ByteArray} {l : List (ByteArray × ByteArray)} {i : Nat} {nm vl : ByteArray} (hi : i < lines.length) (hf : fieldL [] (bs (lines[i]'hi)) = some (bs nm, bs vl)) (hn : nm ≠ clen) (h : GdInv lines l i) : GdInv lines (l ++ [(nm, vl)]) (i + 1) := by
  unfold GdInv at *
  rw [h, List.drop_eq_getElem_cons hi, List.map_cons, fieldsL, hf]
  simp only
  rw [if_neg (fun e => hn (bs_inj (by rw [e]; rfl)))]
  simp [bsP]
theorem gd_end {lines : List ByteArray} {l : List (ByteArray × ByteArray)} {i : Nat} (hi : lines.length ≤ i) (h : GdInv lines l i) : fieldsL (lines.map bs) = l.map bsP := by
  unfold GdInv at h
  rw [h, List.drop_eq_nil_of_le hi]
  simp [fieldsL]

end Go.Proofs.Ytfgapdididdcaaa
