/- 'RespRead' of the specification: contract over the translation. -/
import Derived.Test.YtacfajnagbeocaaGreatDoorMsgLaw
namespace Go.Proofs.YtacfajnagbeocaaGreatDoor
open Go.RowKit
open Go.Lib hiding intOf

theorem num_ok (n : Nat) (h : n ≤ 1000000) : NumOk (numText n) := by
  have hd := numL_dig n h
  have hv := numL_val n h
  have hl : (numL n).length ≤ 7 := by
    unfold numL at *
    rw [if_neg (by omega)] at *
    by_cases h0 : n = 0
    · rw [if_pos h0]; simp
    · rw [if_neg h0] at *
      have hh := (dg_facts 8 n (by omega)).1
      have h3 := val_ge (dgF 8 n) hd.2 hh hd.1
      rw [hv] at h3
      rcases Nat.lt_or_ge 7 (dgF 8 n).length with h4 | h4
      · have := Nat.pow_le_pow_right (show 0 < 10 by omega) (show 7 ≤ (dgF 8 n).length - 1 by omega)
        omega
      · exact h4
  have hs : (numText n).size = (numL n).length := by simp [numText, ByteArray.size]
  have h1 : 1 ≤ (numText n).size := by
    rw [hs]
    exact List.length_pos_iff.2 hd.1
  refine (num_iff (numText n) h1 (by omega) hd.2).1 ?_
  show numText (valL (numL n)) = numText n
  rw [hv]
/-- An answer's text is read as the answer. -/
theorem IsResp.parts {s : ByteArray} {st : Int} {fs : List (ByteArray × ByteArray)} {b : ByteArray} (h : IsResp s st fs b) {xs : List ByteArray} {k : Nat} {ws : List ByteArray} {l : List (ByteArray × ByteArray)} (hp : Parts s xs k ws l) :
    ∃ x y, ws = [x, numText st.toNat, y] ∧ l = fs ∧ s.extract k s.size = b := by
  have e := hp.head.symm.trans (resp_head h)
  simp only [Prod.mk.injEq, Option.some.injEq] at e
  obtain ⟨e1, e2⟩ := e
  obtain ⟨x0, xr, rfl⟩ : ∃ x0 xr, xs = x0 :: xr := by
    cases xs with
    | nil => exact absurd rfl hp.ne
    | cons a r => exact ⟨a, r, rfl⟩
  simp only [List.map_cons, List.cons.injEq] at e1
  have hw := hp.words
  simp only [List.headD_cons] at hw
  rw [e1.1, resp_words h.1.1] at hw
  have hf := hp.fields
  simp only [List.tail_cons] at hf
  rw [e1.2, resp_fields h.1.2.1] at hf
  refine ⟨⟨httpL.toArray⟩, ⟨#[46]⟩, map_bs_inj (by rw [← hw]; rfl), (pairs_inj hf).symm, bs_inj ?_⟩
  rw [bs_extract, List.take_of_length_le (i := s.size) (l := bs s) (by rw [bs_len]; omega)]
  exact e2
/-- What 'RespRead' answers: the one answer whose text this is, or nothing. -/
def RespIs (s : ByteArray) (w : World) (e : Ending) (w' : World) : Prop :=
  (∃ (m : Int) (fs : List (ByteArray × ByteArray)) (b : ByteArray) (v : Value), e = .returned (.tuple #[.agg #[.int .i64 m, v, .string b], .bool true]) ∧ IsResp s m fs b ∧ w'.ownsRow w.heap.size 63 2 v fs.length (flatF fs) ∧ Below w.heap.size w w') ∨
  (e = .returned (.tuple #[.agg #[.int .i64 0, .slice none 0 0, .string ⟨#[]⟩], .bool false]) ∧ (∀ m fs b, ¬ IsResp s m fs b) ∧ Below w.heap.size w w')

end Go.Proofs.YtacfajnagbeocaaGreatDoor
