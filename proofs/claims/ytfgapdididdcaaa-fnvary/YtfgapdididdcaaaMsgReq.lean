/- 'ReqRead' of the specification: contract over the translation. -/
import Derived.Test.YtfgapdididdcaaaMsgFields
namespace Go.Proofs.Ytfgapdididdcaaa
open Go.RowKit
open Go.Lib hiding intOf

theorem headL_len : ∀ (n : Nat) (r : List UInt8) (out : List (List UInt8)) (cur : List UInt8), r.length ≤ n → ∀ x ∈ (headL out cur r).1, x ∈ out ∨ x.length ≤ cur.length + r.length := by
  intro n
  induction n with
  | zero =>
    intro r out cur h x hx
    rw [headL_short out cur r (by omega)] at hx
    exact .inl hx
  | succ n ih =>
    intro r out cur h x hx
    match r, h with
    | [], _ => exact .inl hx
    | [_], _ => exact .inl hx
    | c :: d :: t, h =>
      rw [headL] at hx
      split at hx
      · split at hx
        · exact .inl hx
        · rcases ih t (out ++ [cur]) [] (by simp at h; omega) x hx with h1 | h1
          · rcases List.mem_append.1 h1 with h2 | h2
            · exact .inl h2
            · simp at h2; subst h2; exact .inr (by omega)
          · exact .inr (by simp at h1 ⊢; omega)
      · rcases ih (d :: t) out (cur ++ [c]) (by simp at h ⊢; omega) x hx with h1 | h1
        · exact .inl h1
        · exact .inr (by simp at h1 ⊢; omega)
theorem wordsL_len : ∀ (r : List UInt8) (out : List (List UInt8)) (cur : List UInt8), ∀ x ∈ wordsL out cur r, x ∈ out ∨ x.length ≤ cur.length + r.length := by
  intro r
  induction r with
  | nil =>
    intro out cur x hx
    rw [wordsL] at hx
    rcases List.mem_append.1 hx with h | h
    · exact .inl h
    · simp at h; subst h; exact .inr (by simp)
  | cons c t ih =>
    intro out cur x hx
    rw [wordsL] at hx
    split at hx
    · rcases ih (out ++ [cur]) [] x hx with h1 | h1
      · rcases List.mem_append.1 h1 with h2 | h2
        · exact .inl h2
        · simp at h2; subst h2; exact .inr (by omega)
      · exact .inr (by simp at h1 ⊢; omega)
    · rcases ih out (cur ++ [c]) x hx with h1 | h1
      · exact .inl h1
      · exact .inr (by simp at h1 ⊢; omega)
theorem fieldL_len : ∀ (n : Nat) (r cur a b : List UInt8), r.length ≤ n → fieldL cur r = some (a, b) → a.length ≤ cur.length + r.length ∧ b.length ≤ r.length := by
  intro n
  induction n with
  | zero =>
    intro r cur a b h he
    rw [fieldL_short cur r (by omega)] at he
    cases he
  | succ n ih =>
    intro r cur a b h he
    match r, h with
    | [], _ => cases he
    | [_], _ => cases he
    | c :: d :: t, h =>
      rw [fieldL] at he
      split at he
      · cases he
        simp; omega
      · have := ih (d :: t) (cur ++ [c]) a b (by simp at h ⊢; omega) he
        simp at this ⊢; omega
theorem fieldsL_len : ∀ (ls : List (List UInt8)), ∀ f ∈ fieldsL ls, ∃ x ∈ ls, f.1.length ≤ x.length ∧ f.2.length ≤ x.length := by
  intro ls
  induction ls with
  | nil => intro f hf; simp [fieldsL] at hf
  | cons l r ih =>
    intro f hf
    rw [fieldsL] at hf
    split at hf
    · rename_i g hg
      split at hf
      · obtain ⟨x, hx, h⟩ := ih f hf
        exact ⟨x, by simp [hx], h⟩
      · rcases List.mem_cons.1 hf with rfl | hf
        · have := fieldL_len l.length l [] f.1 f.2 (Nat.le_refl _) hg
          exact ⟨l, by simp, by simpa using this.1, this.2⟩
        · obtain ⟨x, hx, h⟩ := ih f hf
          exact ⟨x, by simp [hx], h⟩
    · obtain ⟨x, hx, h⟩ := ih f hf
      exact ⟨x, by simp [hx], h⟩
theorem map_bs_inj : ∀ {a b : List ByteArray}, a.map bs = b.map bs → a = b
  | [], [], _ => rfl
  | [], _ :: _, h => by simp at h
  | _ :: _, [], h => by simp at h
  | x :: r, y :: t, h => by
    simp only [List.map_cons, List.cons.injEq] at h
    rw [map_bs_inj h.2, bs_inj h.1]

/-- Which method a word names, of the first k. -/
def methTo (a : ByteArray) : Nat → Int
  | 0 => 0
  | k + 1 => if 1 ≤ k ∧ methB (k : Int) = a then (k : Int) else methTo a k
theorem methTo_of {m : Int} (h : 1 ≤ m ∧ m ≤ 4) : methTo (methB m) 5 = m := by
  rcases meth_cases h with rfl | rfl | rfl | rfl <;> decide
/-- What is read of a text, ahead of the last look: the words of its first line, the fields of the others, what is behind. -/
structure Parts (s : ByteArray) (xs : List ByteArray) (k : Nat) (ws : List ByteArray) (l : List (ByteArray × ByteArray)) : Prop where
  head : headL [] [] (bs s) = (xs.map bs, some ((bs s).drop k))
  ne : xs ≠ []
  words : wordsL [] [] (bs (xs.headD ⟨#[]⟩)) = ws.map bs
  fields : fieldsL (xs.tail.map bs) = l.map bsP
/-- A request's text is read as the request. -/
theorem IsReq.parts {s : ByteArray} {m : Int} {p : ByteArray} {fs : List (ByteArray × ByteArray)} {b : ByteArray} (h : IsReq s m p fs b) {xs : List ByteArray} {k : Nat} {ws : List ByteArray} {l : List (ByteArray × ByteArray)} (hp : Parts s xs k ws l) :
    ∃ x, ws = [methB m, p, x] ∧ l = fs ∧ s.extract k s.size = b := by
  have e := hp.head.symm.trans (req_head h)
  simp only [Prod.mk.injEq, Option.some.injEq] at e
  obtain ⟨e1, e2⟩ := e
  obtain ⟨x0, xr, rfl⟩ : ∃ x0 xr, xs = x0 :: xr := by
    cases xs with
    | nil => exact absurd rfl hp.ne
    | cons a r => exact ⟨a, r, rfl⟩
  simp only [List.map_cons, List.cons.injEq] at e1
  have hw := hp.words
  simp only [List.headD_cons] at hw
  rw [e1.1, req_words h.1.1 h.1.2.1] at hw
  have hf := hp.fields
  simp only [List.tail_cons] at hf
  rw [e1.2, req_fields h.1.2.2.1] at hf
  refine ⟨⟨httpL.toArray⟩, map_bs_inj (by rw [← hw]; rfl), (pairs_inj hf).symm, bs_inj ?_⟩
  rw [bs_extract, List.take_of_length_le (i := s.size) (l := bs s) (by rw [bs_len]; omega)]
  exact e2

/-- What 'ReqRead' answers: the one request whose text this is, or nothing. -/
def ReqIs (s : ByteArray) (w : World) (e : Ending) (w' : World) : Prop :=
  (∃ (m : Int) (p : ByteArray) (fs : List (ByteArray × ByteArray)) (b : ByteArray) (v : Value), e = .returned (.tuple #[.agg #[.int .i64 m, .string p, v, .string b], .bool true]) ∧ IsReq s m p fs b ∧ w'.ownsRow w.heap.size 64 2 v fs.length (flatF fs) ∧ Below w.heap.size w w') ∨
  (e = .returned (.tuple #[.agg #[.int .i64 0, .string ⟨#[]⟩, .slice none 0 0, .string ⟨#[]⟩], .bool false]) ∧ (∀ m p fs b, ¬ IsReq s m p fs b) ∧ Below w.heap.size w w')

theorem slice_of_owns {w : World} {base : Nat} {t : TypeId} {size : Nat} {v : Value} {n : Nat} {xs : List Value} (h : w.ownsRow base t size v n xs) : ∃ oa cp, v = .slice oa n cp := by
  rcases h.2 with ⟨rfl, rfl⟩ | ⟨g, cap, cur, rfl, _⟩
  · exact ⟨none, 0, rfl⟩
  · exact ⟨_, cap, rfl⟩
theorem grown_below {w w' : World} (hb : Below w.heap.size w w') (row : Option Nat) : w.grownBy w' row := ⟨hb.os, hb.tape, hb.output, hb.size, fun k hk _ => hb.block k hk⟩
theorem grown_then {a w w' : World} {row : Option Nat} (h : a.grownBy w row) (k : w.grownBy w' row) : a.grownBy w' row :=
  ⟨k.os.trans h.os, k.tape.trans h.tape, k.output.trans h.output, Nat.le_trans h.size k.size, fun i hi hne => (k.block i (Nat.lt_of_lt_of_le hi h.size) hne).trans (h.block i hi hne)⟩
theorem grown_set (w : World) (r o : Nat) (v : Value) : w.grownBy (w.setCell ⟨r, o, none⟩ v) (some r) :=
  ⟨rfl, rfl, rfl, by simp, fun k _ hk => heap_setCell_other _ _ k _ (fun e => hk (by rw [e]))⟩
theorem below_grown {B r : Nat} {a b : World} (h : a.grownBy b (some r)) (hB : B ≤ a.heap.size) (hr : B ≤ r) : Below B a b :=
  ⟨h.os, h.tape, h.output, h.size, fun k hk => h.block k (by omega) (fun e => by have := Option.some.inj e; omega)⟩
theorem pair_of (fs : List (ByteArray × ByteArray)) (k : Nat) (h : k < fs.length) : (nameAt fs k, valAt fs k) = fs[k] := by
  unfold nameAt valAt
  rw [List.getD_eq_getElem?_getD, List.getElem?_eq_getElem h]
  rfl
theorem methTo_one (a : ByteArray) : methTo a 1 = 0 := by simp [methTo]
theorem methTo_yes {a : ByteArray} {j : Nat} (h1 : 1 ≤ j) (h : methB (j : Int) = a) : methTo a (j + 1) = (j : Int) := by rw [methTo, if_pos ⟨h1, h⟩]
theorem methTo_no {a : ByteArray} {j : Nat} (h : methB (j : Int) ≠ a) : methTo a (j + 1) = methTo a j := by rw [methTo, if_neg (fun e => h e.2)]
/-- Every text of the fields of a text's lines is no longer than the text. -/
theorem walk_fields {s : ByteArray} {xs : List ByteArray} {o : Option (List UInt8)} {l : List (ByteArray × ByteArray)} (hh : headL [] [] (bs s) = (xs.map bs, o)) (hl : fieldsL (xs.tail.map bs) = l.map bsP) (hs : s.size ≤ maxLen) : WalkF l.length l := by
  intro i hi
  have hm : (bs (nameAt l i), bs (valAt l i)) ∈ fieldsL (xs.tail.map bs) := by
    rw [hl]
    exact List.mem_map.2 ⟨l[i], List.getElem_mem hi, by rw [← pair_of l i hi]; rfl⟩
  obtain ⟨x, hx, h1, h2⟩ := fieldsL_len _ _ hm
  obtain ⟨y, hy, rfl⟩ := List.mem_map.1 hx
  have hm2 : bs y ∈ (headL [] [] (bs s)).1 := by rw [hh]; exact List.mem_map_of_mem (List.mem_of_mem_tail hy)
  rcases headL_len _ (bs s) [] [] (Nat.le_refl _) _ hm2 with h3 | h3
  · simp at h3
  · simp only [bs_len, List.length_nil, Nat.zero_add] at h1 h2 h3
    omega
/-- The four cells of a request's memory, written. -/
def fourSet (w : World) (r : Nat) (a b c d : Value) : World := (((w.setCell ⟨r, 0, none⟩ a).setCell ⟨r, 1, none⟩ b).setCell ⟨r, 2, none⟩ c).setCell ⟨r, 3, none⟩ d
theorem four_facts {W : World} {R : Nat} {a b c d : Value} {t : TypeId} (h : W.heap[R]? = some (.cells #[a, b, c, d] t)) :
    (W.cell? ⟨R, 0, none⟩ = some a ∧ W.cell? ⟨R, 1, none⟩ = some b ∧ W.cell? ⟨R, 2, none⟩ = some c ∧ W.cell? ⟨R, 3, none⟩ = some d) ∧ W.frozen? ⟨R, 0, none⟩ = false ∧ W.frozen? ⟨R, 1, none⟩ = false ∧ W.frozen? ⟨R, 2, none⟩ = false ∧ W.frozen? ⟨R, 3, none⟩ = false := by
  refine ⟨⟨?_, ?_, ?_, ?_⟩, ?_, ?_, ?_, ?_⟩ <;> simp [World.cell?, World.frozen?, h]
theorem four_set {W : World} {R : Nat} {a b c d : Value} {t : TypeId} (h : W.heap[R]? = some (.cells #[a, b, c, d] t)) (a' b' c' d' : Value) : (fourSet W R a' b' c' d').heap[R]? = some (.cells #[a', b', c', d'] t) := by
  have := heap_set _ R 3 _ _ _ d' (heap_set _ R 2 _ _ _ c' (heap_set _ R 1 _ _ _ b' (heap_set W R 0 _ _ _ a' h)))
  simpa [fourSet] using this
theorem below_four {w W : World} {B R : Nat} {a b c d : Value} (h : Below B w W) (hR : B ≤ R) : Below B w (fourSet W R a b c d) :=
  (((h.setCell (p := ⟨R, 0, none⟩) hR _).setCell (p := ⟨R, 1, none⟩) hR _).setCell (p := ⟨R, 2, none⟩) hR _).setCell (p := ⟨R, 3, none⟩) hR _

end Go.Proofs.Ytfgapdididdcaaa
