/- 'ReqRead' of the specification: contract over the translation. -/
import Derived.Test.YtacfajnagbeocaaGreatDoorMsgFields
namespace Go.Proofs.YtacfajnagbeocaaGreatDoor
open Go.RowKit
open Go.Lib hiding intOf

theorem headL_len : ∀ (n : Nat) (r : List UInt8) (out : List (List UInt8)) (cur : List UInt8), r.length ≤ n → ∀ x ∈ (headL out cur r).1, x ∈ out ∨ x.length ≤ cur.length + r.length := by
  intro n
  induction n with
  | zero =>
    intro r out cur h x hx
    rw [headL_short out cur r (by omega)] at hx
    exact .inl hx
  | succ n ih =>
    intro r out cur h x hx
    match r, h with
    | [], _ => exact .inl hx
    | [_], _ => exact .inl hx
    | c :: d :: t, h =>
      rw [headL] at hx
      split at hx
      · split at hx
        · exact .inl hx
        · rcases ih t (out ++ [cur]) [] (by simp at h; omega) x hx with h1 | h1
          · rcases List.mem_append.1 h1 with h2 | h2
            · exact .inl h2
            · simp at h2; subst h2; exact .inr (by omega)
          · exact .inr (by simp at h1 ⊢; omega)
      · rcases ih (d :: t) out (cur ++ [c]) (by simp at h ⊢; omega) x hx with h1 | h1
        · exact .inl h1
        · exact .inr (by simp at h1 ⊢; omega)
theorem wordsL_len : ∀ (r : List UInt8) (out : List (List UInt8)) (cur : List UInt8), ∀ x ∈ wordsL out cur r, x ∈ out ∨ x.length ≤ cur.length + r.length := by
  intro r
  induction r with
  | nil =>
    intro out cur x hx
    rw [wordsL] at hx
    rcases List.mem_append.1 hx with h | h
    · exact .inl h
    · simp at h; subst h; exact .inr (by simp)
  | cons c t ih =>
    intro out cur x hx
    rw [wordsL] at hx
    split at hx
    · rcases ih (out ++ [cur]) [] x hx with h1 | h1
      · rcases List.mem_append.1 h1 with h2 | h2
        · exact .inl h2
        · simp at h2; subst h2; exact .inr (by omega)
      · exact .inr (by simp at h1 ⊢; omega)
    · rcases ih out (cur ++ [c]) x hx with h1 | h1
      · exact .inl h1
      · exact .inr (by simp at h1 ⊢; omega)
theorem fieldL_len : ∀ (n : Nat) (r cur a b : List UInt8), r.length ≤ n → fieldL cur r = some (a, b) → a.length ≤ cur.length + r.length ∧ b.length ≤ r.length := by
  intro n
  induction n with
  | zero =>
    intro r cur a b h he
    rw [fieldL_short cur r (by omega)] at he
    cases he
  | succ n ih =>
    intro r cur a b h he
    match r, h with
    | [], _ => cases he
    | [_], _ => cases he
    | c :: d :: t, h =>
      rw [fieldL] at he
      split at he
      · cases he
        simp; omega
      · have := ih (d :: t) (cur ++ [c]) a b (by simp at h ⊢; omega) he
        simp at this ⊢; omega
theorem fieldsL_len : ∀ (ls : List (List UInt8)), ∀ f ∈ fieldsL ls, ∃ x ∈ ls, f.1.length ≤ x.length ∧ f.2.length ≤ x.length := by
  intro ls
  induction ls with
  | nil => intro f hf; simp [fieldsL] at hf
  | cons l r ih =>
    intro f hf
    rw [fieldsL] at hf
    split at hf
    · rename_i g hg
      split at hf
      · obtain ⟨x, hx, h⟩ := ih f hf
        exact ⟨x, by simp [hx], h⟩
      · rcases List.mem_cons.1 hf with rfl | hf
        · have := fieldL_len l.length l [] f.1 f.2 (Nat.le_refl _) hg
          exact ⟨l, by simp, by simpa using this.1, this.2⟩
        · obtain ⟨x, hx, h⟩ := ih f hf
          exact ⟨x, by simp [hx], h⟩
    · obtain ⟨x, hx, h⟩ := ih f hf
      exact ⟨x, by simp [hx], h⟩
theorem map_bs_inj : ∀ {a b : List ByteArray}, a.map bs = b.map bs → a = b
  | [], [], _ => rfl
  | [], _ :: _, h => by simp at h
  | _ :: _, [], h => by simp at h
  | x :: r, y :: t, h => by
    simp only [List.map_cons, List.cons.injEq] at h
    rw [map_bs_inj h.2, bs_inj h.1]

/-- Which method a word names, of the first k. -/
def methTo (a : ByteArray) : Nat → Int
  | 0 => 0
  | k + 1 => if 1 ≤ k ∧ methB (k : Int) = a then (k : Int) else methTo a k
theorem methTo_of {m : Int} (h : 1 ≤ m ∧ m ≤ 4) : methTo (methB m) 5 = m := by
  rcases meth_cases h with rfl | rfl | rfl | rfl <;> decide
/-- What is read of a text, ahead of the last look: the words of its first line, the fields of the others, what is behind. -/
structure Parts (s : ByteArray) (xs : List ByteArray) (k : Nat) (ws : List ByteArray) (l : List (ByteArray × ByteArray)) : Prop where
  head : headL [] [] (bs s) = (xs.map bs, some ((bs s).drop k))
  ne : xs ≠ []
  words : wordsL [] [] (bs (xs.headD ⟨#[]⟩)) = ws.map bs
  fields : fieldsL (xs.tail.map bs) = l.map bsP
/-- A request's text is read as the request. -/
theorem IsReq.parts {s : ByteArray} {m : Int} {p : ByteArray} {fs : List (ByteArray × ByteArray)} {b : ByteArray} (h : IsReq s m p fs b) {xs : List ByteArray} {k : Nat} {ws : List ByteArray} {l : List (ByteArray × ByteArray)} (hp : Parts s xs k ws l) :
    ∃ x, ws = [methB m, p, x] ∧ l = fs ∧ s.extract k s.size = b := by
  have e := hp.head.symm.trans (req_head h)
  simp only [Prod.mk.injEq, Option.some.injEq] at e
  obtain ⟨e1, e2⟩ := e
  obtain ⟨x0, xr, rfl⟩ : ∃ x0 xr, xs = x0 :: xr := by
    cases xs with
    | nil => exact absurd rfl hp.ne
    | cons a r => exact ⟨a, r, rfl⟩
  simp only [List.map_cons, List.cons.injEq] at e1
  have hw := hp.words
  simp only [List.headD_cons] at hw
  rw [e1.1, req_words h.1.1 h.1.2.1] at hw
  have hf := hp.fields
  simp only [List.tail_cons] at hf
  rw [e1.2, req_fields h.1.2.2.1] at hf
  refine ⟨⟨httpL.toArray⟩, map_bs_inj (by rw [← hw]; rfl), (pairs_inj hf).symm, bs_inj ?_⟩
  rw [bs_extract, List.take_of_length_le (i := s.size) (l := bs s) (by rw [bs_len]; omega)]
  exact e2

/-- What 'ReqRead' answers: the one request whose text this is, or nothing. -/
def ReqIs (s : ByteArray) (w : World) (e : Ending) (w' : World) : Prop :=
  (∃ (m : Int) (p : ByteArray) (fs : List (ByteArray × ByteArray)) (b : ByteArray) (v : Value), e = .returned (.tuple #[.agg #[.int .i64 m, .string p, v, .string b], .bool true]) ∧ IsReq s m p fs b ∧ w'.ownsRow w.heap.size 63 2 v fs.length (flatF fs) ∧ Below w.heap.size w w') ∨
  (e = .returned (.tuple #[.agg #[.int .i64 0, .string ⟨#[]⟩, .slice none 0 0, .string ⟨#[]⟩], .bool false]) ∧ (∀ m p fs b, ¬ IsReq s m p fs b) ∧ Below w.heap.size w w')

theorem slice_of_owns {w : World} {base : Nat} {t : TypeId} {size : Nat} {v : Value} {n : Nat} {xs : List Value} (h : w.ownsRow base t size v n xs) : ∃ oa cp, v = .slice oa n cp := by
  rcases h.2 with ⟨rfl, rfl⟩ | ⟨g, cap, cur, rfl, _⟩
  · exact ⟨none, 0, rfl⟩
  · exact ⟨_, cap, rfl⟩
theorem grown_below {w w' : World} (hb : Below w.heap.size w w') (row : Option Nat) : w.grownBy w' row := ⟨hb.os, hb.tape, hb.output, hb.size, fun k hk _ => hb.block k hk⟩
theorem grown_then {a w w' : World} {row : Option Nat} (h : a.grownBy w row) (k : w.grownBy w' row) : a.grownBy w' row :=
  ⟨k.os.trans h.os, k.tape.trans h.tape, k.output.trans h.output, Nat.le_trans h.size k.size, fun i hi hne => (k.block i (Nat.lt_of_lt_of_le hi h.size) hne).trans (h.block i hi hne)⟩
theorem grown_set (w : World) (r o : Nat) (v : Value) : w.grownBy (w.setCell ⟨r, o, none⟩ v) (some r) :=
  ⟨rfl, rfl, rfl, by simp, fun k _ hk => heap_setCell_other _ _ k _ (fun e => hk (by rw [e]))⟩
theorem below_grown {B r : Nat} {a b : World} (h : a.grownBy b (some r)) (hB : B ≤ a.heap.size) (hr : B ≤ r) : Below B a b :=
  ⟨h.os, h.tape, h.output, h.size, fun k hk => h.block k (by omega) (fun e => by have := Option.some.inj e; omega)⟩
theorem pair_of (fs : List (ByteArray × ByteArray)) (k : Nat) (h : k < fs.length) : (nameAt fs k, valAt fs k) = fs[k] := by
  unfold nameAt valAt
  rw [List.getD_eq_getElem?_getD, List.getElem?_eq_getElem h]
  rfl
theorem methTo_one (a : ByteArray) : methTo a 1 = 0 := by simp [methTo]
theorem methTo_yes {a : ByteArray} {j : Nat} (h1 : 1 ≤ j) (h : methB (j : Int) = a) : methTo a (j + 1) = (j : Int) := by rw [methTo, if_pos ⟨h1, h⟩]
theorem methTo_no {a : ByteArray} {j : Nat} (h : methB (j : Int) ≠ a) : methTo a (j + 1) = methTo a j := by rw [methTo, if_neg (fun e => h e.2)]
/-- Every text of the fields of a text's lines is no longer than the text. -/
theorem walk_fields {s : ByteArray} {xs : List ByteArray} {o : Option (List UInt8)} {l : List (ByteArray × ByteArray)} (hh : headL [] [] (bs s) = (xs.map bs, o)) (hl : fieldsL (xs.tail.map bs) = l.map bsP) (hs : s.size ≤ maxLen) : WalkF l.length l := by
  intro i hi
  have hm : (bs (nameAt l i), bs (valAt l i)) ∈ fieldsL (xs.tail.map bs) := by
    rw [hl]
    exact List.mem_map.2 ⟨l[i], List.getElem_mem hi, by rw [← pair_of l i hi]; rfl⟩
  obtain ⟨x, hx, h1, h2⟩ := fieldsL_len _ _ hm
  obtain ⟨y, hy, rfl⟩ := List.mem_map.1 hx
  have hm2 : bs y ∈ (headL [] [] (bs s)).1 := by rw [hh]; exact List.mem_map_of_mem (List.mem_of_mem_tail hy)
  rcases headL_len _ (bs s) [] [] (Nat.le_refl _) _ hm2 with h3 | h3
  · simp at h3
  · simp only [bs_len, List.length_nil, Nat.zero_add] at h1 h2 h3
    omega
/-- The four cells of a request's memory, written. -/
def fourSet (w : World) (r : Nat) (a b c d : Value) : World := (((w.setCell ⟨r, 0, none⟩ a).setCell ⟨r, 1, none⟩ b).setCell ⟨r, 2, none⟩ c).setCell ⟨r, 3, none⟩ d
theorem four_facts {W : World} {R : Nat} {a b c d : Value} {t : TypeId} (h : W.heap[R]? = some (.cells #[a, b, c, d] t)) :
    (W.cell? ⟨R, 0, none⟩ = some a ∧ W.cell? ⟨R, 1, none⟩ = some b ∧ W.cell? ⟨R, 2, none⟩ = some c ∧ W.cell? ⟨R, 3, none⟩ = some d) ∧ W.frozen? ⟨R, 0, none⟩ = false ∧ W.frozen? ⟨R, 1, none⟩ = false ∧ W.frozen? ⟨R, 2, none⟩ = false ∧ W.frozen? ⟨R, 3, none⟩ = false := by
  refine ⟨⟨?_, ?_, ?_, ?_⟩, ?_, ?_, ?_, ?_⟩ <;> simp [World.cell?, World.frozen?, h]
theorem four_set {W : World} {R : Nat} {a b c d : Value} {t : TypeId} (h : W.heap[R]? = some (.cells #[a, b, c, d] t)) (a' b' c' d' : Value) : (fourSet W R a' b' c' d').heap[R]? = some (.cells #[a', b', c', d'] t) := by
  have := heap_set _ R 3 _ _ _ d' (heap_set _ R 2 _ _ _ c' (heap_set _ R 1 _ _ _ b' (heap_set W R 0 _ _ _ a' h)))
  simpa [fourSet] using this
theorem below_four {w W : World} {B R : Nat} {a b c d : Value} (h : Below B w W) (hR : B ≤ R) : Below B w (fourSet W R a b c d) :=
  (((h.setCell (p := ⟨R, 0, none⟩) hR _).setCell (p := ⟨R, 1, none⟩) hR _).setCell (p := ⟨R, 2, none⟩) hR _).setCell (p := ⟨R, 3, none⟩) hR _

set_option maxHeartbeats 400000 in
set_option maxRecDepth 100000 in
theorem specReqRead_any (s : ByteArray) (w : World) (hs : s.size ≤ 3000000) :
    Calls Tryz.prog 14 #[.string s] w fun e w' => ReqIs s w e w' := by
  obtain ⟨R, hR⟩ : ∃ R, R = w.heap.size := ⟨_, rfl⟩
  have hRw : w.heap.size ≤ R := by omega
  have HZ : Hid (∀ W, Below (w.alloc (.cells #[.int .i64 0, .string ⟨#[]⟩, .slice none 0 0, .string ⟨#[]⟩] 37)).heap.size (w.alloc (.cells #[.int .i64 0, .string ⟨#[]⟩, .slice none 0 0, .string ⟨#[]⟩] 37)) W → W.heap[R]? = some (.cells #[.int .i64 0, .string ⟨#[]⟩, .slice none 0 0, .string ⟨#[]⟩] 37) ∧ Below w.heap.size w W) := fun W h => ⟨by rw [hR]; exact kept_new h, below_new h⟩
  have hZs : w.heap.size ≤ (w.alloc (.cells #[.int .i64 0, .string ⟨#[]⟩, .slice none 0 0, .string ⟨#[]⟩] 37)).heap.size := by simp
  go_enter Tryz.func14, Tryz.ntmps14
  go_wp2_with fail
  refine (l3Head_any s _ (by omega)).mono ?_
  rintro e w1 ⟨v, xs, at0, rfl, hown1, hxl, bb1, hd⟩
  rw [← hR]
  clear hR
  rcases hd with ⟨rfl, hh⟩ | ⟨k, rfl, hk, hh⟩
  · obtain ⟨z, hbz⟩ := HZ.out w1 bb1
    obtain ⟨⟨c0, c1, c2, c3⟩, f0, f1, f2, f3⟩ := four_facts z
    obtain ⟨⟨k0, k1, k2, k3⟩, _⟩ := four_facts (four_set z (.int .i64 0) (.string ⟨#[]⟩) (.slice none 0 0) (.string ⟨#[]⟩))
    have HB4 : Hid (Below w.heap.size w (fourSet w1 R (.int .i64 0) (.string ⟨#[]⟩) (.slice none 0 0) (.string ⟨#[]⟩))) := below_four hbz hRw
    have HNO : Hid (∀ m p fs b, ¬ IsReq s m p fs b) := fun m p fs b h => by
          have e := hh.symm.trans (req_head h)
          simp at e
    unfold fourSet at k0 k1 k2 k3
    clear z hbz HZ hh hown1 bb1
    go_wp2_with fail
    exact bodyPost_ret (v := .tuple #[.agg #[.int .i64 0, .string ⟨#[]⟩, .slice none 0 0, .string ⟨#[]⟩], .bool false]) (by simp [results, Tryz.results14, go_sem, k0, k1, k2, k3]) rfl (.inr ⟨rfl, HNO.out, HB4.out⟩)
  · by_cases hx0 : xs = []
    · subst hx0
      obtain ⟨oa, cp, rfl, _, _⟩ | ⟨g, cp, _, h0, _⟩ := row_form hown1
      · obtain ⟨z, hbz⟩ := HZ.out w1 bb1
        obtain ⟨⟨c0, c1, c2, c3⟩, f0, f1, f2, f3⟩ := four_facts z
        obtain ⟨⟨k0, k1, k2, k3⟩, _⟩ := four_facts (four_set z (.int .i64 0) (.string ⟨#[]⟩) (.slice none 0 0) (.string ⟨#[]⟩))
        have HB4 : Hid (Below w.heap.size w (fourSet w1 R (.int .i64 0) (.string ⟨#[]⟩) (.slice none 0 0) (.string ⟨#[]⟩))) := below_four hbz hRw
        have HNO : Hid (∀ m p fs b, ¬ IsReq s m p fs b) := fun m p fs b h => by
                  have e := hh.symm.trans (req_head h)
                  simp at e
        unfold fourSet at k0 k1 k2 k3
        clear z hbz HZ hh hown1 bb1
        go_wp2_with fail
        exact bodyPost_ret (v := .tuple #[.agg #[.int .i64 0, .string ⟨#[]⟩, .slice none 0 0, .string ⟨#[]⟩], .bool false]) (by simp [results, Tryz.results14, go_sem, k0, k1, k2, k3]) rfl (.inr ⟨rfl, HNO.out, HB4.out⟩)
      · simp at h0
    · have hxn : 0 < xs.length := List.length_pos_iff.2 hx0
      obtain ⟨_, _, _, h0, _⟩ | ⟨g, cp, rfl, _, row1⟩ := row_form hown1
      · omega
      obtain ⟨x0, hx⟩ : ∃ y, y = textAt xs 0 := ⟨_, rfl⟩
      have hc0 := row1.cell 0 hxn
      rw [← hx] at hc0
      have hxb : bs x0 ∈ (headL [] [] (bs s)).1 := by
        rw [hh, hx]
        cases xs with
        | nil => exact absurd rfl hx0
        | cons y r => simp [textAt]
      have hx0s : x0.size ≤ s.size := by
        rcases headL_len _ (bs s) [] [] (Nat.le_refl _) _ hxb with h1 | h1
        · simp at h1
        · rw [bs_len, bs_len] at h1; simpa using h1
      have HB1 : Hid (Below (w.alloc (.cells #[.int .i64 0, .string ⟨#[]⟩, .slice none 0 0, .string ⟨#[]⟩] 37)).heap.size (w.alloc (.cells #[.int .i64 0, .string ⟨#[]⟩, .slice none 0 0, .string ⟨#[]⟩] 37)) w1) := bb1
      have HROW1 : Hid (TextRow (w.alloc (.cells #[.int .i64 0, .string ⟨#[]⟩, .slice none 0 0, .string ⟨#[]⟩] 37)).heap.size w1 g xs.length cp xs) := row1
      have HX : Hid (x0 = textAt xs 0) := hx
      have HH : Hid (headL [] [] (bs s) = (xs.map bs, some ((bs s).drop k))) := hh
      have HN0 : Hid (xs ≠ []) := hx0
      clear hx hh hx0
      obtain ⟨nx, hnx⟩ : ∃ y, y = xs.length := ⟨_, rfl⟩
      have HNX : Hid (nx = xs.length) := hnx
      rw [← hnx] at hxn hxl HROW1 ⊢
      clear hnx
      have hxn2 : (0 : Int) < (nx : Int) := by omega
      have hxne : ((nx : Int) == 0) = false := by rw [beq_eq_false_iff_ne]; omega
      have hk2 : ¬ (k : Int) < 0 := by omega
      clear bb1 row1 hown1 hxb
      go_wp2_with fail
      refine (l3Words_any x0 _ (by omega)).mono ?_
      rintro e w2 ⟨wv, ws, rfl, hownw, hwl, bb2, hwd⟩
      have HWD : Hid (wordsL [] [] (bs x0) = ws.map bs) := hwd
      clear hwd
      have hb2 : Below (w.alloc (.cells #[.int .i64 0, .string ⟨#[]⟩, .slice none 0 0, .string ⟨#[]⟩] 37)).heap.size (w.alloc (.cells #[.int .i64 0, .string ⟨#[]⟩, .slice none 0 0, .string ⟨#[]⟩] 37)) w2 := HB1.out.trans (bb2.mono HB1.out.size)
      by_cases h3 : ws.length = 3
      · obtain ⟨wa, wp, wc, rfl⟩ : ∃ a b c, ws = [a, b, c] := by
          match ws, h3 with
          | [a, b, c], _ => exact ⟨a, b, c, rfl⟩
        clear h3
        obtain ⟨_, _, _, h0, _⟩ | ⟨g2, cp2, rfl, _, row2⟩ := row_form hownw
        · simp at h0
        have hpw : wp.size ≤ s.size := by
          have hm : bs wp ∈ wordsL [] [] (bs x0) := by rw [HWD.out]; simp
          rcases wordsL_len (bs x0) [] [] _ hm with h1 | h1
          · simp at h1
          · rw [bs_len, bs_len] at h1; simp at h1; omega
        have ha := row2.cell 0 (by simp)
        have hpc := row2.cell 1 (by simp)
        have ha : w2.cell? ⟨g2, 0, none⟩ = some (.string wa) := ha
        have hpc : w2.cell? ⟨g2, 1, none⟩ = some (.string wp) := hpc
        have HROW2 : Hid (TextRow w1.heap.size w2 g2 3 cp2 [wa, wp, wc]) := row2
        have HB2 : Hid (Below (w.alloc (.cells #[.int .i64 0, .string ⟨#[]⟩, .slice none 0 0, .string ⟨#[]⟩] 37)).heap.size (w.alloc (.cells #[.int .i64 0, .string ⟨#[]⟩, .slice none 0 0, .string ⟨#[]⟩] 37)) w2) := hb2
        have HBB2 : Hid (Below w1.heap.size w1 w2) := bb2
        have hki : (k : Int) ≤ (s.size : Int) := by omega
        have h1n : (1 : Int) ≤ (nx : Int) := by omega
        clear hownw row2 bb2 hb2 hwl hc0
        have hrow2 : TextRow (w.alloc (.cells #[.int .i64 0, .string ⟨#[]⟩, .slice none 0 0, .string ⟨#[]⟩] 37)).heap.size w2 g nx cp xs := HROW1.out.below HBB2.out HROW1.out.lt
        have hxlen := hrow2.len
        obtain ⟨aT, hA, HTX⟩ : ∃ aT : Addr, (if cp = 1 then some (⟨g, 0, none⟩ : Addr) else some ⟨g, 1, none⟩) = some aT ∧ Hid (∀ W, Below w2.heap.size w2 W → TextsV W W.heap.size (some aT) (nx - 1) xs.tail) := by
          have hle := hrow2.le
          by_cases h : cp = 1
          · refine ⟨⟨g, 0, none⟩, by simp [h], fun W hW => ⟨by simp; omega, fun i hi => ?_⟩⟩
            simp at hi; omega
          · refine ⟨⟨g, 1, none⟩, by simp [h], fun W hW => ⟨by simp; omega, fun i hi => ?_⟩⟩
            have hi2 : i + 1 < nx := by simp at hi; omega
            have hcc := (hrow2.below hW hrow2.lt).cell (i + 1) hi2
            refine ⟨g, 1, rfl, by have := hW.size; have := hrow2.lt; omega, ?_⟩
            rw [show 1 + i = i + 1 by omega, hcc]
            simp [textAt, List.getD_eq_getElem?_getD, show i + 1 < xs.length by omega]
        have HSZ : Hid (∀ x ∈ xs.tail, x.size ≤ 4000000) := fun x hx => by
          have hm : bs x ∈ (headL [] [] (bs s)).1 := by rw [HH.out]; exact List.mem_map_of_mem (List.mem_of_mem_tail hx)
          rcases headL_len _ (bs s) [] [] (Nat.le_refl _) _ hm with h1 | h1
          · simp at h1
          · rw [bs_len, bs_len] at h1; simp at h1; omega
        have HP : Hid (∀ w0 w3, Below w2.heap.size w2 w0 → Below w0.heap.size w0 w3 → w3.cell? ⟨g2, 1, none⟩ = some (.string wp) ∧ Below w2.heap.size w2 w3) := fun w0 w3 h h' => by
          have hx := h.trans (h'.mono h.size)
          exact ⟨(HROW2.out.below hx HROW2.out.lt).cell 1 (by omega), hx⟩
        have hnew := World.new_ne w2 ⟨g2, 1, none⟩ hpc
        have HKN : Hid (∀ w3, Below (w2.alloc (.cells #[.int .i64 0, .string ⟨#[]⟩, .slice none 0 0, .string ⟨#[]⟩] 37)).drew.heap.size (w2.alloc (.cells #[.int .i64 0, .string ⟨#[]⟩, .slice none 0 0, .string ⟨#[]⟩] 37)).drew w3 → w3.heap[w2.heap.size]? = some (.cells #[.int .i64 0, .string ⟨#[]⟩, .slice none 0 0, .string ⟨#[]⟩] 37)) := fun w3 h => by
          rw [h.block _ (by simp)]; exact heap_alloc_new w2 _
        have HK : Hid (∀ (W : World) o, W.cell? ⟨g2, 1, none⟩ = some (.string wp) → (W.alloc o).cell? ⟨g2, 1, none⟩ = some (.string wp)) := fun W o h => by rw [World.cell?_alloc_some _ _ _ (by rw [h]; rfl)]; exact h
        have h1c : (1 : Int) ≤ (cp : Int) := by have := hrow2.le; omega
        have h1m : 1 ≤ nx := by omega
        clear hrow2
        go_wp2_with fail
        refine wp_region_held_drew (S := fun W => W.cell? ⟨g2, 1, none⟩ = some (.string wp)) (by kernel_rfl) hpc (fun hHeld => ?_)
        refine wpAnyH_take (i := 0) (v := .slice (some ⟨g2, 0, none⟩) 3 cp2) rfl (by kernel_rfl) (by kernel_rfl) (by kernel_rfl) (fun _ _ _ h => h) (Or.inl ⟨by rfl, by intro W hSW; (try dsimp only at hSW); go_simp⟩) (by assumption) ?_
        refine wpAnyH_take (i := 1) (v := .pointer (some ⟨g2, 1, none⟩)) rfl (by kernel_rfl) (by kernel_rfl) (by kernel_rfl) (fun _ _ _ h => h) (Or.inl ⟨by rfl, by intro W hSW; (try dsimp only at hSW); go_simp⟩) (by assumption) ?_
        refine wpAnyH_take (i := 2) (v := .string wp) rfl (by kernel_rfl) (by kernel_rfl) (by kernel_rfl) (fun _ _ _ h => h) (Or.inl ⟨by rfl, by intro W hSW; (try dsimp only at hSW); go_simp⟩) (by assumption) ?_
        refine wpAnyH_take (i := 3) (v := .slice (some ⟨g, 0, none⟩) nx cp) rfl (by kernel_rfl) (by kernel_rfl) (by kernel_rfl) (fun _ _ _ h => h) (Or.inl ⟨by rfl, by intro W hSW; (try dsimp only at hSW); go_simp⟩) (by assumption) ?_
        refine wpAnyH_take (i := 4) (v := .slice (some aT) (nx - 1) (cp - 1)) rfl (by kernel_rfl) (by kernel_rfl) (by kernel_rfl) (fun _ _ _ h => h) (Or.inl ⟨by rfl, by intro W hSW; (try dsimp only at hSW); go_simp⟩) (by assumption) ?_
        refine wpAnyH_take (i := 6) (v := .string s) rfl (by kernel_rfl) (by kernel_rfl) (by kernel_rfl) (fun _ _ _ h => h) (Or.inl ⟨by rfl, by intro W hSW; (try dsimp only at hSW); go_simp⟩) (by assumption) ?_
        refine wpAnyH_take (i := 7) (v := .int .i64 (k : Int)) rfl (by kernel_rfl) (by kernel_rfl) (by kernel_rfl) (fun _ _ _ h => h) (Or.inl ⟨by rfl, by intro W hSW; (try dsimp only at hSW); go_simp⟩) (by assumption) ?_
        refine wpAnyH_take (i := 8) (v := .string (s.extract k s.size)) rfl (by kernel_rfl) (by kernel_rfl) (by kernel_rfl) (fun _ _ _ h => h) (Or.inl ⟨by rfl, by intro W hSW; (try dsimp only at hSW); go_simp⟩) (by assumption) ?_
        refine wpAnyH_ready (rs := [5, 10]) (by kernel_rfl) (by simp) ?_
        refine AllReadyH.cons rfl (fun K hK => ?_) (AllReadyH.cons rfl (fun K hK => ?_) AllReadyH.nil)
        · go_simp
          refine (l3Fields_any (some aT) (nx - 1) (cp - 1) xs.tail _ (HTX.out _ (Below.refl _ w2).drew) (by omega) HSZ.out).mono ?_
          rintro e w3 ⟨fv, l, rfl, hownf, hll, bb3, hfl⟩
          obtain ⟨fo, fc, rfl⟩ := slice_of_owns hownf
          obtain ⟨hp3, hb3⟩ := HP.out _ w3 (Below.refl _ w2).drew bb3
          refine hK.out _ _ hp3 (fun hHeld3 => ?_)
          clear hK K hHeld
          refine wpAnyH_take (i := 9) (v := .agg #[.int .i64 0, .string wp, .slice fo l.length fc, .string (s.extract k s.size)]) rfl (by kernel_rfl) (by kernel_rfl) (by kernel_rfl) (fun _ _ _ h => h) (Or.inl ⟨by rfl, by intro W hSW; (try dsimp only at hSW); go_simp⟩) (by assumption) ?_
          refine wpAnyH_ready (rs := [10]) (by kernel_rfl) (by simp) ?_
          refine AllReadyH.cons rfl (fun K hK => ?_) AllReadyH.nil
          go_simp
          refine hK.out _ _ (HK.out w3 _ hp3) (fun hHeld4 => ?_)
          clear hK K hHeld3
          refine wpAnyH_ready (rs := [11]) (by kernel_rfl) (by simp) ?_
          refine AllReadyH.cons rfl (fun K hK => ?_) AllReadyH.nil
          go_simp
          refine hK.out _ _ (HK.out w3 _ hp3) (fun hHeld5 => ?_)
          clear hK K hHeld4
          refine wpAnyH_done (by kernel_rfl) ?_ _
          clear hHeld5
          obtain ⟨r, hr⟩ : ∃ r, r = w3.heap.size := ⟨_, rfl⟩
          obtain ⟨w4, hw4⟩ : ∃ W, W = w3.alloc (.cells #[.int .i64 0, .string wp, .slice fo l.length fc, .string (s.extract k s.size)] 37) := ⟨_, rfl⟩
          have hz4 : w4.heap[r]? = some (.cells #[.int .i64 0, .string wp, .slice fo l.length fc, .string (s.extract k s.size)] 37) := by rw [hw4, hr]; exact heap_alloc_new w3 _
          have hb34 : Below w3.heap.size w3 w4 := by rw [hw4]; exact (Below.refl _ w3).alloc (Nat.le_refl _) _
          have hb4 : Below w2.heap.size w2 w4 := hb3.trans (hb34.mono hb3.size)
          have hrw : w2.heap.size ≤ r := by rw [hr]; exact hb3.size
          have hr4 : r < w4.heap.size := by rw [hw4, hr]; simp
          have hown4 : w4.ownsRow w2.heap.size 63 2 (.slice fo l.length fc) l.length (flatF l) := owns_below hownf hb34 (fun g hg => owns_lt hownf hg)
          have HFR : Hid (∀ j, (Value.slice fo l.length fc).ownBlock = some j → j ≠ r) := fun j hj => by have := owns_lt hownf hj; omega
          rw [← hr, ← hw4]
          clear hr hw4 hb34 hownf bb3 hb3 hp3 hpc hnew HK HKN HP HTX HSZ hA
          obtain ⟨body, hbody⟩ : ∃ y, y = s.extract k s.size := ⟨_, rfl⟩
          rw [← hbody] at hz4 ⊢
          have HBODY : Hid (body = s.extract k s.size) := hbody
          have HL4 : Hid (fieldsL (xs.tail.map bs) = l.map bsP) := hfl
          have HA4 : Hid (∀ W, w4.grownBy W (some r) → W.cell? ⟨g2, 0, none⟩ = some (.string wa)) := fun W h => by
            have hc := (HROW2.out.below hb4 HROW2.out.lt).cell 0 (by omega)
            exact h.cell hc (fun e => by have h1 := HROW2.out.lt; have h2 : g2 = r := Option.some.inj e; omega)
          clear hbody hfl
          go_wp2_with fail
          refine (l3Methods_any _).mono ?_
          rintro e w5 ⟨g5, rfl, hme, hg5, hg5', bb5⟩
          have hz5 : w5.heap[r]? = some (.cells #[.int .i64 0, .string wp, .slice fo l.length fc, .string body] 37) := by rw [bb5.block r hr4]; exact hz4
          have hgr5 := grown_below bb5 (some r)
          have HME : Hid (∀ W j, j < 5 → w5.grownBy W (some r) → W.cell? ⟨g5, j, none⟩ = some (.string (methB (j : Int)))) := fun W j hj h => h.cell (hme j hj) (fun e => by have h2 : g5 = r := Option.some.inj e; omega)
          have H45 : Hid (w4.grownBy w5 (some r)) := hgr5
          have HZ5 : Hid (w5.heap[r]? = some (.cells #[.int .i64 0, .string wp, .slice fo l.length fc, .string body] 37)) := hz5
          clear hz5 hz4 hme hgr5 bb5
          go_wp2
          go_loopw [9] (fun q wr => ∃ j : Nat, 1 ≤ j ∧ j ≤ 5 ∧ q = .int .i64 (j : Int) ∧ Hid (wr.heap[r]? = some (.cells #[.int .i64 (methTo wa j), .string wp, .slice fo l.length fc, .string body] 37)) ∧ w5.grownBy wr (some r)) (fun q _ => 5 - (intOf q).toNat)
          case atStart => exact ⟨1, by omega, by omega, rfl, by rw [methTo_one]; exact HZ5, World.grownBy.refl _ _⟩
          case round =>
            obtain ⟨j, h1, h5, rfl, hzr, hgr⟩ := hrel
            have hga := grown_then H45.out hgr
            have ha := HA4.out wr hga
            by_cases hlt : j < 5
            · have hlt2 : (j : Int) < 5 := by omega
              have hn := HME.out wr j hlt hgr
              obtain ⟨⟨c0, c1, c2, c3⟩, f0, f1, f2, f3⟩ := four_facts hzr.out
              by_cases he : methB (j : Int) = wa
              · have ht := (text_beq _ _).2 he
                have HM : Hid (methTo wa (j + 1) = (j : Int)) := methTo_yes h1 he
                have HZN : Hid (∀ W : World, W.heap = wr.heap → (W.setCell ⟨r, 0, none⟩ (.int .i64 (j : Int))).heap[r]? = some (.cells #[.int .i64 (methTo wa (j + 1)), .string wp, .slice fo l.length fc, .string body] 37)) := fun W hW => by
                  have := heap_set W r 0 _ _ _ (.int .i64 (j : Int)) (by rw [hW]; exact hzr.out)
                  rw [HM.out]; simpa using this
                have HGN : Hid (∀ n, w5.grownBy ((wr.drewN n).setCell ⟨r, 0, none⟩ (.int .i64 (j : Int))) (some r)) := fun n => grown_then (grown_then hgr (grown_below (below_drewN (Below.refl _ wr) n) _)) (grown_set _ _ _ _)
                clear he c1 c2 c3 f1 f2 f3 hga
                go_wp2
                go_quiet (fail)
                go_wp2
                go_roundw
                case rel => exact ⟨j + 1, by omega, by omega, by go_num, HZN.out _ rfl, HGN.out _⟩
                case measure => simp [intOf]; omega
              · have ht := text_beq_no he
                have HM : Hid (methTo wa (j + 1) = methTo wa j) := methTo_no he
                have HGN : Hid (∀ n, w5.grownBy (wr.drewN n) (some r)) := fun n => grown_then hgr (grown_below (below_drewN (Below.refl _ wr) n) _)
                clear he c0 c1 c2 c3 f0 f1 f2 f3 hga
                go_wp2
                go_quiet (fail)
                go_wp2
                go_roundw
                case rel => exact ⟨j + 1, by omega, by omega, by go_num, by rw [HM.out]; exact hzr, HGN.out _⟩
                case measure => simp [intOf]; omega
            · obtain rfl : j = 5 := by omega
              obtain ⟨mm, hmm⟩ : ∃ y, y = methTo wa 5 := ⟨_, rfl⟩
              rw [← hmm] at hzr
              have HMM : Hid (mm = methTo wa 5) := hmm
              obtain ⟨⟨c0, c1, c2, c3⟩, f0, f1, f2, f3⟩ := four_facts hzr.out
              have howr : wr.ownsRow w2.heap.size 63 2 (.slice fo l.length fc) l.length (flatF l) := hown4.kept hga (by cases h : (Value.slice fo l.length fc).ownBlock <;> simp; exact fun e => HFR.out _ h e)
              have HOW : Hid (wr.ownsRow w2.heap.size 63 2 (.slice fo l.length fc) l.length (flatF l)) := howr
              have HWF : Hid (WalkF l.length l) := walk_fields HH.out HL4.out (by unfold maxLen; omega)
              have hbs : body.size ≤ s.size := by rw [HBODY.out]; simp
              have HBr : Hid (Below (w.alloc (.cells #[.int .i64 0, .string ⟨#[]⟩, .slice none 0 0, .string ⟨#[]⟩] 37)).heap.size (w.alloc (.cells #[.int .i64 0, .string ⟨#[]⟩, .slice none 0 0, .string ⟨#[]⟩] 37)) wr) := by
                have hz2 := HB2.out.size
                exact (HB2.out.trans (hb4.mono hz2)).trans (below_grown hga (by have := hb4.size; omega) (by omega))
              have hll2 : l.length ≤ 3000000 := by simp at hll; omega
              clear hmm hown4 howr hga
              go_wp2_with fail
              refine (specReqText_any mm wp _ body l.length _ l _ (FieldsV.of_owns HOW.out) (by omega) HWF.out (by unfold maxLen; omega) (by unfold maxLen; omega)).mono ?_
              rintro e w7 ⟨t, rfl, ht1, ht2, bb7⟩
              have hz7 : w7.heap[r]? = some (.cells #[.int .i64 (mm), .string wp, .slice fo l.length fc, .string body] 37) := by rw [bb7.block r (by have := (Array.getElem?_eq_some_iff.1 hzr.out).1; exact this)]; exact hzr.out
              have hb7 : Below (w.alloc (.cells #[.int .i64 0, .string ⟨#[]⟩, .slice none 0 0, .string ⟨#[]⟩] 37)).heap.size (w.alloc (.cells #[.int .i64 0, .string ⟨#[]⟩, .slice none 0 0, .string ⟨#[]⟩] 37)) w7 := HBr.out.trans (bb7.mono HBr.out.size)
              clear c0 c1 c2 c3 f0 f1 f2 f3
              obtain ⟨⟨c0, c1, c2, c3⟩, f0, f1, f2, f3⟩ := four_facts hz7
              by_cases hts : t = s
              · have ht := (text_beq _ _).2 hts
                have HRP : Hid (ReqP mm wp l body) := Classical.byContradiction (fun hn => by
                  have h0 := ht2 hn
                  rw [hts] at h0
                  have hh := HH.out
                  rw [h0] at hh
                  simp [bs, headL] at hh)
                have HIS : Hid (IsReq s mm wp l body) := ⟨HRP.out, by rw [← ht1 HRP.out]; exact hts⟩
                have hR2 : R < w2.heap.size := (Array.getElem?_eq_some_iff.1 (HZ.out w2 HB2.out).1).1
                obtain ⟨z, hbz⟩ := HZ.out w7 hb7
                obtain ⟨⟨e0, e1, e2, e3⟩, g0, g1, g2', g3⟩ := four_facts z
                obtain ⟨⟨k0, k1, k2, k3⟩, _⟩ := four_facts (four_set z (.int .i64 mm) (.string wp) (.slice fo l.length fc) (.string body))
                have HB4 : Hid (Below w.heap.size w (fourSet w7 R (.int .i64 mm) (.string wp) (.slice fo l.length fc) (.string body))) := below_four hbz hRw
                have hgR : w7.grownBy (fourSet w7 R (.int .i64 mm) (.string wp) (.slice fo l.length fc) (.string body)) (some R) := by
                  unfold fourSet
                  exact grown_then (grown_then (grown_then (grown_set _ _ _ _) (grown_set _ _ _ _)) (grown_set _ _ _ _)) (grown_set _ _ _ _)
                have how7 := owns_below HOW.out bb7 (fun g hg => owns_lt HOW.out hg)
                have hww : w.heap.size ≤ w2.heap.size := Nat.le_trans hZs HB2.out.size
                have HOWF : Hid ((fourSet w7 R (.int .i64 mm) (.string wp) (.slice fo l.length fc) (.string body)).ownsRow w.heap.size 63 2 (.slice fo l.length fc) l.length (flatF l)) := by
                  have h6 := how7.kept hgR (by cases h : (Value.slice fo l.length fc).ownBlock <;> simp; exact fun e => by have h7 := owns_ge how7 h; omega)
                  refine ⟨h6.1, ?_⟩
                  rcases h6.2 with h9 | ⟨g6, cap6, cur6, h7, h8, h9⟩
                  · exact .inl h9
                  · exact .inr ⟨g6, cap6, cur6, h7, by omega, h9⟩
                unfold fourSet at k0 k1 k2 k3
                clear z hbz HZ hgR how7 ht1 ht2 hts bb7 hb7 hz7
                go_wp2_with fail
                exact bodyPost_ret (v := .tuple #[.agg #[.int .i64 mm, .string wp, (.slice fo l.length fc), .string body], .bool true]) (by simp [results, Tryz.results14, go_sem, k0, k1, k2, k3]) rfl (.inl ⟨mm, wp, l, body, _, rfl, HIS.out, HOWF.out, HB4.out⟩)
              · have ht := text_beq_no hts
                have HNO : Hid (∀ m p fs b, ¬ IsReq s m p fs b) := fun m p fs b h => by
                  have hpt : Parts s xs k [wa, wp, wc] l := ⟨HH.out, HN0.out, by
                    have : xs.headD ⟨#[]⟩ = x0 := by
                      rw [HX.out]
                      cases xs with
                      | nil => exact absurd rfl HN0.out
                      | cons y q => rfl
                    rw [this]; exact HWD.out, HL4.out⟩
                  obtain ⟨x9, e1, e2, e3⟩ := h.parts hpt
                  simp only [List.cons.injEq] at e1
                  obtain ⟨e4, e5, _⟩ := e1
                  have hmm : mm = m := by rw [HMM.out, e4]; exact methTo_of h.1.1
                  have hbb : body = b := by rw [HBODY.out]; exact e3
                  subst hmm hbb e5 e2
                  exact hts ((ht1 h.1).trans h.2)
                obtain ⟨z, hbz⟩ := HZ.out w7 hb7
                obtain ⟨⟨e0, e1, e2, e3⟩, g0, g1, g2', g3⟩ := four_facts z
                obtain ⟨⟨k0, k1, k2, k3⟩, _⟩ := four_facts (four_set z (.int .i64 0) (.string ⟨#[]⟩) (.slice none 0 0) (.string ⟨#[]⟩))
                have HB4 : Hid (Below w.heap.size w (fourSet w7 R (.int .i64 0) (.string ⟨#[]⟩) (.slice none 0 0) (.string ⟨#[]⟩))) := below_four hbz hRw
                unfold fourSet at k0 k1 k2 k3
                clear z hbz HZ ht1 ht2 hts bb7 hb7 hz7
                go_wp2_with fail
                exact bodyPost_ret (v := .tuple #[.agg #[.int .i64 0, .string ⟨#[]⟩, .slice none 0 0, .string ⟨#[]⟩], .bool false]) (by simp [results, Tryz.results14, go_sem, k0, k1, k2, k3]) rfl (.inr ⟨rfl, HNO.out, HB4.out⟩)
        · go_simp
          refine hK.out _ _ (HK.out w2 _ hpc) (fun hHeld3 => ?_)
          clear hK K hHeld
          refine wpAnyH_ready (rs := [5]) (by kernel_rfl) (by simp) ?_
          refine AllReadyH.cons rfl (fun K hK => ?_) AllReadyH.nil
          go_simp
          refine (l3Fields_any (some aT) (nx - 1) (cp - 1) xs.tail _ (HTX.out _ ((Below.refl _ w2).alloc (Nat.le_refl _) _).drew) (by omega) HSZ.out).mono ?_
          rintro e w3 ⟨fv, l, rfl, hownf, hll, bb3, hfl⟩
          obtain ⟨fo, fc, rfl⟩ := slice_of_owns hownf
          obtain ⟨hp3, hb3⟩ := HP.out _ w3 ((Below.refl _ w2).alloc (Nat.le_refl _) _).drew bb3
          refine hK.out _ _ hp3 (fun hHeld4 => ?_)
          clear hK K hHeld3
          refine wpAnyH_take (i := 9) (v := .agg #[.int .i64 0, .string wp, .slice fo l.length fc, .string (s.extract k s.size)]) rfl (by kernel_rfl) (by kernel_rfl) (by kernel_rfl) (fun _ _ _ h => h) (Or.inl ⟨by rfl, by intro W hSW; (try dsimp only at hSW); go_simp⟩) (by assumption) ?_
          obtain ⟨⟨y0, y1, y2, y3⟩, v0, v1, v2, v3⟩ := four_facts (HKN.out w3 bb3)
          refine wpAnyH_ready (rs := [11]) (by kernel_rfl) (by simp) ?_
          refine AllReadyH.cons rfl (fun K hK => ?_) AllReadyH.nil
          go_simp
          refine hK.out _ _ ?_ (fun hHeld5 => ?_)
          · show (fourSet w3 w2.heap.size _ _ _ _).cell? _ = _
            unfold fourSet
            rw [World.cell?_setCell_far _ _ _ _ hnew, World.cell?_setCell_far _ _ _ _ hnew, World.cell?_setCell_far _ _ _ _ hnew, World.cell?_setCell_far _ _ _ _ hnew]; exact hp3
          clear hK K hHeld4
          refine wpAnyH_done (by kernel_rfl) ?_ _
          clear hHeld5
          obtain ⟨r, hr⟩ : ∃ r, r = w2.heap.size := ⟨_, rfl⟩
          have z3 := HKN.out w3 bb3
          rw [← hr] at z3 ⊢
          have hz4 := four_set z3 (.int .i64 0) (.string wp) (.slice fo l.length fc) (.string (s.extract k s.size))
          obtain ⟨w4, hw4⟩ : ∃ W, W = fourSet w3 r (.int .i64 0) (.string wp) (.slice fo l.length fc) (.string (s.extract k s.size)) := ⟨_, rfl⟩
          rw [← hw4] at hz4
          have hrw : w2.heap.size ≤ r := by omega
          have hg34 : w3.grownBy w4 (some r) := by
            rw [hw4]; unfold fourSet
            exact grown_then (grown_then (grown_then (grown_set _ _ _ _) (grown_set _ _ _ _)) (grown_set _ _ _ _)) (grown_set _ _ _ _)
          have hb4 : Below w2.heap.size w2 w4 := by rw [hw4]; exact below_four hb3 hrw
          have hr4 : r < w4.heap.size := (Array.getElem?_eq_some_iff.1 hz4).1
          have HFR : Hid (∀ j, (Value.slice fo l.length fc).ownBlock = some j → j ≠ r) := fun j hj => by
            have := owns_ge hownf hj
            simp at this; omega
          have hown4 : w4.ownsRow w2.heap.size 63 2 (.slice fo l.length fc) l.length (flatF l) := by
            have h5 : w3.ownsRow w2.heap.size 63 2 (.slice fo l.length fc) l.length (flatF l) := by
              refine ⟨hownf.1, ?_⟩
              rcases hownf.2 with h6 | ⟨g6, cap6, cur6, h7, h8, h9⟩
              · exact .inl h6
              · exact .inr ⟨g6, cap6, cur6, h7, by simp at h8; omega, h9⟩
            exact h5.kept hg34 (by cases h : (Value.slice fo l.length fc).ownBlock <;> simp; exact fun e => HFR.out _ h e)
          unfold fourSet at hw4
          rw [← hw4]
          clear hr hw4 hg34 hownf bb3 hb3 hp3 hpc hnew HK HKN HP HTX HSZ hA z3 y0 y1 y2 y3 v0 v1 v2 v3
          obtain ⟨body, hbody⟩ : ∃ y, y = s.extract k s.size := ⟨_, rfl⟩
          rw [← hbody] at hz4 ⊢
          have HBODY : Hid (body = s.extract k s.size) := hbody
          have HL4 : Hid (fieldsL (xs.tail.map bs) = l.map bsP) := hfl
          have HA4 : Hid (∀ W, w4.grownBy W (some r) → W.cell? ⟨g2, 0, none⟩ = some (.string wa)) := fun W h => by
            have hc := (HROW2.out.below hb4 HROW2.out.lt).cell 0 (by omega)
            exact h.cell hc (fun e => by have h1 := HROW2.out.lt; have h2 : g2 = r := Option.some.inj e; omega)
          clear hbody hfl
          go_wp2_with fail
          refine (l3Methods_any _).mono ?_
          rintro e w5 ⟨g5, rfl, hme, hg5, hg5', bb5⟩
          have hz5 : w5.heap[r]? = some (.cells #[.int .i64 0, .string wp, .slice fo l.length fc, .string body] 37) := by rw [bb5.block r hr4]; exact hz4
          have hgr5 := grown_below bb5 (some r)
          have HME : Hid (∀ W j, j < 5 → w5.grownBy W (some r) → W.cell? ⟨g5, j, none⟩ = some (.string (methB (j : Int)))) := fun W j hj h => h.cell (hme j hj) (fun e => by have h2 : g5 = r := Option.some.inj e; omega)
          have H45 : Hid (w4.grownBy w5 (some r)) := hgr5
          have HZ5 : Hid (w5.heap[r]? = some (.cells #[.int .i64 0, .string wp, .slice fo l.length fc, .string body] 37)) := hz5
          clear hz5 hz4 hme hgr5 bb5
          go_wp2
          go_loopw [9] (fun q wr => ∃ j : Nat, 1 ≤ j ∧ j ≤ 5 ∧ q = .int .i64 (j : Int) ∧ Hid (wr.heap[r]? = some (.cells #[.int .i64 (methTo wa j), .string wp, .slice fo l.length fc, .string body] 37)) ∧ w5.grownBy wr (some r)) (fun q _ => 5 - (intOf q).toNat)
          case atStart => exact ⟨1, by omega, by omega, rfl, by rw [methTo_one]; exact HZ5, World.grownBy.refl _ _⟩
          case round =>
            obtain ⟨j, h1, h5, rfl, hzr, hgr⟩ := hrel
            have hga := grown_then H45.out hgr
            have ha := HA4.out wr hga
            by_cases hlt : j < 5
            · have hlt2 : (j : Int) < 5 := by omega
              have hn := HME.out wr j hlt hgr
              obtain ⟨⟨c0, c1, c2, c3⟩, f0, f1, f2, f3⟩ := four_facts hzr.out
              by_cases he : methB (j : Int) = wa
              · have ht := (text_beq _ _).2 he
                have HM : Hid (methTo wa (j + 1) = (j : Int)) := methTo_yes h1 he
                have HZN : Hid (∀ W : World, W.heap = wr.heap → (W.setCell ⟨r, 0, none⟩ (.int .i64 (j : Int))).heap[r]? = some (.cells #[.int .i64 (methTo wa (j + 1)), .string wp, .slice fo l.length fc, .string body] 37)) := fun W hW => by
                  have := heap_set W r 0 _ _ _ (.int .i64 (j : Int)) (by rw [hW]; exact hzr.out)
                  rw [HM.out]; simpa using this
                have HGN : Hid (∀ n, w5.grownBy ((wr.drewN n).setCell ⟨r, 0, none⟩ (.int .i64 (j : Int))) (some r)) := fun n => grown_then (grown_then hgr (grown_below (below_drewN (Below.refl _ wr) n) _)) (grown_set _ _ _ _)
                clear he c1 c2 c3 f1 f2 f3 hga
                go_wp2
                go_quiet (fail)
                go_wp2
                go_roundw
                case rel => exact ⟨j + 1, by omega, by omega, by go_num, HZN.out _ rfl, HGN.out _⟩
                case measure => simp [intOf]; omega
              · have ht := text_beq_no he
                have HM : Hid (methTo wa (j + 1) = methTo wa j) := methTo_no he
                have HGN : Hid (∀ n, w5.grownBy (wr.drewN n) (some r)) := fun n => grown_then hgr (grown_below (below_drewN (Below.refl _ wr) n) _)
                clear he c0 c1 c2 c3 f0 f1 f2 f3 hga
                go_wp2
                go_quiet (fail)
                go_wp2
                go_roundw
                case rel => exact ⟨j + 1, by omega, by omega, by go_num, by rw [HM.out]; exact hzr, HGN.out _⟩
                case measure => simp [intOf]; omega
            · obtain rfl : j = 5 := by omega
              obtain ⟨mm, hmm⟩ : ∃ y, y = methTo wa 5 := ⟨_, rfl⟩
              rw [← hmm] at hzr
              have HMM : Hid (mm = methTo wa 5) := hmm
              obtain ⟨⟨c0, c1, c2, c3⟩, f0, f1, f2, f3⟩ := four_facts hzr.out
              have howr : wr.ownsRow w2.heap.size 63 2 (.slice fo l.length fc) l.length (flatF l) := hown4.kept hga (by cases h : (Value.slice fo l.length fc).ownBlock <;> simp; exact fun e => HFR.out _ h e)
              have HOW : Hid (wr.ownsRow w2.heap.size 63 2 (.slice fo l.length fc) l.length (flatF l)) := howr
              have HWF : Hid (WalkF l.length l) := walk_fields HH.out HL4.out (by unfold maxLen; omega)
              have hbs : body.size ≤ s.size := by rw [HBODY.out]; simp
              have HBr : Hid (Below (w.alloc (.cells #[.int .i64 0, .string ⟨#[]⟩, .slice none 0 0, .string ⟨#[]⟩] 37)).heap.size (w.alloc (.cells #[.int .i64 0, .string ⟨#[]⟩, .slice none 0 0, .string ⟨#[]⟩] 37)) wr) := by
                have hz2 := HB2.out.size
                exact (HB2.out.trans (hb4.mono hz2)).trans (below_grown hga (by have := hb4.size; omega) (by omega))
              have hll2 : l.length ≤ 3000000 := by simp at hll; omega
              clear hmm hown4 howr hga
              go_wp2_with fail
              refine (specReqText_any mm wp _ body l.length _ l _ (FieldsV.of_owns HOW.out) (by omega) HWF.out (by unfold maxLen; omega) (by unfold maxLen; omega)).mono ?_
              rintro e w7 ⟨t, rfl, ht1, ht2, bb7⟩
              have hz7 : w7.heap[r]? = some (.cells #[.int .i64 (mm), .string wp, .slice fo l.length fc, .string body] 37) := by rw [bb7.block r (by have := (Array.getElem?_eq_some_iff.1 hzr.out).1; exact this)]; exact hzr.out
              have hb7 : Below (w.alloc (.cells #[.int .i64 0, .string ⟨#[]⟩, .slice none 0 0, .string ⟨#[]⟩] 37)).heap.size (w.alloc (.cells #[.int .i64 0, .string ⟨#[]⟩, .slice none 0 0, .string ⟨#[]⟩] 37)) w7 := HBr.out.trans (bb7.mono HBr.out.size)
              clear c0 c1 c2 c3 f0 f1 f2 f3
              obtain ⟨⟨c0, c1, c2, c3⟩, f0, f1, f2, f3⟩ := four_facts hz7
              by_cases hts : t = s
              · have ht := (text_beq _ _).2 hts
                have HRP : Hid (ReqP mm wp l body) := Classical.byContradiction (fun hn => by
                  have h0 := ht2 hn
                  rw [hts] at h0
                  have hh := HH.out
                  rw [h0] at hh
                  simp [bs, headL] at hh)
                have HIS : Hid (IsReq s mm wp l body) := ⟨HRP.out, by rw [← ht1 HRP.out]; exact hts⟩
                have hR2 : R < w2.heap.size := (Array.getElem?_eq_some_iff.1 (HZ.out w2 HB2.out).1).1
                obtain ⟨z, hbz⟩ := HZ.out w7 hb7
                obtain ⟨⟨e0, e1, e2, e3⟩, g0, g1, g2', g3⟩ := four_facts z
                obtain ⟨⟨k0, k1, k2, k3⟩, _⟩ := four_facts (four_set z (.int .i64 mm) (.string wp) (.slice fo l.length fc) (.string body))
                have HB4 : Hid (Below w.heap.size w (fourSet w7 R (.int .i64 mm) (.string wp) (.slice fo l.length fc) (.string body))) := below_four hbz hRw
                have hgR : w7.grownBy (fourSet w7 R (.int .i64 mm) (.string wp) (.slice fo l.length fc) (.string body)) (some R) := by
                  unfold fourSet
                  exact grown_then (grown_then (grown_then (grown_set _ _ _ _) (grown_set _ _ _ _)) (grown_set _ _ _ _)) (grown_set _ _ _ _)
                have how7 := owns_below HOW.out bb7 (fun g hg => owns_lt HOW.out hg)
                have hww : w.heap.size ≤ w2.heap.size := Nat.le_trans hZs HB2.out.size
                have HOWF : Hid ((fourSet w7 R (.int .i64 mm) (.string wp) (.slice fo l.length fc) (.string body)).ownsRow w.heap.size 63 2 (.slice fo l.length fc) l.length (flatF l)) := by
                  have h6 := how7.kept hgR (by cases h : (Value.slice fo l.length fc).ownBlock <;> simp; exact fun e => by have h7 := owns_ge how7 h; omega)
                  refine ⟨h6.1, ?_⟩
                  rcases h6.2 with h9 | ⟨g6, cap6, cur6, h7, h8, h9⟩
                  · exact .inl h9
                  · exact .inr ⟨g6, cap6, cur6, h7, by omega, h9⟩
                unfold fourSet at k0 k1 k2 k3
                clear z hbz HZ hgR how7 ht1 ht2 hts bb7 hb7 hz7
                go_wp2_with fail
                exact bodyPost_ret (v := .tuple #[.agg #[.int .i64 mm, .string wp, (.slice fo l.length fc), .string body], .bool true]) (by simp [results, Tryz.results14, go_sem, k0, k1, k2, k3]) rfl (.inl ⟨mm, wp, l, body, _, rfl, HIS.out, HOWF.out, HB4.out⟩)
              · have ht := text_beq_no hts
                have HNO : Hid (∀ m p fs b, ¬ IsReq s m p fs b) := fun m p fs b h => by
                  have hpt : Parts s xs k [wa, wp, wc] l := ⟨HH.out, HN0.out, by
                    have : xs.headD ⟨#[]⟩ = x0 := by
                      rw [HX.out]
                      cases xs with
                      | nil => exact absurd rfl HN0.out
                      | cons y q => rfl
                    rw [this]; exact HWD.out, HL4.out⟩
                  obtain ⟨x9, e1, e2, e3⟩ := h.parts hpt
                  simp only [List.cons.injEq] at e1
                  obtain ⟨e4, e5, _⟩ := e1
                  have hmm : mm = m := by rw [HMM.out, e4]; exact methTo_of h.1.1
                  have hbb : body = b := by rw [HBODY.out]; exact e3
                  subst hmm hbb e5 e2
                  exact hts ((ht1 h.1).trans h.2)
                obtain ⟨z, hbz⟩ := HZ.out w7 hb7
                obtain ⟨⟨e0, e1, e2, e3⟩, g0, g1, g2', g3⟩ := four_facts z
                obtain ⟨⟨k0, k1, k2, k3⟩, _⟩ := four_facts (four_set z (.int .i64 0) (.string ⟨#[]⟩) (.slice none 0 0) (.string ⟨#[]⟩))
                have HB4 : Hid (Below w.heap.size w (fourSet w7 R (.int .i64 0) (.string ⟨#[]⟩) (.slice none 0 0) (.string ⟨#[]⟩))) := below_four hbz hRw
                unfold fourSet at k0 k1 k2 k3
                clear z hbz HZ ht1 ht2 hts bb7 hb7 hz7
                go_wp2_with fail
                exact bodyPost_ret (v := .tuple #[.agg #[.int .i64 0, .string ⟨#[]⟩, .slice none 0 0, .string ⟨#[]⟩], .bool false]) (by simp [results, Tryz.results14, go_sem, k0, k1, k2, k3]) rfl (.inr ⟨rfl, HNO.out, HB4.out⟩)
      · have hne3 : ((ws.length : Int) != 3) = true := by rw [bne_iff_ne]; omega
        obtain ⟨oa, cp2, rfl⟩ : ∃ oa cp, wv = .slice oa ws.length cp := by
          obtain ⟨oa, cp, h1, h2, _⟩ | ⟨g, cp, h1, _⟩ := row_form hownw
          · exact ⟨oa, cp, by rw [h1, h2]⟩
          · exact ⟨_, cp, h1⟩
        obtain ⟨z, hbz⟩ := HZ.out w2 hb2
        obtain ⟨⟨c0, c1, c2, c3⟩, f0, f1, f2, f3⟩ := four_facts z
        obtain ⟨⟨k0, k1, k2, k3⟩, _⟩ := four_facts (four_set z (.int .i64 0) (.string ⟨#[]⟩) (.slice none 0 0) (.string ⟨#[]⟩))
        have HB4 : Hid (Below w.heap.size w (fourSet w2 R (.int .i64 0) (.string ⟨#[]⟩) (.slice none 0 0) (.string ⟨#[]⟩))) := below_four hbz hRw
        have HNO : Hid (∀ m p fs b, ¬ IsReq s m p fs b) := fun m p fs b h => by
                  have e := HH.out.symm.trans (req_head h)
                  have hwd := HWD.out
                  have hx := HX.out
                  have hx0 := HN0.out
                  cases xs with
                  | nil => exact absurd rfl hx0
                  | cons y r =>
                    simp only [List.map_cons, Prod.mk.injEq, List.cons.injEq] at e
                    have : x0 = y := hx
                    rw [this, e.1.1, req_words h.1.1 h.1.2.1] at hwd
                    have := congrArg List.length hwd
                    simp at this; omega
        unfold fourSet at k0 k1 k2 k3
        clear z hbz HZ HH hownw bb2 HB1 HROW1 HWD HX HN0 HNX
        go_wp2_with fail
        exact bodyPost_ret (v := .tuple #[.agg #[.int .i64 0, .string ⟨#[]⟩, .slice none 0 0, .string ⟨#[]⟩], .bool false]) (by simp [results, Tryz.results14, go_sem, k0, k1, k2, k3]) rfl (.inr ⟨rfl, HNO.out, HB4.out⟩)

end Go.Proofs.YtacfajnagbeocaaGreatDoor
