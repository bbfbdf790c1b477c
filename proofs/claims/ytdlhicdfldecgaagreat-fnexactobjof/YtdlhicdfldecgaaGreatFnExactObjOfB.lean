/- What the proof of FnExactObjOf leans on: contracts of the program's and the specification's functions, and plain facts (part 2 of 5). -/
import Derived.Test.YtdlhicdfldecgaaGreatFnExactObjOfA
namespace Go.Proofs.YtdlhicdfldecgaaGreat
open Go.RowKit
open Go.Lib hiding intOf

set_option maxHeartbeats 1000000 in
theorem l3Path_any (s : ByteArray) (w : World) (hs : s.size ≤ maxLen) :
    Calls Tryz.prog 45 #[.string s] w fun e w' => BoolIs (PathOk s) w e w' := by
  unfold maxLen at hs
  go_enter Tryz.func45, Tryz.ntmps45
  go_wp2
  go_loop [3] (fun i => ∃ k : Nat, k ≤ s.size ∧ i = .int .i64 k ∧ Hid (AllTo PathB s k)) (fun i => s.size - (intOf i).toNat)
  case atStart => exact ⟨0, Nat.zero_le _, rfl, allTo_zero _ _⟩
  case round =>
    obtain ⟨k, hk, rfl, hall⟩ := hrel
    by_cases hlt : k < s.size
    · go_wp2
      all_goals first
        | (go_ret
           have hno : ¬ PathB ((s[k]'hlt).toNat : Int) := by
             unfold PathB
             omega
           exact BoolIs.no (fun h => hno (h.1 k hlt)) (Below.refl _ _))
        | (go_round
           case rel =>
             have hy : PathB ((s[k]'hlt).toNat : Int) := by
               unfold PathB
               omega
             exact ⟨k + 1, by omega, by go_num, allTo_succ hall.out hlt hy⟩
           case measure => simp [intOf]; omega)
    · have hend : Hid (AllB PathB s) := allTo_end hall.out hlt
      by_cases h1 : (1 : Int) ≤ (s.size : Int)
      · have h0 : 0 < s.size := by omega
        by_cases h2 : (s.size : Int) ≤ 60
        · by_cases h3 : ((s[0]'h0).toNat : Int) = 47
          · go_wp2
            go_ret
            exact BoolIs.yes ⟨hend.out, by omega, by omega, h0, by omega⟩ (Below.refl _ _)
          · have h4 : (((s[0]'h0).toNat : Int) == 47) = false := by rw [beq_eq_false_iff_ne]; exact h3
            go_wp2
            go_ret
            exact BoolIs.no (fun h => by obtain ⟨_, _, _, _, h5⟩ := h; omega) (Below.refl _ _)
        · go_wp2
          go_ret
          exact BoolIs.no (fun h => by obtain ⟨_, _, h5, _⟩ := h; omega) (Below.refl _ _)
      · go_wp2
        go_ret
        exact BoolIs.no (fun h => by obtain ⟨_, h5, _⟩ := h; omega) (Below.refl _ _)

/-- Texts short enough for any walk. -/
def WalkF (n : Nat) (fs : List (ByteArray × ByteArray)) : Prop := ∀ i, i < n → (nameAt fs i).size ≤ maxLen ∧ (valAt fs i).size ≤ maxLen

/-- A block that was laid last stands behind every call that keeps what was there. -/
theorem kept_new {w W : World} {o : Obj} (h : Below (w.alloc o).heap.size (w.alloc o) W) : W.heap[w.heap.size]? = some o := by
  rw [h.block _ (by simp)]; exact heap_alloc_new w _
theorem below_new {w W : World} {o : Obj} (h : Below (w.alloc o).heap.size (w.alloc o) W) : Below w.heap.size w W :=
  ((Below.refl _ w).alloc (Nat.le_refl _) o).trans (h.mono (by simp))
set_option maxHeartbeats 400000 in
theorem l1In_any (x lo hi : Int) (w : World) :
    Calls Tryz.prog 46 #[.int .i64 x, .int .i64 lo, .int .i64 hi] w fun e w' => e = .returned (.bool (decide (lo ≤ x ∧ x ≤ hi))) ∧ w' = w := by
  by_cases h1 : lo ≤ x
  · by_cases h2 : x ≤ hi
    · go_enter Tryz.func46, Tryz.ntmps46
      go_wp2
      go_ret
      exact ⟨by simp [h1, h2], rfl⟩
    · go_enter Tryz.func46, Tryz.ntmps46
      go_wp2
      go_ret
      exact ⟨by simp [h2], rfl⟩
  · go_enter Tryz.func46, Tryz.ntmps46
    go_wp2
    go_ret
    exact ⟨by simp; omega, rfl⟩

set_option maxHeartbeats 1000000 in
theorem specReqOk_any (m : Int) (p : ByteArray) (v : Value) (b : ByteArray) (n base : Nat) (fs : List (ByteArray × ByteArray)) (w : World) (hv : FieldsV w base v n fs) (hn : n ≤ 1073741824) (hsz : WalkF n fs) (hp : p.size ≤ maxLen) (hb : b.size ≤ maxLen) :
    Calls Tryz.prog 37 #[.agg #[.int .i64 m, .string p, v, .string b]] w fun e w' => BoolIs (ReqP m p fs b) w e w' := by
  obtain ⟨oa, cap, rfl, _⟩ := hv.slice
  obtain ⟨r, hr⟩ : ∃ r, r = w.heap.size := ⟨_, rfl⟩
  have HR : Hid (∀ W, Below (w.alloc (.cells #[.int .i64 m, .string p, .slice oa n cap, .string b] 38)).heap.size (w.alloc (.cells #[.int .i64 m, .string p, .slice oa n cap, .string b] 38)) W → (W.cell? ⟨r, 1, none⟩ = some (.string p) ∧ W.cell? ⟨r, 2, none⟩ = some (.slice oa n cap) ∧ W.cell? ⟨r, 3, none⟩ = some (.string b)) ∧ FieldsV W base (.slice oa n cap) n fs ∧ Below w.heap.size w W) := fun W h => by
    have hh := kept_new h
    rw [← hr] at hh
    exact ⟨⟨by simp [World.cell?, hh], by simp [World.cell?, hh], by simp [World.cell?, hh]⟩, hv.below (below_new h), below_new h⟩
  have HSZ : Hid (WalkF n fs) := hsz
  have HP : Hid (p.size ≤ maxLen) := hp
  unfold maxLen at hb
  clear hv hsz hp
  go_enter Tryz.func37, Tryz.ntmps37
  go_wp2_with fail
  refine (l1In_any m 1 4 _).mono ?_
  rintro e w1 ⟨rfl, hw1⟩
  have hb1 : Below (w.alloc (.cells #[.int .i64 m, .string p, .slice oa n cap, .string b] 38)).heap.size (w.alloc (.cells #[.int .i64 m, .string p, .slice oa n cap, .string b] 38)) w1 := by rw [hw1]; exact Below.refl _ _
  clear hw1
  rw [← hr]
  obtain ⟨⟨c1, c2, c3⟩, _, hbw1⟩ := HR.out w1 hb1
  by_cases hm : 1 ≤ m ∧ m ≤ 4
  · have e1 : decide (1 ≤ m ∧ m ≤ 4) = true := by simpa using hm
    have HM : Hid (1 ≤ m ∧ m ≤ 4) := hm
    rw [e1]
    clear hr hm e1
    go_wp2_with fail
    refine (l3Path_any p _ HP.out).mono ?_
    rintro e w2 ⟨b1, rfl, kb1, bb2⟩
    have hb2 := hb1.trans (bb2.mono hb1.size)
    clear c1 c2 c3 bb2 hb1 hbw1
    obtain ⟨⟨c1, c2, c3⟩, hv2, hbw2⟩ := HR.out w2 hb2
    have HV2 : Hid (FieldsV w2 base (.slice oa n cap) n fs) := hv2
    clear hv2
    cases b1
    · have HF : Hid (¬ ReqP m p fs b) := fun h => by have := kb1.2 h.2.1; cases this
      clear kb1
      go_wp2_with fail
      go_ret
      exact BoolIs.no HF.out hbw2
    · have HT : Hid (PathOk p) := kb1.1 rfl
      clear kb1
      go_wp2_with fail
      refine (specFieldsOk_any _ n base fs _ HV2.out hn HSZ.out).mono ?_
      rintro e w3 ⟨b2, rfl, kb2, bb3⟩
      have hb3 := hb2.trans (bb3.mono hb2.size)
      clear c1 c2 c3 bb3 hb2 hbw2
      obtain ⟨⟨c1, c2, c3⟩, _, hbw3⟩ := HR.out w3 hb3
      cases b2
      · have HF : Hid (¬ ReqP m p fs b) := fun h => by have := kb2.2 h.2.2.1; cases this
        clear kb2
        go_wp2_with fail
        go_ret
        exact BoolIs.no HF.out hbw3
      · have HT2 : Hid (FldsOk fs) := kb2.1 rfl
        clear kb2
        by_cases h120 : (b.size : Int) ≤ 120
        · have HY : Hid (ReqP m p fs b) := ⟨HM.out, HT.out, HT2.out, by omega⟩
          go_wp2_with fail
          go_ret
          exact BoolIs.yes HY.out hbw3
        · have HF : Hid (¬ ReqP m p fs b) := fun h => by have := h.2.2.2; omega
          have hd : decide ((b.size : Int) ≤ 120) = false := by simpa using h120
          go_wp2_with fail
          go_ret
          exact BoolIs.no HF.out hbw3
  · have e1 : decide (1 ≤ m ∧ m ≤ 4) = false := by simpa using hm
    have HF : Hid (¬ ReqP m p fs b) := fun h => hm h.1
    rw [e1]
    clear hr hm e1
    go_wp2_with fail
    go_ret
    exact BoolIs.no HF.out hbw1

set_option maxHeartbeats 1000000 in
theorem specRespOk_any (st : Int) (v : Value) (b : ByteArray) (n base : Nat) (fs : List (ByteArray × ByteArray)) (w : World) (hv : FieldsV w base v n fs) (hn : n ≤ 1073741824) (hsz : WalkF n fs) (hb : b.size ≤ maxLen) :
    Calls Tryz.prog 38 #[.agg #[.int .i64 st, v, .string b]] w fun e w' => BoolIs (RespP st fs b) w e w' := by
  obtain ⟨oa, cap, rfl, _⟩ := hv.slice
  obtain ⟨r, hr⟩ : ∃ r, r = w.heap.size := ⟨_, rfl⟩
  have HR : Hid (∀ W, Below (w.alloc (.cells #[.int .i64 st, .slice oa n cap, .string b] 32)).heap.size (w.alloc (.cells #[.int .i64 st, .slice oa n cap, .string b] 32)) W → (W.cell? ⟨r, 1, none⟩ = some (.slice oa n cap) ∧ W.cell? ⟨r, 2, none⟩ = some (.string b)) ∧ FieldsV W base (.slice oa n cap) n fs ∧ Below w.heap.size w W) := fun W h => by
    have hh := kept_new h
    rw [← hr] at hh
    exact ⟨⟨by simp [World.cell?, hh], by simp [World.cell?, hh]⟩, hv.below (below_new h), below_new h⟩
  have HSZ : Hid (WalkF n fs) := hsz
  unfold maxLen at hb
  clear hv hsz
  go_enter Tryz.func38, Tryz.ntmps38
  go_wp2_with fail
  refine (l1In_any st 100 599 _).mono ?_
  rintro e w1 ⟨rfl, hw1⟩
  have hb1 : Below (w.alloc (.cells #[.int .i64 st, .slice oa n cap, .string b] 32)).heap.size (w.alloc (.cells #[.int .i64 st, .slice oa n cap, .string b] 32)) w1 := by rw [hw1]; exact Below.refl _ _
  clear hw1
  rw [← hr]
  obtain ⟨⟨c2, c3⟩, hv1, hbw1⟩ := HR.out w1 hb1
  have HV1 : Hid (FieldsV w1 base (.slice oa n cap) n fs) := hv1
  clear hv1
  by_cases hm : 100 ≤ st ∧ st ≤ 599
  · have e1 : decide (100 ≤ st ∧ st ≤ 599) = true := by simpa using hm
    have HM : Hid (100 ≤ st ∧ st ≤ 599) := hm
    rw [e1]
    clear hr hm e1
    go_wp2_with fail
    refine (specFieldsOk_any _ n base fs _ HV1.out hn HSZ.out).mono ?_
    rintro e w3 ⟨b2, rfl, kb2, bb3⟩
    have hb3 := hb1.trans (bb3.mono hb1.size)
    clear c2 c3 bb3 hb1 hbw1
    obtain ⟨⟨c2, c3⟩, _, hbw3⟩ := HR.out w3 hb3
    cases b2
    · have HF : Hid (¬ RespP st fs b) := fun h => by have := kb2.2 h.2.1; cases this
      clear kb2
      go_wp2_with fail
      go_ret
      exact BoolIs.no HF.out hbw3
    · have HT2 : Hid (FldsOk fs) := kb2.1 rfl
      clear kb2
      by_cases h120 : (b.size : Int) ≤ 120
      · have HY : Hid (RespP st fs b) := ⟨HM.out, HT2.out, by omega⟩
        go_wp2_with fail
        go_ret
        exact BoolIs.yes HY.out hbw3
      · have HF : Hid (¬ RespP st fs b) := fun h => by have := h.2.2; omega
        have hd : decide ((b.size : Int) ≤ 120) = false := by simpa using h120
        go_wp2_with fail
        go_ret
        exact BoolIs.no HF.out hbw3
  · have e1 : decide (100 ≤ st ∧ st ≤ 599) = false := by simpa using hm
    have HF : Hid (¬ RespP st fs b) := fun h => hm h.1
    rw [e1]
    clear hr hm e1
    go_wp2_with fail
    go_ret
    exact BoolIs.no HF.out hbw1

end Go.Proofs.YtdlhicdfldecgaaGreat

namespace Go.Proofs.YtdlhicdfldecgaaGreat
open Go.RowKit
open Go.Lib hiding intOf

theorem two_text (a b : ByteArray) : ∀ u ∈ [Value.string a, Value.string b], u.oneCell' = true := by
  intro u hu
  simp at hu
  rcases hu with rfl | rfl <;> rfl

/-- A call answers a list of these fields in memory of its own, and turns nothing that was there. -/
def RowF (fs : List (ByteArray × ByteArray)) (w : World) (e : Ending) (w' : World) : Prop :=
  ∃ v, e = .returned v ∧ w'.ownsRow w.heap.size 75 2 v fs.length (flatF fs) ∧ Below w.heap.size w w'

def putF (fs : List (ByteArray × ByteArray)) (name value : ByteArray) : List (ByteArray × ByteArray) :=
  if atF fs name < fs.length then fs.set (atF fs name) (nameAt fs (atF fs name), value) else fs ++ [(name, value)]
/-- The cells of a row, one behind the other. -/
theorem FieldRow.cells {base : Nat} {w : World} {g n cap : Nat} {fs : List (ByteArray × ByteArray)} (h : FieldRow base w g n cap fs) : ∀ j u, (flatF fs)[j]? = some u → w.cell? ((⟨g, 0, none⟩ : Addr).add j) = some u := by
  intro j u hj
  have hl := h.len
  have hjl : j < fs.length * 2 := by
    rw [← flatF_len]
    exact (List.getElem?_eq_some_iff.1 hj).1
  have e0 : (⟨g, 0, none⟩ : Addr).add j = ⟨g, j, none⟩ := by
    unfold Addr.add; split <;> simp_all
  rw [e0]
  have hf := flatF_get fs (j / 2) (by omega)
  rcases Nat.mod_two_eq_zero_or_one j with e | e
  · have e2 : j / 2 * 2 = j := by omega
    have hc := h.name (j / 2) (by omega)
    rw [e2] at hf hc
    rw [hf.1] at hj
    cases hj
    exact hc
  · have e2 : j / 2 * 2 + 1 = j := by omega
    have hc := h.val (j / 2) (by omega)
    rw [e2] at hf hc
    rw [hf.2] at hj
    cases hj
    exact hc
theorem flat_one (fs : List (ByteArray × ByteArray)) : ∀ u ∈ flatF fs, u.oneCell' = true := by
  intro u hu
  simp only [flatF, List.mem_flatMap] at hu
  obtain ⟨f, _, hf⟩ := hu
  exact two_text f.1 f.2 u hf

/-- What 'append' reads of a list: nil, or cells behind an address. -/
theorem FieldsV.src {w : World} {base n : Nat} {v : Value} {fs : List (ByteArray × ByteArray)} (h : FieldsV w base v n fs) :
    (v = .slice none 0 0 ∧ n = 0 ∧ fs = []) ∨ ∃ ad cap, v = .slice (some ad) n cap ∧ ∀ j u, (flatF fs)[j]? = some u → w.cell? (ad.add j) = some u := by
  rcases h with ⟨oa, cap, rfl, h0, rfl, rfl⟩ | ⟨g, cap, rfl, _, row⟩
  · cases oa with
    | none => exact .inl ⟨by rw [h0 rfl], rfl, rfl⟩
    | some ad => exact .inr ⟨ad, cap, rfl, fun j u hj => by simp [flatF] at hj⟩
  · exact .inr ⟨_, cap, rfl, row.cells⟩

end Go.Proofs.YtdlhicdfldecgaaGreat

namespace Go.Proofs.YtdlhicdfldecgaaGreat
open Go.RowKit
open Go.Lib hiding intOf

/-- A list of texts that a function reads, in blocks below B. -/
def TextsV (w : World) (B : Nat) (a : Option Addr) (n : Nat) (xs : List ByteArray) : Prop :=
  xs.length = n ∧ ∀ i (h : i < xs.length), ∃ g off, a = some ⟨g, off, none⟩ ∧ g < B ∧ w.cell? ⟨g, off + i, none⟩ = some (.string (xs[i]'h))
theorem TextsV.below {w w' : World} {B : Nat} {a : Option Addr} {n : Nat} {xs : List ByteArray} (h : TextsV w B a n xs) (hb : Below B w w') : TextsV w' B a n xs :=
  ⟨h.1, fun i hi => by
    obtain ⟨g, off, h1, h2, h3⟩ := h.2 i hi
    exact ⟨g, off, h1, h2, by rw [hb.cell (p := ⟨g, off + i, none⟩) h2]; exact h3⟩⟩

end Go.Proofs.YtdlhicdfldecgaaGreat

namespace Go.Proofs.YtdlhicdfldecgaaGreat
open Go.RowKit
open Go.Lib hiding intOf

theorem map_bs_inj : ∀ {a b : List ByteArray}, a.map bs = b.map bs → a = b
  | [], [], _ => rfl
  | [], _ :: _, h => by simp at h
  | _ :: _, [], h => by simp at h
  | x :: r, y :: t, h => by
    simp only [List.map_cons, List.cons.injEq] at h
    rw [map_bs_inj h.2, bs_inj h.1]

/-- What is read of a text, ahead of the last look: the words of its first line, the fields of the others, what is behind. -/
structure Parts (s : ByteArray) (xs : List ByteArray) (k : Nat) (ws : List ByteArray) (l : List (ByteArray × ByteArray)) : Prop where
  head : headL [] [] (bs s) = (xs.map bs, some ((bs s).drop k))
  ne : xs ≠ []
  words : wordsL [] [] (bs (xs.headD ⟨#[]⟩)) = ws.map bs
  fields : fieldsL (xs.tail.map bs) = l.map bsP
/-- A request's text is read as the request. -/
theorem IsReq.parts {s : ByteArray} {m : Int} {p : ByteArray} {fs : List (ByteArray × ByteArray)} {b : ByteArray} (h : IsReq s m p fs b) {xs : List ByteArray} {k : Nat} {ws : List ByteArray} {l : List (ByteArray × ByteArray)} (hp : Parts s xs k ws l) :
    ∃ x, ws = [methB m, p, x] ∧ l = fs ∧ s.extract k s.size = b := by
  have e := hp.head.symm.trans (req_head h)
  simp only [Prod.mk.injEq, Option.some.injEq] at e
  obtain ⟨e1, e2⟩ := e
  obtain ⟨x0, xr, rfl⟩ : ∃ x0 xr, xs = x0 :: xr := by
    cases xs with
    | nil => exact absurd rfl hp.ne
    | cons a r => exact ⟨a, r, rfl⟩
  simp only [List.map_cons, List.cons.injEq] at e1
  have hw := hp.words
  simp only [List.headD_cons] at hw
  rw [e1.1, req_words h.1.1 h.1.2.1] at hw
  have hf := hp.fields
  simp only [List.tail_cons] at hf
  rw [e1.2, req_fields h.1.2.2.1] at hf
  refine ⟨⟨httpL.toArray⟩, map_bs_inj (by rw [← hw]; rfl), (pairs_inj hf).symm, bs_inj ?_⟩
  rw [bs_extract, List.take_of_length_le (i := s.size) (l := bs s) (by rw [bs_len]; omega)]
  exact e2

theorem slice_of_owns {w : World} {base : Nat} {t : TypeId} {size : Nat} {v : Value} {n : Nat} {xs : List Value} (h : w.ownsRow base t size v n xs) : ∃ oa cp, v = .slice oa n cp := by
  rcases h.2 with ⟨rfl, rfl⟩ | ⟨g, cap, cur, rfl, _⟩
  · exact ⟨none, 0, rfl⟩
  · exact ⟨_, cap, rfl⟩
/-- The four cells of a request's memory, written. -/
def fourSet (w : World) (r : Nat) (a b c d : Value) : World := (((w.setCell ⟨r, 0, none⟩ a).setCell ⟨r, 1, none⟩ b).setCell ⟨r, 2, none⟩ c).setCell ⟨r, 3, none⟩ d
theorem four_facts {W : World} {R : Nat} {a b c d : Value} {t : TypeId} (h : W.heap[R]? = some (.cells #[a, b, c, d] t)) :
    (W.cell? ⟨R, 0, none⟩ = some a ∧ W.cell? ⟨R, 1, none⟩ = some b ∧ W.cell? ⟨R, 2, none⟩ = some c ∧ W.cell? ⟨R, 3, none⟩ = some d) ∧ W.frozen? ⟨R, 0, none⟩ = false ∧ W.frozen? ⟨R, 1, none⟩ = false ∧ W.frozen? ⟨R, 2, none⟩ = false ∧ W.frozen? ⟨R, 3, none⟩ = false := by
  refine ⟨⟨?_, ?_, ?_, ?_⟩, ?_, ?_, ?_, ?_⟩ <;> simp [World.cell?, World.frozen?, h]
theorem four_set {W : World} {R : Nat} {a b c d : Value} {t : TypeId} (h : W.heap[R]? = some (.cells #[a, b, c, d] t)) (a' b' c' d' : Value) : (fourSet W R a' b' c' d').heap[R]? = some (.cells #[a', b', c', d'] t) := by
  have := heap_set _ R 3 _ _ _ d' (heap_set _ R 2 _ _ _ c' (heap_set _ R 1 _ _ _ b' (heap_set W R 0 _ _ _ a' h)))
  simpa [fourSet] using this
theorem below_four {w W : World} {B R : Nat} {a b c d : Value} (h : Below B w W) (hR : B ≤ R) : Below B w (fourSet W R a b c d) :=
  (((h.setCell (p := ⟨R, 0, none⟩) hR _).setCell (p := ⟨R, 1, none⟩) hR _).setCell (p := ⟨R, 2, none⟩) hR _).setCell (p := ⟨R, 3, none⟩) hR _

end Go.Proofs.YtdlhicdfldecgaaGreat

namespace Go.Proofs.YtdlhicdfldecgaaGreat
open Go.RowKit
open Go.Lib hiding intOf

set_option maxHeartbeats 2000000 in
set_option maxRecDepth 100000 in
theorem toReq_any (m : Int) (p : ByteArray) (a : Option Addr) (n cap : Nat) (b : ByteArray) (fs : List (ByteArray × ByteArray)) (B : Nat) (w : World) (harg : ArgF w B a n fs) (hB : B ≤ w.heap.size) (hn : n ≤ 1048576) :
    Calls Tryz.prog 7 #[.agg #[.int .i64 m, .string p, .slice a n cap, .string b]] w fun e w' => ∃ v, e = .returned (.agg #[.int .i64 m, .string p, v, .string b]) ∧ w'.ownsRow w.heap.size 75 2 v n (flatF fs) ∧ Below w.heap.size w w' := by
  obtain ⟨w0, hw0⟩ : ∃ W, W = (((w.alloc (.cells #[.int .i64 m, .string p, .slice a n cap, .string b] 24)).alloc (.cells #[.int .i64 0, .string ⟨#[]⟩, .slice none 0 0, .string ⟨#[]⟩] 38)).alloc (.cells #[.int .i64 m, .string p, .slice none 0 0, .string ⟨#[]⟩] 38)) := ⟨_, rfl⟩
  have hs0 : w0.heap.size = w.heap.size + 1 + 1 + 1 := by rw [hw0]; simp
  have hb0 : Below w.heap.size w w0 := by rw [hw0]; exact (((Below.refl _ w).alloc (Nat.le_refl _) _).alloc (by simp) _).alloc (by simp; omega) _
  have x1 : w0.heap[w.heap.size]? = some (.cells #[.int .i64 m, .string p, .slice a n cap, .string b] 24) := by
    rw [hw0, heap_alloc_old _ _ (by simp; omega), heap_alloc_old _ _ (by simp)]; exact heap_alloc_new w _
  have x2 : w0.heap[w.heap.size + 1]? = some (.cells #[.int .i64 0, .string ⟨#[]⟩, .slice none 0 0, .string ⟨#[]⟩] 38) := by
    rw [hw0, heap_alloc_old _ _ (by simp)]
    have := heap_alloc_new (w.alloc (.cells #[.int .i64 m, .string p, .slice a n cap, .string b] 24)) (.cells #[.int .i64 0, .string ⟨#[]⟩, .slice none 0 0, .string ⟨#[]⟩] 38)
    simpa using this
  have x3 : w0.heap[w.heap.size + 1 + 1]? = some (.cells #[.int .i64 m, .string p, .slice none 0 0, .string ⟨#[]⟩] 38) := by
    rw [hw0]
    have := heap_alloc_new ((w.alloc (.cells #[.int .i64 m, .string p, .slice a n cap, .string b] 24)).alloc (.cells #[.int .i64 0, .string ⟨#[]⟩, .slice none 0 0, .string ⟨#[]⟩] 38)) (.cells #[.int .i64 m, .string p, .slice none 0 0, .string ⟨#[]⟩] 38)
    simpa using this
  go_enter Tryz.func7, Tryz.ntmps7
  go_wp2_with fail
  rw [← hw0]
  refine (toFieldS_any B a n cap fs _ (harg.below (hb0.mono hB)) (by omega) hn).mono ?_
  rintro e w1 ⟨v, rfl, hown, bb1⟩
  obtain ⟨fo, fc, rfl⟩ := slice_of_owns hown
  rw [← bb1.block _ (by omega)] at x1 x2 x3
  obtain ⟨o, ho⟩ : ∃ o, o = w.heap.size + 1 + 1 := ⟨_, rfl⟩
  obtain ⟨q, hq⟩ : ∃ q, q = w.heap.size + 1 := ⟨_, rfl⟩
  obtain ⟨c, hc⟩ : ∃ c, c = w.heap.size := ⟨_, rfl⟩
  rw [← ho] at x3
  rw [← hq] at x2
  rw [← hc] at x1
  have hqo : q ≠ o := by omega
  have hco : c ≠ o := by omega
  have hoq : o ≠ q := by omega
  have hoc : o ≠ c := by omega
  have hqw : w.heap.size ≤ q := by omega
  have how : w.heap.size ≤ o := by omega
  obtain ⟨⟨a0, a1, a2, a3⟩, _⟩ := four_facts x1
  obtain ⟨⟨b0, b1, b2, b3⟩, e0, e1, e2, e3⟩ := four_facts x2
  obtain ⟨⟨d0, d1, d2, d3⟩, f0, f1, f2, f3⟩ := four_facts x3
  have hbw1 : Below w.heap.size w w1 := hb0.trans (bb1.mono hb0.size)
  have HFIN : Hid (∀ W : World, W = (w1.setCell ⟨o, 2, none⟩ (.slice fo n fc)).setCell ⟨o, 3, none⟩ (.string b) → ((fourSet W q (.int .i64 m) (.string p) (.slice fo n fc) (.string b)).heap[q]? = some (.cells #[.int .i64 m, .string p, .slice fo n fc, .string b] 38)) ∧ (fourSet W q (.int .i64 m) (.string p) (.slice fo n fc) (.string b)).ownsRow w.heap.size 75 2 (.slice fo n fc) n (flatF fs) ∧ Below w.heap.size w (fourSet W q (.int .i64 m) (.string p) (.slice fo n fc) (.string b))) := fun W hW => by
    have hx2 : W.heap[q]? = some (.cells #[.int .i64 0, .string ⟨#[]⟩, .slice none 0 0, .string ⟨#[]⟩] 38) := by rw [hW, heap_setCell_other _ _ q _ (fun e => hqo e), heap_setCell_other _ _ q _ (fun e => hqo e)]; exact x2
    have hbW : Below w.heap.size w W := by rw [hW]; exact (hbw1.setCell (p := ⟨o, 2, none⟩) how _).setCell (p := ⟨o, 3, none⟩) how _
    refine ⟨four_set hx2 _ _ _ _, ?_, below_four hbW hqw⟩
    have hown1 : w1.ownsRow w.heap.size 75 2 (.slice fo n fc) n (flatF fs) := by
      refine ⟨hown.1, ?_⟩
      rcases hown.2 with h6 | ⟨g6, cap6, cur6, h7, h8, h9⟩
      · exact .inl h6
      · exact .inr ⟨g6, cap6, cur6, h7, by omega, h9⟩
    refine ⟨hown1.1, ?_⟩
    rcases hown.2 with h6 | ⟨g6, cap6, cur6, h7, h8, h9, h10⟩
    · exact .inl h6
    · refine .inr ⟨g6, cap6, cur6, h7, by omega, ?_, h10⟩
      have n1 : g6 ≠ q := by omega
      have n2 : g6 ≠ o := by omega
      unfold fourSet
      rw [heap_setCell_other _ _ g6 _ (fun e => n1 e), heap_setCell_other _ _ g6 _ (fun e => n1 e), heap_setCell_other _ _ g6 _ (fun e => n1 e), heap_setCell_other _ _ g6 _ (fun e => n1 e), hW, heap_setCell_other _ _ g6 _ (fun e => n2 e), heap_setCell_other _ _ g6 _ (fun e => n2 e)]
      exact h9
  obtain ⟨hh, hof, hbf⟩ := HFIN.out _ rfl
  obtain ⟨⟨k0, k1, k2, k3⟩, _⟩ := four_facts hh
  have HOF : Hid _ := hof
  have HBF : Hid _ := hbf
  unfold fourSet at k0 k1 k2 k3
  rw [← ho, ← hq, ← hc]
  clear x1 x2 x3 ho hq hc hw0 hs0 hb0 bb1 hown hbw1 hh hof hbf harg hB HFIN a0 a1 a2
  go_wp2_with fail
  exact bodyPost_ret (v := .agg #[.int .i64 m, .string p, .slice fo n fc, .string b]) (by simp [results, Tryz.results7, go_sem, k0, k1, k2, k3]) rfl ⟨_, rfl, HOF.out, HBF.out⟩

theorem three_facts {W : World} {R : Nat} {a b c : Value} {t : TypeId} (h : W.heap[R]? = some (.cells #[a, b, c] t)) :
    (W.cell? ⟨R, 0, none⟩ = some a ∧ W.cell? ⟨R, 1, none⟩ = some b ∧ W.cell? ⟨R, 2, none⟩ = some c) ∧ W.frozen? ⟨R, 0, none⟩ = false ∧ W.frozen? ⟨R, 1, none⟩ = false ∧ W.frozen? ⟨R, 2, none⟩ = false := by
  refine ⟨⟨?_, ?_, ?_⟩, ?_, ?_, ?_⟩ <;> simp [World.cell?, World.frozen?, h]
/-- The three cells of an answer's memory, written. -/
def threeSet (w : World) (r : Nat) (a b c : Value) : World := ((w.setCell ⟨r, 0, none⟩ a).setCell ⟨r, 1, none⟩ b).setCell ⟨r, 2, none⟩ c
theorem three_set {W : World} {R : Nat} {a b c : Value} {t : TypeId} (h : W.heap[R]? = some (.cells #[a, b, c] t)) (a' b' c' : Value) : (threeSet W R a' b' c').heap[R]? = some (.cells #[a', b', c'] t) := by
  have := heap_set _ R 2 _ _ _ c' (heap_set _ R 1 _ _ _ b' (heap_set W R 0 _ _ _ a' h))
  simpa [threeSet] using this
theorem below_three {w W : World} {B R : Nat} {a b c : Value} (h : Below B w W) (hR : B ≤ R) : Below B w (threeSet W R a b c) :=
  ((h.setCell (p := ⟨R, 0, none⟩) hR _).setCell (p := ⟨R, 1, none⟩) hR _).setCell (p := ⟨R, 2, none⟩) hR _

set_option maxHeartbeats 2000000 in
set_option maxRecDepth 100000 in
theorem toResp_any (m : Int) (a : Option Addr) (n cap : Nat) (b : ByteArray) (fs : List (ByteArray × ByteArray)) (B : Nat) (w : World) (harg : ArgF w B a n fs) (hB : B ≤ w.heap.size) (hn : n ≤ 1048576) :
    Calls Tryz.prog 8 #[.agg #[.int .i64 m, .slice a n cap, .string b]] w fun e w' => ∃ v, e = .returned (.agg #[.int .i64 m, v, .string b]) ∧ w'.ownsRow w.heap.size 75 2 v n (flatF fs) ∧ Below w.heap.size w w' := by
  obtain ⟨w0, hw0⟩ : ∃ W, W = (((w.alloc (.cells #[.int .i64 m, .slice a n cap, .string b] 26)).alloc (.cells #[.int .i64 0, .slice none 0 0, .string ⟨#[]⟩] 32)).alloc (.cells #[.int .i64 m, .slice none 0 0, .string ⟨#[]⟩] 32)) := ⟨_, rfl⟩
  have hs0 : w0.heap.size = w.heap.size + 1 + 1 + 1 := by rw [hw0]; simp
  have hb0 : Below w.heap.size w w0 := by rw [hw0]; exact (((Below.refl _ w).alloc (Nat.le_refl _) _).alloc (by simp) _).alloc (by simp; omega) _
  have x1 : w0.heap[w.heap.size]? = some (.cells #[.int .i64 m, .slice a n cap, .string b] 26) := by
    rw [hw0, heap_alloc_old _ _ (by simp; omega), heap_alloc_old _ _ (by simp)]; exact heap_alloc_new w _
  have x2 : w0.heap[w.heap.size + 1]? = some (.cells #[.int .i64 0, .slice none 0 0, .string ⟨#[]⟩] 32) := by
    rw [hw0, heap_alloc_old _ _ (by simp)]
    have := heap_alloc_new (w.alloc (.cells #[.int .i64 m, .slice a n cap, .string b] 26)) (.cells #[.int .i64 0, .slice none 0 0, .string ⟨#[]⟩] 32)
    simpa using this
  have x3 : w0.heap[w.heap.size + 1 + 1]? = some (.cells #[.int .i64 m, .slice none 0 0, .string ⟨#[]⟩] 32) := by
    rw [hw0]
    have := heap_alloc_new ((w.alloc (.cells #[.int .i64 m, .slice a n cap, .string b] 26)).alloc (.cells #[.int .i64 0, .slice none 0 0, .string ⟨#[]⟩] 32)) (.cells #[.int .i64 m, .slice none 0 0, .string ⟨#[]⟩] 32)
    simpa using this
  go_enter Tryz.func8, Tryz.ntmps8
  go_wp2_with fail
  rw [← hw0]
  refine (toFieldS_any B a n cap fs _ (harg.below (hb0.mono hB)) (by omega) hn).mono ?_
  rintro e w1 ⟨v, rfl, hown, bb1⟩
  obtain ⟨fo, fc, rfl⟩ := slice_of_owns hown
  rw [← bb1.block _ (by omega)] at x1 x2 x3
  obtain ⟨o, ho⟩ : ∃ o, o = w.heap.size + 1 + 1 := ⟨_, rfl⟩
  obtain ⟨q, hq⟩ : ∃ q, q = w.heap.size + 1 := ⟨_, rfl⟩
  obtain ⟨c, hc⟩ : ∃ c, c = w.heap.size := ⟨_, rfl⟩
  rw [← ho] at x3
  rw [← hq] at x2
  rw [← hc] at x1
  have hqo : q ≠ o := by omega
  have hco : c ≠ o := by omega
  have hoq : o ≠ q := by omega
  have hoc : o ≠ c := by omega
  have hqw : w.heap.size ≤ q := by omega
  have how : w.heap.size ≤ o := by omega
  obtain ⟨⟨a0, a1, a2⟩, _⟩ := three_facts x1
  obtain ⟨⟨b0, b1, b2⟩, e0, e1, e2⟩ := three_facts x2
  obtain ⟨⟨d0, d1, d2⟩, f0, f1, f2⟩ := three_facts x3
  have hbw1 : Below w.heap.size w w1 := hb0.trans (bb1.mono hb0.size)
  have HFIN : Hid (∀ W : World, W = (w1.setCell ⟨o, 1, none⟩ (.slice fo n fc)).setCell ⟨o, 2, none⟩ (.string b) → ((threeSet W q (.int .i64 m) (.slice fo n fc) (.string b)).heap[q]? = some (.cells #[.int .i64 m, .slice fo n fc, .string b] 32)) ∧ (threeSet W q (.int .i64 m) (.slice fo n fc) (.string b)).ownsRow w.heap.size 75 2 (.slice fo n fc) n (flatF fs) ∧ Below w.heap.size w (threeSet W q (.int .i64 m) (.slice fo n fc) (.string b))) := fun W hW => by
    have hx2 : W.heap[q]? = some (.cells #[.int .i64 0, .slice none 0 0, .string ⟨#[]⟩] 32) := by rw [hW, heap_setCell_other _ _ q _ (fun e => hqo e), heap_setCell_other _ _ q _ (fun e => hqo e)]; exact x2
    have hbW : Below w.heap.size w W := by rw [hW]; exact (hbw1.setCell (p := ⟨o, 1, none⟩) how _).setCell (p := ⟨o, 2, none⟩) how _
    refine ⟨three_set hx2 _ _ _, ?_, below_three hbW hqw⟩
    have hown1 : w1.ownsRow w.heap.size 75 2 (.slice fo n fc) n (flatF fs) := by
      refine ⟨hown.1, ?_⟩
      rcases hown.2 with h6 | ⟨g6, cap6, cur6, h7, h8, h9⟩
      · exact .inl h6
      · exact .inr ⟨g6, cap6, cur6, h7, by omega, h9⟩
    refine ⟨hown1.1, ?_⟩
    rcases hown.2 with h6 | ⟨g6, cap6, cur6, h7, h8, h9, h10⟩
    · exact .inl h6
    · refine .inr ⟨g6, cap6, cur6, h7, by omega, ?_, h10⟩
      have n1 : g6 ≠ q := by omega
      have n2 : g6 ≠ o := by omega
      unfold threeSet
      rw [heap_setCell_other _ _ g6 _ (fun e => n1 e), heap_setCell_other _ _ g6 _ (fun e => n1 e), heap_setCell_other _ _ g6 _ (fun e => n1 e), hW, heap_setCell_other _ _ g6 _ (fun e => n2 e), heap_setCell_other _ _ g6 _ (fun e => n2 e)]
      exact h9
  obtain ⟨hh, hof, hbf⟩ := HFIN.out _ rfl
  obtain ⟨⟨k0, k1, k2⟩, _⟩ := three_facts hh
  have HOF : Hid _ := hof
  have HBF : Hid _ := hbf
  unfold threeSet at k0 k1 k2
  rw [← ho, ← hq, ← hc]
  clear x1 x2 x3 ho hq hc hw0 hs0 hb0 bb1 hown hbw1 hh hof hbf harg hB HFIN a0 a1
  go_wp2_with fail
  exact bodyPost_ret (v := .agg #[.int .i64 m, .slice fo n fc, .string b]) (by simp [results, Tryz.results8, go_sem, k0, k1, k2]) rfl ⟨_, rfl, HOF.out, HBF.out⟩

set_option maxHeartbeats 2000000 in
set_option maxRecDepth 100000 in
theorem eqReq_any (m : Int) (p : ByteArray) (v1 v2 : Value) (b : ByteArray) (n b1 b2 : Nat) (fs : List (ByteArray × ByteArray)) (w : World) (h1 : FieldsV w b1 v1 n fs) (h2 : FieldsV w b2 v2 n fs) (hn : n ≤ 2000000) :
    Calls Tryz.prog 11 #[.agg #[.int .i64 m, .string p, v1, .string b], .agg #[.int .i64 m, .string p, v2, .string b]] w fun e w' => e = .returned (.bool true) ∧ Below w.heap.size w w' := by
  obtain ⟨oa, ca, rfl, _⟩ := h1.slice
  obtain ⟨ob, cb, rfl, _⟩ := h2.slice
  have tp : (p.toList == p.toList) = true := by simp
  have tb : (b.toList == b.toList) = true := by simp
  have tm : (m != m) = false := by simp
  obtain ⟨w0, hw0⟩ : ∃ W, W = ((w.alloc (.cells #[.int .i64 m, .string p, .slice oa n ca, .string b] 38)).alloc (.cells #[.int .i64 m, .string p, .slice ob n cb, .string b] 38)) := ⟨_, rfl⟩
  have hs0 : w0.heap.size = w.heap.size + 1 + 1 := by rw [hw0]; simp
  have hb0 : Below w.heap.size w w0 := by rw [hw0]; exact ((Below.refl _ w).alloc (Nat.le_refl _) _).alloc (by simp) _
  have x1 : w0.heap[w.heap.size]? = some (.cells #[.int .i64 m, .string p, .slice oa n ca, .string b] 38) := by
    rw [hw0, heap_alloc_old _ _ (by simp)]; exact heap_alloc_new w _
  have x2 : w0.heap[w.heap.size + 1]? = some (.cells #[.int .i64 m, .string p, .slice ob n cb, .string b] 38) := by
    rw [hw0]
    have := heap_alloc_new (w.alloc (.cells #[.int .i64 m, .string p, .slice oa n ca, .string b] 38)) (.cells #[.int .i64 m, .string p, .slice ob n cb, .string b] 38)
    simpa using this
  go_enter Tryz.func11, Tryz.ntmps11
  go_wp2_with fail
  rw [← hw0]
  refine (eqFieldS_any _ _ n b1 b2 fs _ (h1.below hb0) (h2.below hb0) hn).mono ?_
  rintro e w1 ⟨rfl, bb1⟩
  rw [← bb1.block _ (by omega)] at x1 x2
  obtain ⟨q, hq⟩ : ∃ q, q = w.heap.size + 1 := ⟨_, rfl⟩
  obtain ⟨c, hc⟩ : ∃ c, c = w.heap.size := ⟨_, rfl⟩
  rw [← hq] at x2
  rw [← hc] at x1
  have y1 : w1.cell? ⟨c, 3, none⟩ = some (.string b) := by simp [World.cell?, x1]
  have y2 : w1.cell? ⟨q, 3, none⟩ = some (.string b) := by simp [World.cell?, x2]
  have hbw1 : Below w.heap.size w w1 := hb0.trans (bb1.mono hb0.size)
  rw [← hq, ← hc]
  clear x1 x2 hq hc hw0 hs0 hb0 bb1 h1 h2
  go_wp2
  go_ret
  exact ⟨rfl, hbw1⟩

set_option maxHeartbeats 2000000 in
set_option maxRecDepth 100000 in
theorem eqResp_any (m : Int) (v1 v2 : Value) (b : ByteArray) (n b1 b2 : Nat) (fs : List (ByteArray × ByteArray)) (w : World) (h1 : FieldsV w b1 v1 n fs) (h2 : FieldsV w b2 v2 n fs) (hn : n ≤ 2000000) :
    Calls Tryz.prog 12 #[.agg #[.int .i64 m, v1, .string b], .agg #[.int .i64 m, v2, .string b]] w fun e w' => e = .returned (.bool true) ∧ Below w.heap.size w w' := by
  obtain ⟨oa, ca, rfl, _⟩ := h1.slice
  obtain ⟨ob, cb, rfl, _⟩ := h2.slice
  have tb : (b.toList == b.toList) = true := by simp
  have tm : (m != m) = false := by simp
  obtain ⟨w0, hw0⟩ : ∃ W, W = ((w.alloc (.cells #[.int .i64 m, .slice oa n ca, .string b] 32)).alloc (.cells #[.int .i64 m, .slice ob n cb, .string b] 32)) := ⟨_, rfl⟩
  have hs0 : w0.heap.size = w.heap.size + 1 + 1 := by rw [hw0]; simp
  have hb0 : Below w.heap.size w w0 := by rw [hw0]; exact ((Below.refl _ w).alloc (Nat.le_refl _) _).alloc (by simp) _
  have x1 : w0.heap[w.heap.size]? = some (.cells #[.int .i64 m, .slice oa n ca, .string b] 32) := by
    rw [hw0, heap_alloc_old _ _ (by simp)]; exact heap_alloc_new w _
  have x2 : w0.heap[w.heap.size + 1]? = some (.cells #[.int .i64 m, .slice ob n cb, .string b] 32) := by
    rw [hw0]
    have := heap_alloc_new (w.alloc (.cells #[.int .i64 m, .slice oa n ca, .string b] 32)) (.cells #[.int .i64 m, .slice ob n cb, .string b] 32)
    simpa using this
  go_enter Tryz.func12, Tryz.ntmps12
  go_wp2_with fail
  rw [← hw0]
  refine (eqFieldS_any _ _ n b1 b2 fs _ (h1.below hb0) (h2.below hb0) hn).mono ?_
  rintro e w1 ⟨rfl, bb1⟩
  rw [← bb1.block _ (by omega)] at x1 x2
  obtain ⟨q, hq⟩ : ∃ q, q = w.heap.size + 1 := ⟨_, rfl⟩
  obtain ⟨c, hc⟩ : ∃ c, c = w.heap.size := ⟨_, rfl⟩
  rw [← hq] at x2
  rw [← hc] at x1
  have y1 : w1.cell? ⟨c, 2, none⟩ = some (.string b) := by simp [World.cell?, x1]
  have y2 : w1.cell? ⟨q, 2, none⟩ = some (.string b) := by simp [World.cell?, x2]
  have hbw1 : Below w.heap.size w w1 := hb0.trans (bb1.mono hb0.size)
  rw [← hq, ← hc]
  clear x1 x2 hq hc hw0 hs0 hb0 bb1 h1 h2
  go_wp2
  go_ret
  exact ⟨rfl, hbw1⟩

end Go.Proofs.YtdlhicdfldecgaaGreat

namespace Go.Proofs.YtdlhicdfldecgaaGreat
open Go.RowKit
open Go.Lib hiding intOf

/-- The measure is negative, or it says exactly how much room is left of L. -/
def SzEx (L : Int) (n : Nat) (fs : List (ByteArray × ByteArray)) (w : World) (e : Ending) (w' : World) : Prop :=
  ∃ r : Int, e = .returned (.int .i64 r) ∧ r ≤ L ∧ (0 ≤ r → r + (n : Int) + (szTo fs n : Int) = L ∧ n ≤ 1048576 ∧ szTo fs n ≤ 1048576) ∧ Below w.heap.size w w'

set_option maxHeartbeats 1000000 in
theorem szFieldS_exact (L : Int) (hL0 : 0 ≤ L) (hL1 : L ≤ 1048576) (B : Nat) (a : Option Addr) (n cap : Nat) (fs : List (ByteArray × ByteArray)) (w : World) (harg : ArgF w B a n fs) (hB : B ≤ w.heap.size) (hn : n ≤ maxLen) (hsz : ∀ i, i < n → (nameAt fs i).size ≤ maxLen ∧ (valAt fs i).size ≤ maxLen) :
    Calls Tryz.prog 17 #[.slice a n cap, .int .i64 L] w fun e w' => SzEx L n fs w e w' := by
  unfold maxLen at hn
  have HS : Hid (∀ i, i < n → (nameAt fs i).size ≤ maxLen ∧ (valAt fs i).size ≤ maxLen) := hsz
  clear hsz
  by_cases c1 : L - (n : Int) < 0
  · go_enter Tryz.func17, Tryz.ntmps17
    go_wp2
    go_ret
    exact ⟨-1, rfl, by omega, fun h => absurd h (by omega), Below.refl _ _⟩
  · go_enter Tryz.func17, Tryz.ntmps17
    go_wp2
    go_loopw [1, 5] (fun l i wr => ∃ (k : Nat) (x : Int), k ≤ n ∧ i = .int .i64 (k : Int) ∧ l = .int .i64 x ∧ 0 ≤ x ∧ x ≤ L ∧ Hid (x = L - (n : Int) - (szTo fs k : Int)) ∧ Below w.heap.size w wr) (fun _ i _ => n - (intOf i).toNat)
    case atStart => exact ⟨0, _, Nat.zero_le _, rfl, rfl, by omega, by omega, by show _ = _; simp [szTo], Below.refl _ _⟩
    case round =>
      obtain ⟨k, x, hk, rfl, rfl, hx0, hx1, hx, hbw⟩ := hrel
      by_cases hlt : k < n
      · have hlt2 : (k : Int) < (n : Int) := by omega
        obtain ⟨b, off, rfl, hbB, hc1, hc2⟩ := (harg.below (hbw.mono hB)).get k hlt
        obtain ⟨s1, s2⟩ := HS.out k hlt
        obtain ⟨nm, hnm⟩ : ∃ y, y = nameAt fs k := ⟨_, rfl⟩
        obtain ⟨vl, hvl⟩ : ∃ y, y = valAt fs k := ⟨_, rfl⟩
        have HZ : Hid (szTo fs (k + 1) = szTo fs k + nm.size + vl.size) := by rw [hnm, hvl]; rfl
        rw [← hnm] at hc1 s1
        rw [← hvl] at hc2 s2
        clear hnm hvl
        go_wp2_with fail
        refine (szField_any nm vl x _ hx0 (by omega) s1 s2).mono ?_
        rintro e w1 ⟨rfl, hb1⟩
        have hb2 : Below w.heap.size w w1 := hbw.trans (hb1.mono hbw.size)
        clear hc1 hc2 hb1
        by_cases d1 : x - (nm.size : Int) < 0
        · rw [if_pos d1]
          go_wp2
          go_ret
          exact ⟨-1, rfl, by omega, fun h => absurd h (by omega), hb2⟩
        · rw [if_neg d1]
          by_cases d2 : x - (nm.size : Int) - (vl.size : Int) < 0
          · rw [if_pos d2]
            go_wp2
            go_ret
            exact ⟨-1, rfl, by omega, fun h => absurd h (by omega), hb2⟩
          · rw [if_neg d2]
            obtain ⟨y, hy⟩ : ∃ y, y = x - (nm.size : Int) - (vl.size : Int) := ⟨_, rfl⟩
            rw [← hy] at d2 ⊢
            have HY : Hid (y = L - (n : Int) - (szTo fs (k + 1) : Int)) := by
              show _ = _
              rw [hy, HZ.out, hx.out]; omega
            have hy1 : y ≤ L := by omega
            clear hy d1
            go_wp2
            go_roundw
            case rel => exact ⟨k + 1, y, by omega, by go_num, rfl, by omega, hy1, HY, hb2⟩
            case measure => simp [intOf]; omega
      · have hF : Hid (x + (n : Int) + (szTo fs n : Int) = L ∧ n ≤ 1048576 ∧ szTo fs n ≤ 1048576) := by
          have := hx.out
          obtain rfl : k = n := by omega
          exact ⟨by omega, by omega, by omega⟩
        go_wp2
        go_ret
        exact ⟨x, rfl, hx1, fun _ => hF.out, hbw⟩

end Go.Proofs.YtdlhicdfldecgaaGreat

namespace Go.Proofs.YtdlhicdfldecgaaGreat
open Go.RowKit
open Go.Lib hiding intOf

/-- The list with its first k fields marked, from k0 on. -/
def mkG (k0 : Nat) (fs : List (ByteArray × ByteArray)) : Nat → List (ByteArray × ByteArray)
  | 0 => fs
  | k + 1 => (mkG k0 fs k).set k (markOf (k0 + 2 * k), markOf (k0 + 2 * k + 1))
theorem mkG_len (k0 : Nat) (fs : List (ByteArray × ByteArray)) : ∀ k, (mkG k0 fs k).length = fs.length
  | 0 => rfl
  | k + 1 => by rw [mkG, List.length_set, mkG_len k0 fs k]
theorem mkG_at (k0 : Nat) (fs : List (ByteArray × ByteArray)) (j : Nat) : ∀ k, k ≤ fs.length → j < k → nameAt (mkG k0 fs k) j = markOf (k0 + 2 * j) ∧ valAt (mkG k0 fs k) j = markOf (k0 + 2 * j + 1) := by
  intro k
  induction k with
  | zero => intro _ h; omega
  | succ k ih =>
    intro hk h
    have hs := nameAt_set (mkG k0 fs k) k j (markOf (k0 + 2 * k), markOf (k0 + 2 * k + 1)) (by rw [mkG_len]; omega)
    rw [mkG, hs.1, hs.2]
    by_cases e : j = k
    · subst e; rw [if_pos rfl, if_pos rfl]; exact ⟨rfl, rfl⟩
    · rw [if_neg e, if_neg e]; exact ih (by omega) (by omega)

set_option maxHeartbeats 2000000 in
theorem markFrom_any (v : Value) (n base : Nat) (fs : List (ByteArray × ByteArray)) (w : World) (h1 : w.ownsRow base 75 2 v n (flatF fs)) (hb : base ≤ w.heap.size) (k0 : Nat) (hk0 : 1 ≤ k0) (hn : k0 + 2 * n ≤ 9999999) :
    Calls Tryz.prog 32 #[v, .int .i64 (k0 : Int)] w fun e w' => e = .returned (.int .i64 ((k0 : Int) + 2 * (n : Int))) ∧ w'.ownsRow base 75 2 v n (flatF (mkG k0 fs n)) ∧ Below base w w' ∧ Far v w w' := by
  rcases frow_form h1 with ⟨oa, ca, rfl, _, rfl, rfl⟩ | ⟨g, cap, rfl, hp, r1⟩
  · go_enter Tryz.func32, Tryz.ntmps32
    go_wp2
    refine wp_loop_rounds 1 ?_
    rw [rounds_succ]
    go_wp2
    go_ret
    exact ⟨ret_int (by simp), h1, Below.refl _ _, fun j _ _ => rfl⟩
  · clear h1
    go_enter Tryz.func32, Tryz.ntmps32
    go_wp2
    go_loopw [1, 5] (fun q i wr => ∃ k : Nat, k ≤ n ∧ i = .int .i64 (k : Int) ∧ q = .int .i64 ((k0 : Int) + 2 * (k : Int)) ∧ Below base w wr ∧ FieldRow base wr g n cap (mkG k0 fs k) ∧ Hid (∀ j, j < w.heap.size → j ≠ g → wr.heap[j]? = w.heap[j]?)) (fun _ i _ => n - (intOf i).toNat)
    case atStart => exact ⟨0, Nat.zero_le _, rfl, by simp, Below.refl _ _, r1, fun j _ _ => rfl⟩
    case round =>
      obtain ⟨k, hk, rfl, rfl, hbw, hrow, hfar⟩ := hrel
      by_cases hlt : k < n
      · have hlt2 : (k : Int) < (n : Int) := by omega
        have hszr := hbw.size
        go_wp2_with fail
        refine (markText_int _ (k0 + 2 * k) _ (by omega) (by omega) (by omega)).mono ?_
        rintro e w1 ⟨rfl, hb1⟩
        have hrow1 := hrow.below hb1 hrow.lt
        have hc := hrow1.name k hlt
        have hf := hrow1.frozen (k * 2)
        have hb2 : Below base w w1 := hbw.trans (hb1.mono (Nat.le_trans hb hbw.size))
        have HF1 : Hid (∀ j, j < w.heap.size → j ≠ g → w1.heap[j]? = w.heap[j]?) := fun j hj hne => by rw [hb1.block j (by omega)]; exact hfar.out j hj hne
        clear hb1 hbw
        go_wp2_with fail
        refine (markText_int _ (k0 + 2 * k + 1) _ (by omega) (by omega) (by omega)).mono ?_
        rintro e w2 ⟨rfl, hb3⟩
        have hlt3 : g < (w1.setCell ⟨g, k * 2, none⟩ (.string (markOf (k0 + 2 * k)))).heap.size := by simpa using hrow1.lt
        have hblk := hb3.block g hlt3
        have hc2 : w2.cell? ⟨g, k * 2 + 1, none⟩ = some (.string (valAt (mkG k0 fs k) k)) := by
          rw [World.cell?_of_block (w := w1.setCell ⟨g, k * 2, none⟩ (.string (markOf (k0 + 2 * k)))) hblk, World.cell?_setCell_other (h := fun e => by have := congrArg Addr.off e; simp at this)]
          exact hrow1.val k hlt
        have hf2 : w2.frozen? ⟨g, k * 2 + 1, none⟩ = false := by
          rw [World.frozen?_of_block (w := w1.setCell ⟨g, k * 2, none⟩ (.string (markOf (k0 + 2 * k)))) hblk, World.frozen?_setCell]; exact hrow1.frozen _
        have hb4 : Below base w w2 := (hb2.setCell hrow.base _).trans (hb3.mono (by have := hb2.size; simp; omega))
        have hsz2 : w1.heap.size ≤ w2.heap.size := by have := hb3.size; simpa using this
        have HF2 : Hid (∀ j, j < w.heap.size → j ≠ g → (w2.setCell ⟨g, k * 2 + 1, none⟩ (.string (markOf (k0 + 2 * k + 1)))).heap[j]? = w.heap[j]?) := fun j hj hne => by
          have hs1 : w.heap.size ≤ w1.heap.size := hb2.size
          rw [heap_setCell_other _ _ j _ (fun e => hne e), hb3.block j (by simp; omega), heap_setCell_other _ _ j _ (fun e => hne e)]
          exact HF1.out j hj hne
        clear hb3 hb2
        have HROW : Hid (FieldRow base (w2.setCell ⟨g, k * 2 + 1, none⟩ (.string (markOf (k0 + 2 * k + 1)))) g n cap (mkG k0 fs (k + 1))) := hrow1.set k hlt _ _ _ (heap_setCell_congr hblk _ _) (by simpa using hsz2)
        clear hblk hc hf
        go_wp2
        go_roundw
        case rel => exact ⟨k + 1, by omega, by go_num, by first | go_num | (congr 1; omega), hb4.setCell hrow.base _, HROW, HF2⟩
        case measure => simp [intOf]; omega
      · obtain rfl : k = n := by omega
        go_wp2
        go_ret
        exact ⟨rfl, hrow.owns, hbw, fun j hj hne => hfar.out j hj (fun e => hne (by rw [e]; rfl))⟩

set_option maxHeartbeats 2000000 in
theorem heldFrom_any (v : Value) (n base : Nat) (fs : List (ByteArray × ByteArray)) (w : World) (h1 : w.ownsRow base 75 2 v n (flatF fs)) (k0 : Nat) (hk0 : 1 ≤ k0) (hn : k0 + 2 * n ≤ 9999999) (hm : ∀ j, j < n → nameAt fs j = markOf (k0 + 2 * j) ∧ valAt fs j = markOf (k0 + 2 * j + 1)) :
    Calls Tryz.prog 68 #[v, .int .i64 (k0 : Int)] w fun e w' => e = .returned (.int .i64 ((k0 : Int) + 2 * (n : Int))) ∧ Below w.heap.size w w' := by
  rcases frow_form h1 with ⟨oa, ca, rfl, _, rfl, rfl⟩ | ⟨g, cap, rfl, hp, r1⟩
  · clear hm
    go_enter Tryz.func68, Tryz.ntmps68
    go_wp2
    refine wp_loop_rounds 1 ?_
    rw [rounds_succ]
    go_wp2
    go_ret
    exact ⟨ret_int (by simp), Below.refl _ _⟩
  · clear h1
    have HM : Hid (∀ j, j < n → nameAt fs j = markOf (k0 + 2 * j) ∧ valAt fs j = markOf (k0 + 2 * j + 1)) := hm
    clear hm
    go_enter Tryz.func68, Tryz.ntmps68
    go_wp2
    go_loopw [1, 5] (fun q i wr => ∃ k : Nat, k ≤ n ∧ i = .int .i64 (k : Int) ∧ q = .int .i64 ((k0 : Int) + 2 * (k : Int)) ∧ Below w.heap.size w wr) (fun _ i _ => n - (intOf i).toNat)
    case atStart => exact ⟨0, Nat.zero_le _, rfl, by simp, Below.refl _ _⟩
    case round =>
      obtain ⟨k, hk, rfl, rfl, hbw⟩ := hrel
      by_cases hlt : k < n
      · have hlt2 : (k : Int) < (n : Int) := by omega
        have HA : Hid (∀ w0 w1, Below w.heap.size w w0 → Below w0.heap.size w0 w1 → (w1.cell? ⟨g, k * 2, none⟩ = some (.string (markOf (k0 + 2 * k))) ∧ w1.cell? ⟨g, k * 2 + 1, none⟩ = some (.string (markOf (k0 + 2 * k + 1)))) ∧ Below w.heap.size w w1) := fun w0 w1 h h' => by
          have hx := h.trans (h'.mono h.size)
          have a1 := (r1.below hx r1.lt).name k hlt
          have a2 := (r1.below hx r1.lt).val k hlt
          rw [(HM.out k hlt).1] at a1
          rw [(HM.out k hlt).2] at a2
          exact ⟨⟨a1, a2⟩, hx⟩
        obtain ⟨⟨hc1, hc2⟩, _⟩ := HA.out wr wr hbw (Below.refl _ _)
        go_wp2
        go_region_held3 (fun w' => w'.cell? ⟨g, k * 2, none⟩ = some (.string (markOf (k0 + 2 * k)))) (first | assumption | go_keep) (first | (go_at_call 67; refine (markText_int _ (k0 + 2 * k) _ (by omega) (by omega) (by omega)).mono ?_; rintro e w1 ⟨rfl, hb1⟩; obtain ⟨⟨hd1, hd2⟩, hbx⟩ := HA.out _ w1 hbw.drew hb1))
        clear hc1 hc2 hd1
        go_wp2
        go_region_held3 (fun w' => w'.cell? ⟨g, k * 2 + 1, none⟩ = some (.string (markOf (k0 + 2 * k + 1)))) (first | assumption | go_keep) (first | (go_at_call 67; refine (markText_int _ (k0 + 2 * k + 1) _ (by omega) (by omega) (by omega)).mono ?_; rintro e w2 ⟨rfl, hb2⟩; obtain ⟨⟨he1, he2⟩, hby⟩ := HA.out _ w2 hbx.drew hb2))
        go_wp2
        go_roundw
        case rel => exact ⟨k + 1, by omega, by go_num, by first | go_num | (congr 1; omega), hby⟩
        case measure => simp [intOf]; omega
      · obtain rfl : k = n := by omega
        go_wp2
        go_ret
        exact ⟨rfl, hbw⟩

end Go.Proofs.YtdlhicdfldecgaaGreat

namespace Go.Proofs.YtdlhicdfldecgaaGreat
open Go.RowKit
open Go.Lib hiding intOf

def SzReqRm (L : Int) (p : ByteArray) (n : Nat) (fs : List (ByteArray × ByteArray)) (b : ByteArray) (w : World) (e : Ending) (w' : World) : Prop :=
  ∃ r : Int, e = .returned (.int .i64 r) ∧ r ≤ L ∧ (0 ≤ r → r + (n : Int) ≤ L ∧ (p.size ≤ 1048576 ∧ b.size ≤ 1048576) ∧ n ≤ 1048576 ∧ szTo fs n ≤ 1048576) ∧ Below w.heap.size w w'
def SzRespRm (L : Int) (n : Nat) (fs : List (ByteArray × ByteArray)) (b : ByteArray) (w : World) (e : Ending) (w' : World) : Prop :=
  ∃ r : Int, e = .returned (.int .i64 r) ∧ r ≤ L ∧ (0 ≤ r → r + (n : Int) ≤ L ∧ b.size ≤ 1048576 ∧ n ≤ 1048576 ∧ szTo fs n ≤ 1048576) ∧ Below w.heap.size w w'

set_option maxHeartbeats 2000000 in
set_option maxRecDepth 100000 in
theorem szReq_room (L : Int) (hL0 : 0 ≤ L) (hL1 : L ≤ 1048576) (m : Int) (p : ByteArray) (a : Option Addr) (n cap : Nat) (b : ByteArray) (fs : List (ByteArray × ByteArray)) (w : World) (harg : ArgF w w.heap.size a n fs) (hn : n ≤ maxLen) (hsz : WalkF n fs) (hp : p.size ≤ maxLen) (hb : b.size ≤ maxLen) :
    Calls Tryz.prog 4 #[.agg #[.int .i64 m, .string p, .slice a n cap, .string b], .int .i64 L] w fun e w' => SzReqRm L p n fs b w e w' := by
  unfold maxLen at hp hb
  obtain ⟨r, hr⟩ : ∃ r, r = w.heap.size := ⟨_, rfl⟩
  have HR : Hid (∀ W, Below (w.alloc (.cells #[.int .i64 m, .string p, .slice a n cap, .string b] 24)).heap.size (w.alloc (.cells #[.int .i64 m, .string p, .slice a n cap, .string b] 24)) W → (W.cell? ⟨r, 1, none⟩ = some (.string p) ∧ W.cell? ⟨r, 2, none⟩ = some (.slice a n cap) ∧ W.cell? ⟨r, 3, none⟩ = some (.string b)) ∧ ArgF W w.heap.size a n fs ∧ w.heap.size ≤ W.heap.size ∧ Below w.heap.size w W) := fun W h => by
    have hh := kept_new h
    rw [← hr] at hh
    exact ⟨⟨by simp [World.cell?, hh], by simp [World.cell?, hh], by simp [World.cell?, hh]⟩, harg.below (below_new h), (below_new h).size, below_new h⟩
  obtain ⟨⟨c1, c2, c3⟩, harg0, hs0, hbw0⟩ := HR.out _ (Below.refl _ _)
  have HB0 : Hid (Below w.heap.size w (w.alloc (.cells #[.int .i64 m, .string p, .slice a n cap, .string b] 24))) := hbw0
  have HSZ : Hid (WalkF n fs) := hsz
  have HN : Hid (n ≤ maxLen) := hn
  have HARG : Hid (ArgF (w.alloc (.cells #[.int .i64 m, .string p, .slice a n cap, .string b] 24)) w.heap.size a n fs) := harg0
  clear harg hsz harg0 hbw0 hn
  by_cases d1 : L - (p.size : Int) < 0
  · go_enter Tryz.func4, Tryz.ntmps4
    rw [hr] at c1
    go_wp2_with fail
    go_ret
    exact ⟨-1, rfl, by omega, fun h => absurd h (by omega), HB0.out⟩
  · go_enter Tryz.func4, Tryz.ntmps4
    rw [hr] at c1 c2
    go_wp2_with fail
    refine (szFieldS_exact (L - (p.size : Int)) (by omega) (by omega) w.heap.size a n cap fs _ HARG.out hs0 HN.out HSZ.out).mono ?_
    rintro e w1 ⟨x, rfl, hx1, hx2, bb1⟩
    clear c1 c2 c3
    obtain ⟨⟨c1, c2, c3⟩, _, _, hbw1⟩ := HR.out w1 bb1
    rw [← hr]
    clear bb1 hr
    by_cases hx0 : x < 0
    · clear hx2
      go_wp2_with fail
      go_ret
      exact ⟨-1, rfl, by omega, fun h => absurd h (by omega), hbw1⟩
    · obtain ⟨h0, h1, h2⟩ := hx2 (by omega)
      by_cases d2 : x - (b.size : Int) < 0
      · go_wp2_with fail
        go_ret
        exact ⟨-1, rfl, by omega, fun h => absurd h (by omega), hbw1⟩
      · go_wp2_with fail
        go_ret
        exact ⟨_, rfl, by omega, fun _ => ⟨by omega, ⟨by omega, by omega⟩, h1, h2⟩, hbw1⟩

set_option maxHeartbeats 2000000 in
set_option maxRecDepth 100000 in
theorem szResp_room (L : Int) (hL0 : 0 ≤ L) (hL1 : L ≤ 1048576) (m : Int) (a : Option Addr) (n cap : Nat) (b : ByteArray) (fs : List (ByteArray × ByteArray)) (w : World) (harg : ArgF w w.heap.size a n fs) (hn : n ≤ maxLen) (hsz : WalkF n fs) (hb : b.size ≤ maxLen) :
    Calls Tryz.prog 5 #[.agg #[.int .i64 m, .slice a n cap, .string b], .int .i64 L] w fun e w' => SzRespRm L n fs b w e w' := by
  unfold maxLen at hb
  obtain ⟨r, hr⟩ : ∃ r, r = w.heap.size := ⟨_, rfl⟩
  have HR : Hid (∀ W, Below (w.alloc (.cells #[.int .i64 m, .slice a n cap, .string b] 26)).heap.size (w.alloc (.cells #[.int .i64 m, .slice a n cap, .string b] 26)) W → (W.cell? ⟨r, 1, none⟩ = some (.slice a n cap) ∧ W.cell? ⟨r, 2, none⟩ = some (.string b)) ∧ ArgF W w.heap.size a n fs ∧ w.heap.size ≤ W.heap.size ∧ Below w.heap.size w W) := fun W h => by
    have hh := kept_new h
    rw [← hr] at hh
    exact ⟨⟨by simp [World.cell?, hh], by simp [World.cell?, hh]⟩, harg.below (below_new h), (below_new h).size, below_new h⟩
  obtain ⟨⟨c2, c3⟩, harg0, hs0, _⟩ := HR.out _ (Below.refl _ _)
  have HSZ : Hid (WalkF n fs) := hsz
  have HN : Hid (n ≤ maxLen) := hn
  have HARG : Hid (ArgF (w.alloc (.cells #[.int .i64 m, .slice a n cap, .string b] 26)) w.heap.size a n fs) := harg0
  clear harg hsz harg0 hn
  go_enter Tryz.func5, Tryz.ntmps5
  rw [hr] at c2
  go_wp2_with fail
  refine (szFieldS_exact L (by omega) (by omega) w.heap.size a n cap fs _ HARG.out hs0 HN.out HSZ.out).mono ?_
  rintro e w1 ⟨x, rfl, hx1, hx2, bb1⟩
  clear c2 c3
  obtain ⟨⟨c2, c3⟩, _, _, hbw1⟩ := HR.out w1 bb1
  rw [← hr]
  clear bb1 hr
  by_cases hx0 : x < 0
  · clear hx2
    go_wp2_with fail
    go_ret
    exact ⟨-1, rfl, by omega, fun h => absurd h (by omega), hbw1⟩
  · obtain ⟨h0, h1, h2⟩ := hx2 (by omega)
    by_cases d2 : x - (b.size : Int) < 0
    · go_wp2_with fail
      go_ret
      exact ⟨-1, rfl, by omega, fun h => absurd h (by omega), hbw1⟩
    · go_wp2_with fail
      go_ret
      exact ⟨_, rfl, by omega, fun _ => ⟨by omega, by omega, h1, h2⟩, hbw1⟩

set_option maxHeartbeats 1000000 in
theorem markReqFrom_any (m : Int) (p : ByteArray) (v : Value) (b : ByteArray) (n base : Nat) (fs : List (ByteArray × ByteArray)) (w : World) (h1 : w.ownsRow base 75 2 v n (flatF fs)) (hb : base ≤ w.heap.size) (k0 : Nat) (hk0 : 1 ≤ k0) (hn : k0 + 2 * n ≤ 9999999) :
    Calls Tryz.prog 13 #[.agg #[.int .i64 m, .string p, v, .string b], .int .i64 (k0 : Int)] w fun e w' => e = .returned (.int .i64 ((k0 : Int) + 2 * (n : Int))) ∧ w'.ownsRow base 75 2 v n (flatF (mkG k0 fs n)) ∧ Below base w w' ∧ Far v w w' := by
  obtain ⟨oa, ca, rfl⟩ := slice_of_owns h1
  have h2 := h1.alloc (.cells #[.int .i64 m, .string p, .slice oa n ca, .string b] 38)
  have hb2 : Below base w (w.alloc (.cells #[.int .i64 m, .string p, .slice oa n ca, .string b] 38)) := (Below.refl _ w).alloc hb _
  have hs : base ≤ (w.alloc (.cells #[.int .i64 m, .string p, .slice oa n ca, .string b] 38)).heap.size := by simp; omega
  go_enter Tryz.func13, Tryz.ntmps13
  go_wp2_with fail
  refine (markFrom_any _ n base fs _ h2 hs k0 hk0 hn).mono ?_
  rintro e w1 ⟨rfl, ho, bb1, far1⟩
  have hb3 := hb2.trans bb1
  have HO : Hid _ := ho
  have HF : Hid (Far (.slice oa n ca) w w1) := fun j hj hne => (far1 j (by simp; omega) hne).trans (heap_alloc_old w _ hj)
  clear h1 h2 hb2 hs bb1 ho far1
  go_wp2_with fail
  go_ret
  exact ⟨rfl, HO.out, hb3, HF.out⟩

set_option maxHeartbeats 1000000 in
theorem markRespFrom_any (m : Int) (v : Value) (b : ByteArray) (n base : Nat) (fs : List (ByteArray × ByteArray)) (w : World) (h1 : w.ownsRow base 75 2 v n (flatF fs)) (hb : base ≤ w.heap.size) (k0 : Nat) (hk0 : 1 ≤ k0) (hn : k0 + 2 * n ≤ 9999999) :
    Calls Tryz.prog 14 #[.agg #[.int .i64 m, v, .string b], .int .i64 (k0 : Int)] w fun e w' => e = .returned (.int .i64 ((k0 : Int) + 2 * (n : Int))) ∧ w'.ownsRow base 75 2 v n (flatF (mkG k0 fs n)) ∧ Below base w w' ∧ Far v w w' := by
  obtain ⟨oa, ca, rfl⟩ := slice_of_owns h1
  have h2 := h1.alloc (.cells #[.int .i64 m, .slice oa n ca, .string b] 32)
  have hb2 : Below base w (w.alloc (.cells #[.int .i64 m, .slice oa n ca, .string b] 32)) := (Below.refl _ w).alloc hb _
  have hs : base ≤ (w.alloc (.cells #[.int .i64 m, .slice oa n ca, .string b] 32)).heap.size := by simp; omega
  go_enter Tryz.func14, Tryz.ntmps14
  go_wp2_with fail
  refine (markFrom_any _ n base fs _ h2 hs k0 hk0 hn).mono ?_
  rintro e w1 ⟨rfl, ho, bb1, far1⟩
  have hb3 := hb2.trans bb1
  have HO : Hid _ := ho
  have HF : Hid (Far (.slice oa n ca) w w1) := fun j hj hne => (far1 j (by simp; omega) hne).trans (heap_alloc_old w _ hj)
  clear h1 h2 hb2 hs bb1 ho far1
  go_wp2_with fail
  go_ret
  exact ⟨rfl, HO.out, hb3, HF.out⟩

set_option maxHeartbeats 1000000 in
theorem heldRespFrom_any (m : Int) (v : Value) (b : ByteArray) (n base : Nat) (fs : List (ByteArray × ByteArray)) (w : World) (h1 : w.ownsRow base 75 2 v n (flatF fs)) (k0 : Nat) (hk0 : 1 ≤ k0) (hn : k0 + 2 * n ≤ 9999999) (hm : ∀ j, j < n → nameAt fs j = markOf (k0 + 2 * j) ∧ valAt fs j = markOf (k0 + 2 * j + 1)) :
    Calls Tryz.prog 35 #[.agg #[.int .i64 m, v, .string b], .int .i64 (k0 : Int)] w fun e w' => e = .returned (.int .i64 ((k0 : Int) + 2 * (n : Int))) ∧ Below w.heap.size w w' := by
  obtain ⟨oa, ca, rfl⟩ := slice_of_owns h1
  have h2 := h1.alloc (.cells #[.int .i64 m, .slice oa n ca, .string b] 32)
  have hb2 : Below w.heap.size w (w.alloc (.cells #[.int .i64 m, .slice oa n ca, .string b] 32)) := (Below.refl _ w).alloc (Nat.le_refl _) _
  have hk2 : ¬ ((k0 : Int) + 2 * (n : Int) < 0) := by omega
  have HM : Hid (∀ j, j < n → nameAt fs j = markOf (k0 + 2 * j) ∧ valAt fs j = markOf (k0 + 2 * j + 1)) := hm
  clear hm
  go_enter Tryz.func35, Tryz.ntmps35
  go_wp2_with fail
  refine (heldFrom_any _ n base fs _ h2 k0 hk0 hn HM.out).mono ?_
  rintro e w1 ⟨rfl, bb1⟩
  have hb3 := hb2.trans (bb1.mono hb2.size)
  clear h1 h2 hb2 bb1
  go_wp2_with fail
  go_ret
  exact ⟨rfl, hb3⟩

/-- A block's content behind a call. -/
theorem blk_below {W W' : World} {r : Nat} {o : Obj} (h : W.heap[r]? = some o) (b : Below W.heap.size W W') : W'.heap[r]? = some o := by
  rw [b.block r (Array.getElem?_eq_some_iff.1 h).1]; exact h
theorem own_ne {W : World} {r : Nat} {cs : Array Value} {T t : TypeId} {base size n : Nat} {v : Value} {xs : List Value} (ho : W.ownsRow base t size v n xs) (h : W.heap[r]? = some (.cells cs T)) (hT : T ≠ t) (j : Nat) (hj : v.ownBlock = some j) : j ≠ r := fun e => by
  subst e
  rcases ho.2 with ⟨rfl, _⟩ | ⟨g, cap, cur, rfl, _, h1, _⟩
  · cases hj
  · cases hj
    rw [h] at h1
    cases h1
    exact hT rfl
/-- A block of another type is no row of this one. -/
theorem blk_far {W W' : World} {r : Nat} {cs : Array Value} {T t : TypeId} {base size n : Nat} {v : Value} {xs : List Value} (h : W.heap[r]? = some (.cells cs T)) (far : Far v W W') (ho : W.ownsRow base t size v n xs) (hT : T ≠ t) : W'.heap[r]? = some (.cells cs T) := by
  rw [far r (Array.getElem?_eq_some_iff.1 h).1 (fun e => ?_)]
  · exact h
  · rcases ho.2 with ⟨rfl, _⟩ | ⟨g, cap, cur, rfl, _, h1, _⟩
    · cases e
    · cases e
      rw [h] at h1
      cases h1
      exact hT rfl

end Go.Proofs.YtdlhicdfldecgaaGreat

namespace Go.Proofs.YtdlhicdfldecgaaGreat
open Go.RowKit
open Go.Lib hiding intOf

theorem cell_of {W : World} {R : Nat} {cs : Array Value} {t : TypeId} (h : W.heap[R]? = some (.cells cs t)) (i : Nat) : W.cell? ⟨R, i, none⟩ = cs[i]? := by simp [World.cell?, h]
theorem frozen_of {W : World} {R : Nat} {cs : Array Value} {t : TypeId} (h : W.heap[R]? = some (.cells cs t)) (i : Nat) : W.frozen? ⟨R, i, none⟩ = false := by simp [World.frozen?, h]
/-- Rows of two types lie apart. -/
theorem own_type_ne {W : World} {b1 b2 z1 z2 n1 n2 : Nat} {t1 t2 : TypeId} {v1 v2 : Value} {xs ys : List Value} (h1 : W.ownsRow b1 t1 z1 v1 n1 xs) (h2 : W.ownsRow b2 t2 z2 v2 n2 ys) (ht : t1 ≠ t2) (j : Nat) (hj : v1.ownBlock = some j) : v2.ownBlock ≠ some j := fun e => by
  rcases h1.2 with ⟨rfl, _⟩ | ⟨g, cap, cur, rfl, _, k1, _⟩
  · cases hj
  · cases hj
    rcases h2.2 with ⟨rfl, _⟩ | ⟨g2, cap2, cur2, rfl, _, k2, _⟩
    · cases e
    · cases e
      rw [k1] at k2
      cases k2
      exact ht rfl
/-- A row whose block lies from there on is owned from there on. -/
theorem owns_lift {w : World} {B base : Nat} {e : TypeId} {size : Nat} {v : Value} {n : Nat} {xs : List Value} (h : w.ownsRow base e size v n xs) (hB : ∀ g, v.ownBlock = some g → B ≤ g) : w.ownsRow B e size v n xs := by
  refine ⟨h.1, ?_⟩
  rcases h.2 with h0 | ⟨g, cap, cur, rfl, _, h1⟩
  · exact .inl h0
  · exact .inr ⟨g, cap, cur, rfl, hB g rfl, h1⟩
def mkT (k0 : Nat) (xs : List ByteArray) : Nat → List ByteArray
  | 0 => xs
  | i + 1 => (mkT k0 xs i).set i (markOf (k0 + i))
theorem mkT_len (k0 : Nat) (xs : List ByteArray) : ∀ i, (mkT k0 xs i).length = xs.length
  | 0 => rfl
  | i + 1 => by rw [mkT, List.length_set, mkT_len k0 xs i]
theorem mkT_at (k0 : Nat) (xs : List ByteArray) (j : Nat) (hj : j < xs.length) : ∀ i, j < i → textAt (mkT k0 xs i) j = markOf (k0 + j) := by
  intro i
  induction i with
  | zero => intro h; omega
  | succ i ih =>
    intro h
    unfold textAt
    rw [mkT]
    by_cases e : i = j
    · subst e
      rw [List.getD_eq_getElem?_getD, List.getElem?_set_self (by rw [mkT_len]; exact hj)]
      rfl
    · rw [List.getD_eq_getElem?_getD, List.getElem?_set_ne (by exact e), ← List.getD_eq_getElem?_getD]
      exact ih (by omega)

set_option maxHeartbeats 1000000 in
theorem markTFrom_any (v : Value) (n base : Nat) (xs : List ByteArray) (w : World) (h1 : w.ownsRow base 9 1 v n (xs.map Value.string)) (hb : base ≤ w.heap.size) (k0 : Nat) (hk0 : 1 ≤ k0) (hn : k0 + n ≤ 9999998) :
    Calls Tryz.prog 33 #[v, .int .i64 (k0 : Int)] w fun e w' => e = .returned (.int .i64 ((k0 : Int) + (n : Int))) ∧ w'.ownsRow base 9 1 v n ((mkT k0 xs n).map Value.string) ∧ Below base w w' ∧ Far v w w' := by
  rcases row_form h1 with ⟨oa, ca, rfl, rfl, rfl⟩ | ⟨g, cap, rfl, hp, r1⟩
  · go_enter Tryz.func33, Tryz.ntmps33
    go_wp2
    refine wp_loop_rounds 1 ?_
    rw [rounds_succ]
    go_wp2
    go_ret
    exact ⟨by simp, h1, Below.refl _ _, fun _ _ _ => rfl⟩
  · clear h1
    have HR1 : Hid (TextRow base w g n cap xs) := r1
    clear r1
    go_enter Tryz.func33, Tryz.ntmps33
    go_wp2
    go_loopw [1, 5] (fun k i wr => ∃ j : Nat, j ≤ n ∧ i = .int .i64 (j : Int) ∧ k = .int .i64 ((k0 : Int) + (j : Int)) ∧ Hid (w.grownBy wr (some g)) ∧ Hid (TextRow base wr g n cap (mkT k0 xs j))) (fun _ i _ => n - (intOf i).toNat)
    case atStart => exact ⟨0, Nat.zero_le _, rfl, by simp, World.grownBy.refl _ _, HR1⟩
    case round =>
      obtain ⟨j, hj, rfl, rfl, HG, HR⟩ := hrel
      by_cases hlt : j < n
      · have hlt2 : (j : Int) < (n : Int) := by omega
        go_wp2_with fail
        refine (markText_int _ (k0 + j) _ (by omega) (by omega) (by omega)).mono ?_
        rintro e w1 ⟨rfl, hb1⟩
        have hrow1 := HR.out.below hb1 HR.out.lt
        have hc := hrow1.cell j hlt
        have hf := hrow1.frozen j
        have HG2 : Hid (w.grownBy (w1.setCell ⟨g, j, none⟩ (.string (markOf (k0 + j)))) (some g)) := by
          have h0 := HG.out
          refine ⟨hb1.os.trans h0.os, hb1.tape.trans h0.tape, hb1.output.trans h0.output, by rw [World.size_setCell]; exact Nat.le_trans h0.size hb1.size, fun i hi hne => ?_⟩
          rw [heap_setCell_other _ _ i _ (fun e => hne (by rw [e]))]
          exact (hb1.block i (Nat.lt_of_lt_of_le hi h0.size)).trans (h0.block i hi hne)
        have HR2 : Hid (TextRow base (w1.setCell ⟨g, j, none⟩ (.string (markOf (k0 + j)))) g n cap (mkT k0 xs (j + 1))) := hrow1.set j hlt _
        clear hb1 HG HR hrow1
        go_wp2
        go_roundw
        case rel => exact ⟨j + 1, by omega, by go_num, by go_num, HG2, HR2⟩
        case measure => simp [intOf]; omega
      · obtain rfl : j = n := by omega
        go_wp2
        go_ret
        have hg := HG.out
        exact ⟨rfl, HR.out.owns, ⟨hg.os, hg.tape, hg.output, hg.size, fun i hi => hg.block i (Nat.lt_of_lt_of_le hi hb) (fun e => by have := HR.out.base; cases e; omega)⟩, fun i hi hne => hg.block i hi (fun e => hne e.symm)⟩

set_option maxHeartbeats 1000000 in
theorem heldTFrom_any (v : Value) (n base : Nat) (xs : List ByteArray) (w : World) (h1 : w.ownsRow base 9 1 v n (xs.map Value.string)) (k0 : Nat) (hk0 : 1 ≤ k0) (hn : k0 + n ≤ 9999998) (hm : ∀ j, j < n → textAt xs j = markOf (k0 + j)) :
    Calls Tryz.prog 34 #[v, .int .i64 (k0 : Int)] w fun e w' => e = .returned (.int .i64 ((k0 : Int) + (n : Int))) ∧ Below w.heap.size w w' := by
  rcases row_form h1 with ⟨oa, ca, rfl, rfl, rfl⟩ | ⟨g, cap, rfl, hp, r1⟩
  · clear hm
    go_enter Tryz.func34, Tryz.ntmps34
    go_wp2
    refine wp_loop_rounds 1 ?_
    rw [rounds_succ]
    go_wp2
    go_ret
    exact ⟨by simp, Below.refl _ _⟩
  · clear h1
    have HM : Hid (∀ j, j < n → textAt xs j = markOf (k0 + j)) := hm
    clear hm
    go_enter Tryz.func34, Tryz.ntmps34
    go_wp2
    go_loopw [1, 5] (fun k i wr => ∃ j : Nat, j ≤ n ∧ i = .int .i64 (j : Int) ∧ k = .int .i64 ((k0 : Int) + (j : Int)) ∧ Below w.heap.size w wr) (fun _ i _ => n - (intOf i).toNat)
    case atStart => exact ⟨0, Nat.zero_le _, rfl, by simp, Below.refl _ _⟩
    case round =>
      obtain ⟨j, hj, rfl, rfl, hbw⟩ := hrel
      by_cases hlt : j < n
      · have hlt2 : (j : Int) < (n : Int) := by omega
        have hc : wr.cell? ⟨g, j, none⟩ = some (.string (markOf (k0 + j))) := by
          rw [← HM.out j hlt]; exact (r1.below hbw r1.lt).cell j hlt
        have hall : ∀ w1, Below wr.heap.size wr w1 → w1.cell? ⟨g, j, none⟩ = some (.string (markOf (k0 + j))) := fun w1 h => by
          rw [h.cell (p := ⟨g, j, none⟩) (by have := hbw.size; have := r1.lt; show g < _; omega)]; exact hc
        have HA : Hid _ := hall
        clear hall
        go_wp2
        go_region_with (go_at_call 67; refine (markText_int _ (k0 + j) _ (by omega) (by omega) (by omega)).mono ?_; rintro e w1 ⟨rfl, hb1⟩; have hc1 := HA.out w1 (((Below.refl _ wr).drew).trans hb1))
        all_goals
          go_wp2
          go_roundw
          case rel => exact ⟨j + 1, by omega, by go_num, by go_num, (hbw.drew).trans (hb1.mono hbw.size)⟩
          case measure => simp [intOf]; omega
      · obtain rfl : j = n := by omega
        go_wp2
        go_ret
        exact ⟨rfl, hbw⟩

end Go.Proofs.YtdlhicdfldecgaaGreat

namespace Go.Proofs.YtdlhicdfldecgaaGreat
open Go.RowKit Go.WideShapes
open Go.Lib hiding intOf

set_option maxRecDepth 100000 in
/-- A request among the arguments: what it holds. -/
theorem openReq {H : Type} {enc : TypeId × Value → H} {W : World} {r : Reach} {b0 : Nat} {v : Value} {d : DataW H} {ps : List MemPlace} (hval : Value.okWide Tryz.prog W r b0 24 v) (h : DataW.Trod enc Tryz.prog W 0 (fun _ => true) true 24 v d ps) :
    ∃ (m : Int) (p : ByteArray) (a : Option Addr) (n cap : Nat) (b : ByteArray) (fs : List (ByteArray × ByteArray)), v = .agg #[.int .i64 m, .string p, .slice a n cap, .string b] ∧ ArgF W W.heap.size a n fs ∧ n ≤ maxLen ∧ WalkF n fs ∧ p.size ≤ maxLen ∧ b.size ≤ maxLen := by
  obtain ⟨cs, rfl, hsz⟩ := okWide_struct Tryz.underlying24 hval
  obtain ⟨fuel, hf⟩ := h
  obtain ⟨ys, q, _, _, _, hyl, hg⟩ := DataW.trod_struct Tryz.underlying24 hf
  have hc4 : Tryz.prog.cellsOf 24 = 4 := by kernel_rfl
  have e3 : Tryz.prog.cellsOf 3 = 1 := by kernel_rfl
  have e9 : Tryz.prog.cellsOf 9 = 1 := by kernel_rfl
  have eL : Tryz.prog.cellsOf 22 = 1 := by kernel_rfl
  rw [hc4] at hsz
  obtain ⟨l⟩ := cs
  obtain ⟨c0, c1, c2, c3, rfl⟩ : ∃ c0 c1 c2 c3, l = [c0, c1, c2, c3] := by
    match l, hsz with
    | [c0, c1, c2, c3], _ => exact ⟨c0, c1, c2, c3, rfl⟩
  have g0 := hg 0 _ rfl
  have g1 := hg 1 _ rfl
  have g2 := hg 2 _ rfl
  have g3 := hg 3 _ rfl
  simp [Value.cells, e3, e9, eL] at g0 g1 g2 g3
  have hy4 : ys.length = 4 := hyl
  rw [List.getElem?_eq_getElem (show 0 < ys.length by omega)] at g0
  rw [List.getElem?_eq_getElem (show 1 < ys.length by omega)] at g1
  rw [List.getElem?_eq_getElem (show 2 < ys.length by omega)] at g2
  rw [List.getElem?_eq_getElem (show 3 < ys.length by omega)] at g3
  obtain ⟨m, hm, _, _⟩ := DataW.trod_int Tryz.underlying3 g0
  obtain ⟨p, hp, _, hps⟩ := DataW.trod_string Tryz.underlying9 g1
  obtain ⟨b, hb, _, hbs⟩ := DataW.trod_string Tryz.underlying9 g3
  obtain ⟨a, n, cap, rfl⟩ : ∃ a n cap, c2 = .slice a n cap := by
    rcases DataW.trod_slice Tryz.underlying22 g2 with ⟨h, _⟩ | ⟨a, n, cap, _, _, _, _, h, _⟩
    · exact ⟨none, 0, 0, by simpa using h⟩
    · exact ⟨_, n, cap, by simpa using h⟩
  obtain ⟨fs, h1, h2, h3⟩ := openFields g2
  simp only [List.cons.injEq, and_true] at hm hb hp
  subst hm hb hp
  exact ⟨m, p, a, n, cap, b, fs, rfl, h1, h2, h3, hps, hbs⟩

set_option maxRecDepth 100000 in
/-- An answer among the arguments: what it holds. -/
theorem openResp {H : Type} {enc : TypeId × Value → H} {W : World} {r : Reach} {b0 : Nat} {v : Value} {d : DataW H} {ps : List MemPlace} (hval : Value.okWide Tryz.prog W r b0 26 v) (h : DataW.Trod enc Tryz.prog W 0 (fun _ => true) true 26 v d ps) :
    ∃ (m : Int) (a : Option Addr) (n cap : Nat) (b : ByteArray) (fs : List (ByteArray × ByteArray)), v = .agg #[.int .i64 m, .slice a n cap, .string b] ∧ ArgF W W.heap.size a n fs ∧ n ≤ maxLen ∧ WalkF n fs ∧ b.size ≤ maxLen := by
  obtain ⟨cs, rfl, hsz⟩ := okWide_struct Tryz.underlying26 hval
  obtain ⟨fuel, hf⟩ := h
  obtain ⟨ys, q, _, _, _, hyl, hg⟩ := DataW.trod_struct Tryz.underlying26 hf
  have hc4 : Tryz.prog.cellsOf 26 = 3 := by kernel_rfl
  have e3 : Tryz.prog.cellsOf 3 = 1 := by kernel_rfl
  have e9 : Tryz.prog.cellsOf 9 = 1 := by kernel_rfl
  have eL : Tryz.prog.cellsOf 22 = 1 := by kernel_rfl
  rw [hc4] at hsz
  obtain ⟨l⟩ := cs
  obtain ⟨c0, c1, c2, rfl⟩ : ∃ c0 c1 c2, l = [c0, c1, c2] := by
    match l, hsz with
    | [c0, c1, c2], _ => exact ⟨c0, c1, c2, rfl⟩
  have g0 := hg 0 _ rfl
  have g1 := hg 1 _ rfl
  have g2 := hg 2 _ rfl
  simp [Value.cells, e3, e9, eL] at g0 g1 g2
  have hy4 : ys.length = 3 := hyl
  rw [List.getElem?_eq_getElem (show 0 < ys.length by omega)] at g0
  rw [List.getElem?_eq_getElem (show 1 < ys.length by omega)] at g1
  rw [List.getElem?_eq_getElem (show 2 < ys.length by omega)] at g2
  obtain ⟨m, hm, _, _⟩ := DataW.trod_int Tryz.underlying3 g0
  obtain ⟨b, hb, _, hbs⟩ := DataW.trod_string Tryz.underlying9 g2
  obtain ⟨a, n, cap, rfl⟩ : ∃ a n cap, c1 = .slice a n cap := by
    rcases DataW.trod_slice Tryz.underlying22 g1 with ⟨h, _⟩ | ⟨a, n, cap, _, _, _, _, h, _⟩
    · exact ⟨none, 0, 0, by simpa using h⟩
    · exact ⟨_, n, cap, by simpa using h⟩
  obtain ⟨fs, h1, h2, h3⟩ := openFields g1
  simp only [List.cons.injEq, and_true] at hm hb
  subst hm hb
  exact ⟨m, a, n, cap, b, fs, rfl, h1, h2, h3, hbs⟩

end Go.Proofs.YtdlhicdfldecgaaGreat

namespace Go.Proofs.YtdlhicdfldecgaaGreat
open Go.RowKit
open Go.Lib hiding intOf

/-- An object's three lists, in memory of one's own, no two in one block. -/
structure ObjO (W : World) (base : Nat) (v1 : Value) (n1 : Nat) (xs : List ByteArray) (v2 : Value) (n2 : Nat) (ys : List ByteArray) (v3 : Value) (n3 : Nat) (fs : List (ByteArray × ByteArray)) : Prop where
  names : W.ownsRow base 9 1 v1 n1 (xs.map Value.string)
  vals : W.ownsRow base 9 1 v2 n2 (ys.map Value.string)
  flds : W.ownsRow base 75 2 v3 n3 (flatF fs)
  ne : ∀ j, v1.ownBlock = some j → v2.ownBlock ≠ some j


set_option maxHeartbeats 4000000 in
set_option maxRecDepth 100000 in
theorem eqObj_any (p : ByteArray) (n1 : Nat) (xs : List ByteArray) (n2 : Nat) (ys : List ByteArray) (st : Int) (n3 : Nat) (fs : List (ByteArray × ByteArray)) (b : ByteArray) (t : Int) (v1 v2 v3 u1 u2 u3 : Value) (B1 B2 : Nat) (w : World) (hx : ObjO w B1 v1 n1 xs v2 n2 ys v3 n3 fs) (hy : ObjO w B2 u1 n1 xs u2 n2 ys u3 n3 fs) (hn1 : n1 ≤ 2000000) (hn2 : n2 ≤ 2000000) (hn3 : n3 ≤ 2000000) :
    Calls Tryz.prog 10 #[.agg #[.string p, v1, v2, .int .i64 st, v3, .string b, .int .i64 t], .agg #[.string p, u1, u2, .int .i64 st, u3, .string b, .int .i64 t]] w fun e w' => e = .returned (.bool true) ∧ Below w.heap.size w w' := by
  obtain ⟨oNx, pNx, rfl⟩ := slice_of_owns hx.names
  obtain ⟨oVx, pVx, rfl⟩ := slice_of_owns hx.vals
  obtain ⟨oFx, pFx, rfl⟩ := slice_of_owns hx.flds
  have HONx_0 : Hid ((w).ownsRow B1 9 1 (.slice oNx n1 pNx) n1 (xs.map Value.string)) := hx.names
  have HOVx_0 : Hid ((w).ownsRow B1 9 1 (.slice oVx n2 pVx) n2 (ys.map Value.string)) := hx.vals
  have HOFx_0 : Hid ((w).ownsRow B1 75 2 (.slice oFx n3 pFx) n3 (flatF fs)) := hx.flds
  have APx : Hid (∀ j, (Value.slice oNx n1 pNx).ownBlock = some j → (Value.slice oVx n2 pVx).ownBlock ≠ some j) := hx.ne
  clear hx
  obtain ⟨oNy, pNy, rfl⟩ := slice_of_owns hy.names
  obtain ⟨oVy, pVy, rfl⟩ := slice_of_owns hy.vals
  obtain ⟨oFy, pFy, rfl⟩ := slice_of_owns hy.flds
  have HONy_0 : Hid ((w).ownsRow B2 9 1 (.slice oNy n1 pNy) n1 (xs.map Value.string)) := hy.names
  have HOVy_0 : Hid ((w).ownsRow B2 9 1 (.slice oVy n2 pVy) n2 (ys.map Value.string)) := hy.vals
  have HOFy_0 : Hid ((w).ownsRow B2 75 2 (.slice oFy n3 pFy) n3 (flatF fs)) := hy.flds
  have APy : Hid (∀ j, (Value.slice oNy n1 pNy).ownBlock = some j → (Value.slice oVy n2 pVy).ownBlock ≠ some j) := hy.ne
  clear hy
  have hpp : (p.toList != p.toList) = false := by simp
  have htt : (t != t) = false := by simp
  have hb0 : Below w.heap.size w w := Below.refl _ _
  go_enter Tryz.func10, Tryz.ntmps10
  go_upto_region 1 with fail
  obtain ⟨qv1, hqv1⟩ : ∃ q, q = (w).heap.size := ⟨_, rfl⟩
  obtain ⟨w1, hW1⟩ : ∃ W, W = (w).alloc (.cells #[.string p, .slice oNx n1 pNx, .slice oVx n2 pVx, .int .i64 st, .slice oFx n3 pFx, .string b, .int .i64 t] 34) := ⟨_, rfl⟩
  have hz1 : (w).heap.size = qv1 := hqv1.symm
  first | rw [← hW1, ← hqv1] | rw [← hW1]
  have hs1 : w1.heap.size = qv1 + 1 := by rw [hW1, ← hz1]; simp
  have bw : Below (w).heap.size (w) w1 := by rw [hW1]; exact (Below.refl _ _).alloc (Nat.le_refl _) _
  have hb1 : Below w.heap.size w (w1) := hb0.trans (bw.mono hb0.size)
  have HM1 : Hid ((w).heap.size ≤ (w1).heap.size) := bw.size
  have HONx_1 : Hid ((w1).ownsRow B1 9 1 (.slice oNx n1 pNx) n1 (xs.map Value.string)) := owns_below HONx_0.out bw (fun g hg => owns_lt HONx_0.out hg)
  have HOVx_1 : Hid ((w1).ownsRow B1 9 1 (.slice oVx n2 pVx) n2 (ys.map Value.string)) := owns_below HOVx_0.out bw (fun g hg => owns_lt HOVx_0.out hg)
  have HOFx_1 : Hid ((w1).ownsRow B1 75 2 (.slice oFx n3 pFx) n3 (flatF fs)) := owns_below HOFx_0.out bw (fun g hg => owns_lt HOFx_0.out hg)
  have HONy_1 : Hid ((w1).ownsRow B2 9 1 (.slice oNy n1 pNy) n1 (xs.map Value.string)) := owns_below HONy_0.out bw (fun g hg => owns_lt HONy_0.out hg)
  have HOVy_1 : Hid ((w1).ownsRow B2 9 1 (.slice oVy n2 pVy) n2 (ys.map Value.string)) := owns_below HOVy_0.out bw (fun g hg => owns_lt HOVy_0.out hg)
  have HOFy_1 : Hid ((w1).ownsRow B2 75 2 (.slice oFy n3 pFy) n3 (flatF fs)) := owns_below HOFy_0.out bw (fun g hg => owns_lt HOFy_0.out hg)
  have HBv1_1 : Hid ((w1).heap[qv1]? = some (.cells #[.string p, .slice oNx n1 pNx, .slice oVx n2 pVx, .int .i64 st, .slice oFx n3 pFx, .string b, .int .i64 t] 34)) := by show _ = _; rw [hW1, ← hz1]; exact heap_alloc_new _ _
  have HGv1 : Hid (w.heap.size ≤ qv1) := by show _ ≤ _; rw [← hz1]; exact hb0.size
  clear hb0 HONx_0 HOVx_0 HOFx_0 HONy_0 HOVy_0 HOFy_0 bw hW1 hz1
  obtain ⟨qv2, hqv2⟩ : ∃ q, q = qv1 + 1 := ⟨_, rfl⟩
  obtain ⟨w2, hW2⟩ : ∃ W, W = (w1).alloc (.cells #[.string p, .slice oNy n1 pNy, .slice oVy n2 pVy, .int .i64 st, .slice oFy n3 pFy, .string b, .int .i64 t] 34) := ⟨_, rfl⟩
  have hz2 : (w1).heap.size = qv2 := by rw [hqv2]; exact hs1
  first | rw [← hW2, ← hqv2] | rw [← hW2]
  have hs2 : w2.heap.size = qv2 + 1 := by rw [hW2, ← hz2]; simp
  have bw : Below (w1).heap.size (w1) w2 := by rw [hW2]; exact (Below.refl _ _).alloc (Nat.le_refl _) _
  have hb2 : Below w.heap.size w (w2) := hb1.trans (bw.mono hb1.size)
  have HM2 : Hid ((w1).heap.size ≤ (w2).heap.size) := bw.size
  have HONx_2 : Hid ((w2).ownsRow B1 9 1 (.slice oNx n1 pNx) n1 (xs.map Value.string)) := owns_below HONx_1.out bw (fun g hg => owns_lt HONx_1.out hg)
  have HOVx_2 : Hid ((w2).ownsRow B1 9 1 (.slice oVx n2 pVx) n2 (ys.map Value.string)) := owns_below HOVx_1.out bw (fun g hg => owns_lt HOVx_1.out hg)
  have HOFx_2 : Hid ((w2).ownsRow B1 75 2 (.slice oFx n3 pFx) n3 (flatF fs)) := owns_below HOFx_1.out bw (fun g hg => owns_lt HOFx_1.out hg)
  have HONy_2 : Hid ((w2).ownsRow B2 9 1 (.slice oNy n1 pNy) n1 (xs.map Value.string)) := owns_below HONy_1.out bw (fun g hg => owns_lt HONy_1.out hg)
  have HOVy_2 : Hid ((w2).ownsRow B2 9 1 (.slice oVy n2 pVy) n2 (ys.map Value.string)) := owns_below HOVy_1.out bw (fun g hg => owns_lt HOVy_1.out hg)
  have HOFy_2 : Hid ((w2).ownsRow B2 75 2 (.slice oFy n3 pFy) n3 (flatF fs)) := owns_below HOFy_1.out bw (fun g hg => owns_lt HOFy_1.out hg)
  have HBv1_2 : Hid ((w2).heap[qv1]? = some (.cells #[.string p, .slice oNx n1 pNx, .slice oVx n2 pVx, .int .i64 st, .slice oFx n3 pFx, .string b, .int .i64 t] 34)) := blk_below HBv1_1.out bw
  have HNv1v2 : Hid (qv1 ≠ qv2) := fun e => by have h1 := (Array.getElem?_eq_some_iff.1 HBv1_1.out).1; omega
  have HBv2_2 : Hid ((w2).heap[qv2]? = some (.cells #[.string p, .slice oNy n1 pNy, .slice oVy n2 pVy, .int .i64 st, .slice oFy n3 pFy, .string b, .int .i64 t] 34)) := by show _ = _; rw [hW2, ← hz2]; exact heap_alloc_new _ _
  have HGv2 : Hid (w.heap.size ≤ qv2) := by show _ ≤ _; rw [← hz2]; exact hb1.size
  clear hb1 HONx_1 HOVx_1 HOFx_1 HONy_1 HOVy_1 HOFy_1 HBv1_1 bw hW2 hz2
  clear hs2 hqv2 hs1 hqv1
  have cv1_0 : (w2).cell? ⟨qv1, 0, none⟩ = some (.string p) := (cell_of HBv1_2.out 0).trans rfl
  have cv2_0 : (w2).cell? ⟨qv2, 0, none⟩ = some (.string p) := (cell_of HBv2_2.out 0).trans rfl
  have cv1_1 : (w2).cell? ⟨qv1, 1, none⟩ = some (.slice oNx n1 pNx) := (cell_of HBv1_2.out 1).trans rfl
  have cv2_1 : (w2).cell? ⟨qv2, 1, none⟩ = some (.slice oNy n1 pNy) := (cell_of HBv2_2.out 1).trans rfl
  go_wp2_with fail
  refine (eqS_any _ _ n1 _ _ xs _ HONx_2.out HONy_2.out (by omega)).mono ?_
  rintro e w3 ⟨rfl, bw⟩
  have hb3 : Below w.heap.size w (w3) := hb2.trans (bw.mono hb2.size)
  have HM3 : Hid ((w2).heap.size ≤ (w3).heap.size) := bw.size
  have HONx_3 : Hid ((w3).ownsRow B1 9 1 (.slice oNx n1 pNx) n1 (xs.map Value.string)) := owns_below HONx_2.out bw (fun g hg => owns_lt HONx_2.out hg)
  have HOVx_3 : Hid ((w3).ownsRow B1 9 1 (.slice oVx n2 pVx) n2 (ys.map Value.string)) := owns_below HOVx_2.out bw (fun g hg => owns_lt HOVx_2.out hg)
  have HOFx_3 : Hid ((w3).ownsRow B1 75 2 (.slice oFx n3 pFx) n3 (flatF fs)) := owns_below HOFx_2.out bw (fun g hg => owns_lt HOFx_2.out hg)
  have HONy_3 : Hid ((w3).ownsRow B2 9 1 (.slice oNy n1 pNy) n1 (xs.map Value.string)) := owns_below HONy_2.out bw (fun g hg => owns_lt HONy_2.out hg)
  have HOVy_3 : Hid ((w3).ownsRow B2 9 1 (.slice oVy n2 pVy) n2 (ys.map Value.string)) := owns_below HOVy_2.out bw (fun g hg => owns_lt HOVy_2.out hg)
  have HOFy_3 : Hid ((w3).ownsRow B2 75 2 (.slice oFy n3 pFy) n3 (flatF fs)) := owns_below HOFy_2.out bw (fun g hg => owns_lt HOFy_2.out hg)
  have HBv1_3 : Hid ((w3).heap[qv1]? = some (.cells #[.string p, .slice oNx n1 pNx, .slice oVx n2 pVx, .int .i64 st, .slice oFx n3 pFx, .string b, .int .i64 t] 34)) := blk_below HBv1_2.out bw
  have HBv2_3 : Hid ((w3).heap[qv2]? = some (.cells #[.string p, .slice oNy n1 pNy, .slice oVy n2 pVy, .int .i64 st, .slice oFy n3 pFy, .string b, .int .i64 t] 34)) := blk_below HBv2_2.out bw
  clear hb2 HONx_2 HOVx_2 HOFx_2 HONy_2 HOVy_2 HOFy_2 HBv1_2 HBv2_2 bw
  clear cv1_0 cv2_0 cv1_1 cv2_1
  have cv1_2 : (w3).cell? ⟨qv1, 2, none⟩ = some (.slice oVx n2 pVx) := (cell_of HBv1_3.out 2).trans rfl
  have cv2_2 : (w3).cell? ⟨qv2, 2, none⟩ = some (.slice oVy n2 pVy) := (cell_of HBv2_3.out 2).trans rfl
  go_wp2_with fail
  refine (eqS_any _ _ n2 _ _ ys _ HOVx_3.out HOVy_3.out (by omega)).mono ?_
  rintro e w4 ⟨rfl, bw⟩
  have hb4 : Below w.heap.size w (w4) := hb3.trans (bw.mono hb3.size)
  have HM4 : Hid ((w3).heap.size ≤ (w4).heap.size) := bw.size
  have HONx_4 : Hid ((w4).ownsRow B1 9 1 (.slice oNx n1 pNx) n1 (xs.map Value.string)) := owns_below HONx_3.out bw (fun g hg => owns_lt HONx_3.out hg)
  have HOVx_4 : Hid ((w4).ownsRow B1 9 1 (.slice oVx n2 pVx) n2 (ys.map Value.string)) := owns_below HOVx_3.out bw (fun g hg => owns_lt HOVx_3.out hg)
  have HOFx_4 : Hid ((w4).ownsRow B1 75 2 (.slice oFx n3 pFx) n3 (flatF fs)) := owns_below HOFx_3.out bw (fun g hg => owns_lt HOFx_3.out hg)
  have HONy_4 : Hid ((w4).ownsRow B2 9 1 (.slice oNy n1 pNy) n1 (xs.map Value.string)) := owns_below HONy_3.out bw (fun g hg => owns_lt HONy_3.out hg)
  have HOVy_4 : Hid ((w4).ownsRow B2 9 1 (.slice oVy n2 pVy) n2 (ys.map Value.string)) := owns_below HOVy_3.out bw (fun g hg => owns_lt HOVy_3.out hg)
  have HOFy_4 : Hid ((w4).ownsRow B2 75 2 (.slice oFy n3 pFy) n3 (flatF fs)) := owns_below HOFy_3.out bw (fun g hg => owns_lt HOFy_3.out hg)
  have HBv1_4 : Hid ((w4).heap[qv1]? = some (.cells #[.string p, .slice oNx n1 pNx, .slice oVx n2 pVx, .int .i64 st, .slice oFx n3 pFx, .string b, .int .i64 t] 34)) := blk_below HBv1_3.out bw
  have HBv2_4 : Hid ((w4).heap[qv2]? = some (.cells #[.string p, .slice oNy n1 pNy, .slice oVy n2 pVy, .int .i64 st, .slice oFy n3 pFy, .string b, .int .i64 t] 34)) := blk_below HBv2_3.out bw
  clear hb3 HONx_3 HOVx_3 HOFx_3 HONy_3 HOVy_3 HOFy_3 HBv1_3 HBv2_3 bw
  clear cv1_2 cv2_2
  have cv1_3 : (w4).cell? ⟨qv1, 3, none⟩ = some (.int .i64 st) := (cell_of HBv1_4.out 3).trans rfl
  have cv1_4 : (w4).cell? ⟨qv1, 4, none⟩ = some (.slice oFx n3 pFx) := (cell_of HBv1_4.out 4).trans rfl
  have cv1_5 : (w4).cell? ⟨qv1, 5, none⟩ = some (.string b) := (cell_of HBv1_4.out 5).trans rfl
  have cv2_3 : (w4).cell? ⟨qv2, 3, none⟩ = some (.int .i64 st) := (cell_of HBv2_4.out 3).trans rfl
  have cv2_4 : (w4).cell? ⟨qv2, 4, none⟩ = some (.slice oFy n3 pFy) := (cell_of HBv2_4.out 4).trans rfl
  have cv2_5 : (w4).cell? ⟨qv2, 5, none⟩ = some (.string b) := (cell_of HBv2_4.out 5).trans rfl
  go_wp2_with fail
  refine (eqResp_any st _ _ b n3 _ _ fs _ (FieldsV.of_owns HOFx_4.out) (FieldsV.of_owns HOFy_4.out) (by omega)).mono ?_
  rintro e w5 ⟨rfl, bw⟩
  have hb5 : Below w.heap.size w (w5) := hb4.trans (bw.mono hb4.size)
  have HM5 : Hid ((w4).heap.size ≤ (w5).heap.size) := bw.size
  have HONx_5 : Hid ((w5).ownsRow B1 9 1 (.slice oNx n1 pNx) n1 (xs.map Value.string)) := owns_below HONx_4.out bw (fun g hg => owns_lt HONx_4.out hg)
  have HOVx_5 : Hid ((w5).ownsRow B1 9 1 (.slice oVx n2 pVx) n2 (ys.map Value.string)) := owns_below HOVx_4.out bw (fun g hg => owns_lt HOVx_4.out hg)
  have HOFx_5 : Hid ((w5).ownsRow B1 75 2 (.slice oFx n3 pFx) n3 (flatF fs)) := owns_below HOFx_4.out bw (fun g hg => owns_lt HOFx_4.out hg)
  have HONy_5 : Hid ((w5).ownsRow B2 9 1 (.slice oNy n1 pNy) n1 (xs.map Value.string)) := owns_below HONy_4.out bw (fun g hg => owns_lt HONy_4.out hg)
  have HOVy_5 : Hid ((w5).ownsRow B2 9 1 (.slice oVy n2 pVy) n2 (ys.map Value.string)) := owns_below HOVy_4.out bw (fun g hg => owns_lt HOVy_4.out hg)
  have HOFy_5 : Hid ((w5).ownsRow B2 75 2 (.slice oFy n3 pFy) n3 (flatF fs)) := owns_below HOFy_4.out bw (fun g hg => owns_lt HOFy_4.out hg)
  have HBv1_5 : Hid ((w5).heap[qv1]? = some (.cells #[.string p, .slice oNx n1 pNx, .slice oVx n2 pVx, .int .i64 st, .slice oFx n3 pFx, .string b, .int .i64 t] 34)) := blk_below HBv1_4.out bw
  have HBv2_5 : Hid ((w5).heap[qv2]? = some (.cells #[.string p, .slice oNy n1 pNy, .slice oVy n2 pVy, .int .i64 st, .slice oFy n3 pFy, .string b, .int .i64 t] 34)) := blk_below HBv2_4.out bw
  clear hb4 HONx_4 HOVx_4 HOFx_4 HONy_4 HOVy_4 HOFy_4 HBv1_4 HBv2_4 bw
  clear cv1_3 cv1_4 cv1_5 cv2_3 cv2_4 cv2_5
  have cv1_6 : (w5).cell? ⟨qv1, 6, none⟩ = some (.int .i64 t) := (cell_of HBv1_5.out 6).trans rfl
  have cv2_6 : (w5).cell? ⟨qv2, 6, none⟩ = some (.int .i64 t) := (cell_of HBv2_5.out 6).trans rfl
  go_wp2_with fail
  go_ret
  exact ⟨rfl, hb5⟩

set_option maxHeartbeats 4000000 in
set_option maxRecDepth 100000 in
theorem markObj_any (p : ByteArray) (n1 : Nat) (xs : List ByteArray) (n2 : Nat) (ys : List ByteArray) (st : Int) (n3 : Nat) (fs : List (ByteArray × ByteArray)) (b : ByteArray) (t : Int) (v1 v2 v3 : Value) (B : Nat) (w : World) (hx : ObjO w B v1 n1 xs v2 n2 ys v3 n3 fs) (hB : B ≤ w.heap.size) (k0 : Nat) (hk0 : 1 ≤ k0) (hk : k0 + n1 + n2 + 2 * n3 ≤ 9999998) :
    Calls Tryz.prog 15 #[.agg #[.string p, v1, v2, .int .i64 st, v3, .string b, .int .i64 t], .int .i64 (k0 : Int)] w fun e w' => e = .returned (.int .i64 (((k0 + n1 + n2 + 2 * n3) : Nat) : Int)) ∧ ObjO w' B v1 n1 (mkT k0 xs n1) v2 n2 (mkT (k0 + n1) ys n2) v3 n3 (mkG (k0 + n1 + n2) fs n3) ∧ Below B w w' ∧ (∀ g, g < w.heap.size → v1.ownBlock ≠ some g → v2.ownBlock ≠ some g → v3.ownBlock ≠ some g → w'.heap[g]? = w.heap[g]?) := by
  obtain ⟨oNx, pNx, rfl⟩ := slice_of_owns hx.names
  obtain ⟨oVx, pVx, rfl⟩ := slice_of_owns hx.vals
  obtain ⟨oFx, pFx, rfl⟩ := slice_of_owns hx.flds
  have HONx_0 : Hid ((w).ownsRow B 9 1 (.slice oNx n1 pNx) n1 (xs.map Value.string)) := hx.names
  have HOVx_0 : Hid ((w).ownsRow B 9 1 (.slice oVx n2 pVx) n2 (ys.map Value.string)) := hx.vals
  have HOFx_0 : Hid ((w).ownsRow B 75 2 (.slice oFx n3 pFx) n3 (flatF fs)) := hx.flds
  have APx : Hid (∀ j, (Value.slice oNx n1 pNx).ownBlock = some j → (Value.slice oVx n2 pVx).ownBlock ≠ some j) := hx.ne
  clear hx
  have hb0 : Below B w w := Below.refl _ _
  have HFAR_0 : Hid (∀ g, g < w.heap.size → (Value.ownBlock (.slice oNx n1 pNx)) ≠ some g → (Value.ownBlock (.slice oVx n2 pVx)) ≠ some g → (Value.ownBlock (.slice oFx n3 pFx)) ≠ some g → (w).heap[g]? = w.heap[g]?) := fun _ _ _ _ _ => rfl
  go_enter Tryz.func15, Tryz.ntmps15
  go_upto_region 1 with fail
  obtain ⟨qv1, hqv1⟩ : ∃ q, q = (w).heap.size := ⟨_, rfl⟩
  obtain ⟨w1, hW1⟩ : ∃ W, W = (w).alloc (.cells #[.string p, .slice oNx n1 pNx, .slice oVx n2 pVx, .int .i64 st, .slice oFx n3 pFx, .string b, .int .i64 t] 34) := ⟨_, rfl⟩
  have hz1 : (w).heap.size = qv1 := hqv1.symm
  first | rw [← hW1, ← hqv1] | rw [← hW1]
  have hs1 : w1.heap.size = qv1 + 1 := by rw [hW1, ← hz1]; simp
  have bw : Below (w).heap.size (w) w1 := by rw [hW1]; exact (Below.refl _ _).alloc (Nat.le_refl _) _
  have hb1 : Below B w (w1) := hb0.trans (bw.mono (Nat.le_trans hB hb0.size))
  have HM1 : Hid ((w).heap.size ≤ (w1).heap.size) := bw.size
  have HONx_1 : Hid ((w1).ownsRow B 9 1 (.slice oNx n1 pNx) n1 (xs.map Value.string)) := owns_below HONx_0.out bw (fun g hg => owns_lt HONx_0.out hg)
  have HOVx_1 : Hid ((w1).ownsRow B 9 1 (.slice oVx n2 pVx) n2 (ys.map Value.string)) := owns_below HOVx_0.out bw (fun g hg => owns_lt HOVx_0.out hg)
  have HOFx_1 : Hid ((w1).ownsRow B 75 2 (.slice oFx n3 pFx) n3 (flatF fs)) := owns_below HOFx_0.out bw (fun g hg => owns_lt HOFx_0.out hg)
  have HFAR_1 : Hid (∀ g, g < w.heap.size → (Value.ownBlock (.slice oNx n1 pNx)) ≠ some g → (Value.ownBlock (.slice oVx n2 pVx)) ≠ some g → (Value.ownBlock (.slice oFx n3 pFx)) ≠ some g → (w1).heap[g]? = w.heap[g]?) := fun g hg aNx aVx aFx => (bw.block g (Nat.lt_of_lt_of_le hg hb0.size)).trans (HFAR_0.out g hg aNx aVx aFx)
  have HBv1_1 : Hid ((w1).heap[qv1]? = some (.cells #[.string p, .slice oNx n1 pNx, .slice oVx n2 pVx, .int .i64 st, .slice oFx n3 pFx, .string b, .int .i64 t] 34)) := by show _ = _; rw [hW1, ← hz1]; exact heap_alloc_new _ _
  have HGv1 : Hid (w.heap.size ≤ qv1) := by show _ ≤ _; rw [← hz1]; exact hb0.size
  clear hb0 HFAR_0 HONx_0 HOVx_0 HOFx_0 bw hW1 hz1
  clear hs1 hqv1
  have cv1_1 : (w1).cell? ⟨qv1, 1, none⟩ = some (.slice oNx n1 pNx) := (cell_of HBv1_1.out 1).trans rfl
  go_wp2_with fail
  refine (markTFrom_any _ n1 B xs _ HONx_1.out (Nat.le_trans hB hb1.size) (k0) (by omega) (by omega)).mono ?_
  rintro e w2 ⟨rfl, mk, bm, far⟩
  have hb2 : Below B w w2 := hb1.trans bm
  have HM2 : Hid ((w1).heap.size ≤ w2.heap.size) := bm.size
  have HOVx_2 : Hid ((w2).ownsRow B 9 1 (.slice oVx n2 pVx) n2 (ys.map Value.string)) := owns_same HOVx_1.out (fun g hg => far g (owns_lt HOVx_1.out hg) (fun e => APx.out g e hg))
  have HOFx_2 : Hid ((w2).ownsRow B 75 2 (.slice oFx n3 pFx) n3 (flatF fs)) := owns_same HOFx_1.out (fun g hg => far g (owns_lt HOFx_1.out hg) (own_type_ne HOFx_1.out HONx_1.out (by decide) g hg))
  have HBv1_2 : Hid ((w2).heap[qv1]? = some (.cells #[.string p, .slice oNx n1 pNx, .slice oVx n2 pVx, .int .i64 st, .slice oFx n3 pFx, .string b, .int .i64 t] 34)) := blk_far HBv1_1.out far HONx_1.out (by decide)
  have HFAR_2 : Hid (∀ g, g < w.heap.size → (Value.ownBlock (.slice oNx n1 pNx)) ≠ some g → (Value.ownBlock (.slice oVx n2 pVx)) ≠ some g → (Value.ownBlock (.slice oFx n3 pFx)) ≠ some g → (w2).heap[g]? = w.heap[g]?) := fun g hg aNx aVx aFx => (far g (Nat.lt_of_lt_of_le hg hb1.size) aNx).trans (HFAR_1.out g hg aNx aVx aFx)
  have HONx_2 : Hid ((w2).ownsRow B 9 1 (.slice oNx n1 pNx) n1 ((mkT (k0) xs n1).map Value.string)) := mk
  clear hb1 HFAR_1 HONx_1 HOVx_1 HOFx_1 HBv1_1 mk bm far
  clear cv1_1
  have cv1_2 : (w2).cell? ⟨qv1, 2, none⟩ = some (.slice oVx n2 pVx) := (cell_of HBv1_2.out 2).trans rfl
  rw [show (((k0 : Nat) : Int) + (n1 : Int)) = ((k0 + n1 : Nat) : Int) by omega]
  go_wp2_with fail
  refine (markTFrom_any _ n2 B ys _ HOVx_2.out (Nat.le_trans hB hb2.size) (k0 + n1) (by omega) (by omega)).mono ?_
  rintro e w3 ⟨rfl, mk, bm, far⟩
  have hb3 : Below B w w3 := hb2.trans bm
  have HM3 : Hid ((w2).heap.size ≤ w3.heap.size) := bm.size
  have HONx_3 : Hid ((w3).ownsRow B 9 1 (.slice oNx n1 pNx) n1 ((mkT (k0) xs n1).map Value.string)) := owns_same HONx_2.out (fun g hg => far g (owns_lt HONx_2.out hg) ((APx.out) g hg))
  have HOFx_3 : Hid ((w3).ownsRow B 75 2 (.slice oFx n3 pFx) n3 (flatF fs)) := owns_same HOFx_2.out (fun g hg => far g (owns_lt HOFx_2.out hg) (own_type_ne HOFx_2.out HOVx_2.out (by decide) g hg))
  have HBv1_3 : Hid ((w3).heap[qv1]? = some (.cells #[.string p, .slice oNx n1 pNx, .slice oVx n2 pVx, .int .i64 st, .slice oFx n3 pFx, .string b, .int .i64 t] 34)) := blk_far HBv1_2.out far HOVx_2.out (by decide)
  have HFAR_3 : Hid (∀ g, g < w.heap.size → (Value.ownBlock (.slice oNx n1 pNx)) ≠ some g → (Value.ownBlock (.slice oVx n2 pVx)) ≠ some g → (Value.ownBlock (.slice oFx n3 pFx)) ≠ some g → (w3).heap[g]? = w.heap[g]?) := fun g hg aNx aVx aFx => (far g (Nat.lt_of_lt_of_le hg hb2.size) aVx).trans (HFAR_2.out g hg aNx aVx aFx)
  have HOVx_3 : Hid ((w3).ownsRow B 9 1 (.slice oVx n2 pVx) n2 ((mkT (k0 + n1) ys n2).map Value.string)) := mk
  clear hb2 HFAR_2 HONx_2 HOVx_2 HOFx_2 HBv1_2 mk bm far
  clear cv1_2
  have cv1_3 : (w3).cell? ⟨qv1, 3, none⟩ = some (.int .i64 st) := (cell_of HBv1_3.out 3).trans rfl
  have cv1_4 : (w3).cell? ⟨qv1, 4, none⟩ = some (.slice oFx n3 pFx) := (cell_of HBv1_3.out 4).trans rfl
  have cv1_5 : (w3).cell? ⟨qv1, 5, none⟩ = some (.string b) := (cell_of HBv1_3.out 5).trans rfl
  rw [show (((k0 + n1 : Nat) : Int) + (n2 : Int)) = ((k0 + n1 + n2 : Nat) : Int) by omega]
  go_wp2_with fail
  refine (markRespFrom_any st _ b n3 B fs _ HOFx_3.out (Nat.le_trans hB hb3.size) (k0 + n1 + n2) (by omega) (by omega)).mono ?_
  rintro e w4 ⟨rfl, mk, bm, far⟩
  have hb4 : Below B w w4 := hb3.trans bm
  have HM4 : Hid ((w3).heap.size ≤ w4.heap.size) := bm.size
  have HONx_4 : Hid ((w4).ownsRow B 9 1 (.slice oNx n1 pNx) n1 ((mkT (k0) xs n1).map Value.string)) := owns_same HONx_3.out (fun g hg => far g (owns_lt HONx_3.out hg) (own_type_ne HONx_3.out HOFx_3.out (by decide) g hg))
  have HOVx_4 : Hid ((w4).ownsRow B 9 1 (.slice oVx n2 pVx) n2 ((mkT (k0 + n1) ys n2).map Value.string)) := owns_same HOVx_3.out (fun g hg => far g (owns_lt HOVx_3.out hg) (own_type_ne HOVx_3.out HOFx_3.out (by decide) g hg))
  have HBv1_4 : Hid ((w4).heap[qv1]? = some (.cells #[.string p, .slice oNx n1 pNx, .slice oVx n2 pVx, .int .i64 st, .slice oFx n3 pFx, .string b, .int .i64 t] 34)) := blk_far HBv1_3.out far HOFx_3.out (by decide)
  have HFAR_4 : Hid (∀ g, g < w.heap.size → (Value.ownBlock (.slice oNx n1 pNx)) ≠ some g → (Value.ownBlock (.slice oVx n2 pVx)) ≠ some g → (Value.ownBlock (.slice oFx n3 pFx)) ≠ some g → (w4).heap[g]? = w.heap[g]?) := fun g hg aNx aVx aFx => (far g (Nat.lt_of_lt_of_le hg hb3.size) aFx).trans (HFAR_3.out g hg aNx aVx aFx)
  have HOFx_4 : Hid ((w4).ownsRow B 75 2 (.slice oFx n3 pFx) n3 (flatF (mkG (k0 + n1 + n2) fs n3))) := mk
  clear hb3 HFAR_3 HONx_3 HOVx_3 HOFx_3 HBv1_3 mk bm far
  clear cv1_3 cv1_4 cv1_5
  go_wp2_with fail
  go_ret
  exact ⟨congrArg (fun x : Int => Ending.returned (.int .i64 x)) (show ((k0 : Int) + (n1 : Int) + (n2 : Int) + 2 * (n3 : Int)) = (((k0 + n1 + n2 + 2 * n3) : Nat) : Int) by omega), ⟨HONx_4.out, HOVx_4.out, HOFx_4.out, APx.out⟩, hb4, HFAR_4.out⟩

set_option maxHeartbeats 4000000 in
set_option maxRecDepth 100000 in
theorem heldObj_any (p : ByteArray) (n1 : Nat) (xs : List ByteArray) (n2 : Nat) (ys : List ByteArray) (st : Int) (n3 : Nat) (fs : List (ByteArray × ByteArray)) (b : ByteArray) (t : Int) (v1 v2 v3 : Value) (B : Nat) (w : World) (hx : ObjO w B v1 n1 xs v2 n2 ys v3 n3 fs) (k0 : Nat) (hk0 : 1 ≤ k0) (hk : k0 + n1 + n2 + 2 * n3 ≤ 9999998) (m1 : ∀ j, j < n1 → textAt xs j = markOf (k0 + j)) (m2 : ∀ j, j < n2 → textAt ys j = markOf (k0 + n1 + j)) (m3 : ∀ j, j < n3 → nameAt fs j = markOf (k0 + n1 + n2 + 2 * j) ∧ valAt fs j = markOf (k0 + n1 + n2 + 2 * j + 1)) :
    Calls Tryz.prog 16 #[.agg #[.string p, v1, v2, .int .i64 st, v3, .string b, .int .i64 t], .int .i64 (k0 : Int)] w fun e w' => e = .returned (.int .i64 (((k0 + n1 + n2 + 2 * n3) : Nat) : Int)) ∧ Below w.heap.size w w' := by
  obtain ⟨oNx, pNx, rfl⟩ := slice_of_owns hx.names
  obtain ⟨oVx, pVx, rfl⟩ := slice_of_owns hx.vals
  obtain ⟨oFx, pFx, rfl⟩ := slice_of_owns hx.flds
  have HONx_0 : Hid ((w).ownsRow B 9 1 (.slice oNx n1 pNx) n1 (xs.map Value.string)) := hx.names
  have HOVx_0 : Hid ((w).ownsRow B 9 1 (.slice oVx n2 pVx) n2 (ys.map Value.string)) := hx.vals
  have HOFx_0 : Hid ((w).ownsRow B 75 2 (.slice oFx n3 pFx) n3 (flatF fs)) := hx.flds
  have APx : Hid (∀ j, (Value.slice oNx n1 pNx).ownBlock = some j → (Value.slice oVx n2 pVx).ownBlock ≠ some j) := hx.ne
  clear hx
  have HK1 : Hid (∀ j, j < n1 → textAt xs j = markOf (k0 + j)) := m1
  have HK2 : Hid (∀ j, j < n2 → textAt ys j = markOf (k0 + n1 + j)) := m2
  have HK3 : Hid (∀ j, j < n3 → nameAt fs j = markOf (k0 + n1 + n2 + 2 * j) ∧ valAt fs j = markOf (k0 + n1 + n2 + 2 * j + 1)) := m3
  clear m1 m2 m3
  have hb0 : Below w.heap.size w w := Below.refl _ _
  go_enter Tryz.func16, Tryz.ntmps16
  go_upto_region 1 with fail
  obtain ⟨qv1, hqv1⟩ : ∃ q, q = (w).heap.size := ⟨_, rfl⟩
  obtain ⟨w1, hW1⟩ : ∃ W, W = (w).alloc (.cells #[.string p, .slice oNx n1 pNx, .slice oVx n2 pVx, .int .i64 st, .slice oFx n3 pFx, .string b, .int .i64 t] 34) := ⟨_, rfl⟩
  have hz1 : (w).heap.size = qv1 := hqv1.symm
  first | rw [← hW1, ← hqv1] | rw [← hW1]
  have hs1 : w1.heap.size = qv1 + 1 := by rw [hW1, ← hz1]; simp
  have bw : Below (w).heap.size (w) w1 := by rw [hW1]; exact (Below.refl _ _).alloc (Nat.le_refl _) _
  have hb1 : Below w.heap.size w (w1) := hb0.trans (bw.mono hb0.size)
  have HM1 : Hid ((w).heap.size ≤ (w1).heap.size) := bw.size
  have HONx_1 : Hid ((w1).ownsRow B 9 1 (.slice oNx n1 pNx) n1 (xs.map Value.string)) := owns_below HONx_0.out bw (fun g hg => owns_lt HONx_0.out hg)
  have HOVx_1 : Hid ((w1).ownsRow B 9 1 (.slice oVx n2 pVx) n2 (ys.map Value.string)) := owns_below HOVx_0.out bw (fun g hg => owns_lt HOVx_0.out hg)
  have HOFx_1 : Hid ((w1).ownsRow B 75 2 (.slice oFx n3 pFx) n3 (flatF fs)) := owns_below HOFx_0.out bw (fun g hg => owns_lt HOFx_0.out hg)
  have HBv1_1 : Hid ((w1).heap[qv1]? = some (.cells #[.string p, .slice oNx n1 pNx, .slice oVx n2 pVx, .int .i64 st, .slice oFx n3 pFx, .string b, .int .i64 t] 34)) := by show _ = _; rw [hW1, ← hz1]; exact heap_alloc_new _ _
  have HGv1 : Hid (w.heap.size ≤ qv1) := by show _ ≤ _; rw [← hz1]; exact hb0.size
  clear hb0 HONx_0 HOVx_0 HOFx_0 bw hW1 hz1
  clear hs1 hqv1
  have cv1_1 : (w1).cell? ⟨qv1, 1, none⟩ = some (.slice oNx n1 pNx) := (cell_of HBv1_1.out 1).trans rfl
  go_wp2_with fail
  refine (heldTFrom_any _ n1 _ xs _ HONx_1.out (k0) (by omega) (by omega) HK1.out).mono ?_
  rintro e w2 ⟨rfl, bw⟩
  have hb2 : Below w.heap.size w (w2) := hb1.trans (bw.mono hb1.size)
  have HM2 : Hid ((w1).heap.size ≤ (w2).heap.size) := bw.size
  have HONx_2 : Hid ((w2).ownsRow B 9 1 (.slice oNx n1 pNx) n1 (xs.map Value.string)) := owns_below HONx_1.out bw (fun g hg => owns_lt HONx_1.out hg)
  have HOVx_2 : Hid ((w2).ownsRow B 9 1 (.slice oVx n2 pVx) n2 (ys.map Value.string)) := owns_below HOVx_1.out bw (fun g hg => owns_lt HOVx_1.out hg)
  have HOFx_2 : Hid ((w2).ownsRow B 75 2 (.slice oFx n3 pFx) n3 (flatF fs)) := owns_below HOFx_1.out bw (fun g hg => owns_lt HOFx_1.out hg)
  have HBv1_2 : Hid ((w2).heap[qv1]? = some (.cells #[.string p, .slice oNx n1 pNx, .slice oVx n2 pVx, .int .i64 st, .slice oFx n3 pFx, .string b, .int .i64 t] 34)) := blk_below HBv1_1.out bw
  clear hb1 HONx_1 HOVx_1 HOFx_1 HBv1_1 bw
  have hkNx : ¬ ((((k0 : Nat) : Int) + (n1 : Int)) < 0) := by omega
  clear cv1_1
  have cv1_2 : (w2).cell? ⟨qv1, 2, none⟩ = some (.slice oVx n2 pVx) := (cell_of HBv1_2.out 2).trans rfl
  rw [show (((k0 : Nat) : Int) + (n1 : Int)) = ((k0 + n1 : Nat) : Int) by omega]
  go_wp2_with fail
  refine (heldTFrom_any _ n2 _ ys _ HOVx_2.out (k0 + n1) (by omega) (by omega) HK2.out).mono ?_
  rintro e w3 ⟨rfl, bw⟩
  have hb3 : Below w.heap.size w (w3) := hb2.trans (bw.mono hb2.size)
  have HM3 : Hid ((w2).heap.size ≤ (w3).heap.size) := bw.size
  have HONx_3 : Hid ((w3).ownsRow B 9 1 (.slice oNx n1 pNx) n1 (xs.map Value.string)) := owns_below HONx_2.out bw (fun g hg => owns_lt HONx_2.out hg)
  have HOVx_3 : Hid ((w3).ownsRow B 9 1 (.slice oVx n2 pVx) n2 (ys.map Value.string)) := owns_below HOVx_2.out bw (fun g hg => owns_lt HOVx_2.out hg)
  have HOFx_3 : Hid ((w3).ownsRow B 75 2 (.slice oFx n3 pFx) n3 (flatF fs)) := owns_below HOFx_2.out bw (fun g hg => owns_lt HOFx_2.out hg)
  have HBv1_3 : Hid ((w3).heap[qv1]? = some (.cells #[.string p, .slice oNx n1 pNx, .slice oVx n2 pVx, .int .i64 st, .slice oFx n3 pFx, .string b, .int .i64 t] 34)) := blk_below HBv1_2.out bw
  clear hb2 HONx_2 HOVx_2 HOFx_2 HBv1_2 bw
  have hkVx : ¬ ((((k0 + n1 : Nat) : Int) + (n2 : Int)) < 0) := by omega
  clear cv1_2
  have cv1_3 : (w3).cell? ⟨qv1, 3, none⟩ = some (.int .i64 st) := (cell_of HBv1_3.out 3).trans rfl
  have cv1_4 : (w3).cell? ⟨qv1, 4, none⟩ = some (.slice oFx n3 pFx) := (cell_of HBv1_3.out 4).trans rfl
  have cv1_5 : (w3).cell? ⟨qv1, 5, none⟩ = some (.string b) := (cell_of HBv1_3.out 5).trans rfl
  rw [show (((k0 + n1 : Nat) : Int) + (n2 : Int)) = ((k0 + n1 + n2 : Nat) : Int) by omega]
  go_wp2_with fail
  refine (heldRespFrom_any st _ b n3 _ fs _ HOFx_3.out (k0 + n1 + n2) (by omega) (by omega) HK3.out).mono ?_
  rintro e w4 ⟨rfl, bw⟩
  have hb4 : Below w.heap.size w (w4) := hb3.trans (bw.mono hb3.size)
  have HM4 : Hid ((w3).heap.size ≤ (w4).heap.size) := bw.size
  have HONx_4 : Hid ((w4).ownsRow B 9 1 (.slice oNx n1 pNx) n1 (xs.map Value.string)) := owns_below HONx_3.out bw (fun g hg => owns_lt HONx_3.out hg)
  have HOVx_4 : Hid ((w4).ownsRow B 9 1 (.slice oVx n2 pVx) n2 (ys.map Value.string)) := owns_below HOVx_3.out bw (fun g hg => owns_lt HOVx_3.out hg)
  have HOFx_4 : Hid ((w4).ownsRow B 75 2 (.slice oFx n3 pFx) n3 (flatF fs)) := owns_below HOFx_3.out bw (fun g hg => owns_lt HOFx_3.out hg)
  have HBv1_4 : Hid ((w4).heap[qv1]? = some (.cells #[.string p, .slice oNx n1 pNx, .slice oVx n2 pVx, .int .i64 st, .slice oFx n3 pFx, .string b, .int .i64 t] 34)) := blk_below HBv1_3.out bw
  clear hb3 HONx_3 HOVx_3 HOFx_3 HBv1_3 bw
  have hkF : ¬ ((((k0 + n1 + n2 : Nat) : Int) + 2 * (n3 : Int)) < 0) := by omega
  clear cv1_3 cv1_4 cv1_5
  go_wp2_with fail
  go_ret
  exact ⟨congrArg (fun x : Int => Ending.returned (.int .i64 x)) (show ((k0 : Int) + (n1 : Int) + (n2 : Int) + 2 * (n3 : Int)) = (((k0 + n1 + n2 + 2 * n3) : Nat) : Int) by omega), hb4⟩

end Go.Proofs.YtdlhicdfldecgaaGreat

namespace Go.Proofs.YtdlhicdfldecgaaGreat
open Go.RowKit

def hxB (d : Nat) : UInt8 := UInt8.ofNat (if d < 10 then 48 + d else 87 + d)
def hxF : Nat → Nat → List UInt8
  | 0, _ => []
  | f + 1, n => if n = 0 then [] else hxF f (n / 16) ++ [hxB (n % 16)]
theorem hxF_zero (f : Nat) : hxF f 0 = [] := by cases f <;> simp [hxF]
theorem hxF_pos (f n : Nat) (h : n ≠ 0) : hxF (f + 1) n = hxF f (n / 16) ++ [hxB (n % 16)] := by simp [hxF, h]
def hexL (n : Nat) : List UInt8 := if 1000000 < n then [] else if n = 0 then [48] else hxF 5 n
abbrev HexB (b : UInt8) : Prop := (48 ≤ b.toNat ∧ b.toNat ≤ 57) ∨ (97 ≤ b.toNat ∧ b.toNat ≤ 102)
def hexV (b : UInt8) : Nat := if b.toNat ≤ 57 then b.toNat - 48 else b.toNat - 87
theorem hxB_facts (d : Nat) (h : d < 16) : HexB (hxB d) ∧ hexV (hxB d) = d ∧ (d ≠ 0 → hxB d ≠ 48) := by
  have : ∀ d : Fin 16, HexB (hxB d.1) ∧ hexV (hxB d.1) = d.1 ∧ (d.1 ≠ 0 → hxB d.1 ≠ 48) := by decide
  exact this ⟨d, h⟩
def hexVal (l : List UInt8) : Nat := l.foldl (fun v b => 16 * v + hexV b) 0
theorem hexVal_snoc (l : List UInt8) (b : UInt8) : hexVal (l ++ [b]) = 16 * hexVal l + hexV b := by simp [hexVal]
theorem hx_facts : ∀ (f n : Nat), n < 16 ^ f → (∀ b ∈ hxF f n, HexB b) ∧ hexVal (hxF f n) = n ∧ (∀ b, (hxF f n).head? = some b → b ≠ 48) ∧ (n ≠ 0 → hxF f n ≠ []) := by
  intro f
  induction f with
  | zero => intro n h; simp at h; subst h; simp [hxF, hexVal]
  | succ f ih =>
    intro n h
    by_cases h0 : n = 0
    · subst h0; rw [hxF_zero]; simp [hexVal]
    · rw [Nat.pow_succ] at h
      obtain ⟨h1, h2, h3, h4⟩ := ih (n / 16) (by omega)
      have hd := hxB_facts (n % 16) (by omega)
      rw [hxF_pos f n h0]
      refine ⟨fun b hb => ?_, ?_, fun b hb => ?_, fun _ => by simp⟩
      · simp only [List.mem_append, List.mem_singleton] at hb
        rcases hb with hb | rfl
        · exact h1 b hb
        · exact hd.1
      · rw [hexVal_snoc, h2, hd.2.1]; omega
      · by_cases hz : n / 16 = 0
        · rw [hz, hxF_zero] at hb
          simp at hb
          subst hb
          exact hd.2.2 (by omega)
        · have hne := h4 hz
          obtain ⟨c, r, hc⟩ : ∃ c r, hxF f (n / 16) = c :: r := by
            cases hx : hxF f (n / 16) with
            | nil => exact absurd hx hne
            | cons c r => exact ⟨c, r, rfl⟩
          rw [hc] at hb h3
          simp at hb h3
          rw [← hb]; exact h3
theorem hx_len : ∀ (f n k : Nat), n < 16 ^ k → (hxF f n).length ≤ k := by
  intro f
  induction f with
  | zero => intro n k _; simp [hxF]
  | succ f ih =>
    intro n k h
    by_cases h0 : n = 0
    · subst h0; rw [hxF_zero]; simp
    · cases k with
      | zero => simp at h; omega
      | succ k =>
        rw [Nat.pow_succ] at h
        have := ih (n / 16) k (by omega)
        rw [hxF_pos f n h0]
        simp; omega
/-- A length that may begin a part: one to four digits, no needless nought. -/
theorem hex_head (n : Nat) (h : n < 65536) : 1 ≤ (hexL n).length ∧ (hexL n).length ≤ 4 ∧ (∀ b ∈ hexL n, HexB b) ∧ hexVal (hexL n) = n ∧ (1 < (hexL n).length → ∀ b, (hexL n).head? = some b → b ≠ 48) := by
  unfold hexL
  rw [if_neg (by omega)]
  by_cases h0 : n = 0
  · rw [if_pos h0, h0]
    refine ⟨by simp, by simp, ?_, rfl, by simp⟩
    intro b hb
    simp at hb
    subst hb
    decide
  · rw [if_neg h0]
    obtain ⟨h1, h2, h3, h4⟩ := hx_facts 5 n (by omega)
    have hl := hx_len 5 n 4 (by omega)
    refine ⟨?_, hl, h1, h2, fun _ => h3⟩
    cases hx : hxF 5 n with
    | nil => exact absurd hx (h4 h0)
    | cons c r => simp

/-- A line's end held against what stands there: 0 it is one, 1 it may become one, 2 it is none. -/
def lineC : List UInt8 → Int
  | [] => 1
  | [c] => if c = 13 then 1 else 2
  | c :: d :: _ => if c = 13 ∧ d = 10 then 0 else 2
def digN : Nat → List UInt8 → Nat
  | 0, _ => 0
  | _ + 1, [] => 0
  | f + 1, c :: r => if HexB c then digN f r + 1 else 0
theorem digN_le : ∀ (f : Nat) (r : List UInt8), digN f r ≤ f ∧ digN f r ≤ r.length
  | 0, _ => by simp [digN]
  | _ + 1, [] => by simp [digN]
  | f + 1, c :: r => by
    have := digN_le f r
    unfold digN
    split
    · simp; omega
    · simp
theorem digN_hex : ∀ (f : Nat) (r : List UInt8), ∀ b ∈ r.take (digN f r), HexB b
  | 0, _ => by simp [digN]
  | _ + 1, [] => by simp [digN]
  | f + 1, c :: r => by
    have := digN_hex f r
    unfold digN
    split
    · rename_i h
      intro b hb
      simp only [List.take_succ_cons, List.mem_cons] at hb
      rcases hb with rfl | hb
      · exact h
      · exact this b hb
    · simp
theorem digN_pre : ∀ (l rest : List UInt8) (f : Nat), l.length ≤ f → (∀ b ∈ l, HexB b) → (l.length = f ∨ ∀ c r, rest = c :: r → ¬ HexB c) → digN f (l ++ rest) = l.length
  | [], rest, f, _, _, h => by
    rcases h with h | h
    · simp at h; subst h; simp [digN]
    · cases f with
      | zero => simp [digN]
      | succ f =>
        cases rest with
        | nil => simp [digN]
        | cons c r => simp [digN, h c r rfl]
  | b :: l, rest, f, hf, hh, h => by
    cases f with
    | zero => simp at hf
    | succ f =>
      have ih := digN_pre l rest f (by simpa using hf) (fun x hx => hh x (by simp [hx])) (by
        rcases h with h | h
        · left; simpa using h
        · right; exact h)
      simp [digN, hh b (by simp), ih]
def lenK (r : List UInt8) : Nat := digN 5 r
abbrev lenBad (r : List UInt8) : Prop := 4 < lenK r ∨ (1 < lenK r ∧ r.head? = some 48) ∨ (lenK r = 0 ∧ r ≠ [])
/-- What is told of a length and its line's end. -/
def lenC (r : List UInt8) : Int := if lenBad r then 2 else if lenK r = 0 then 1 else lineC (r.drop (lenK r))
def lenN (r : List UInt8) : Nat := hexVal (r.take (lenK r))
theorem lineC_zero {r : List UInt8} (h : lineC r = 0) : ∃ t, r = 13 :: 10 :: t := by
  match r with
  | [] => simp [lineC] at h
  | [c] => simp only [lineC] at h; split at h <;> simp at h
  | c :: d :: t =>
    simp only [lineC] at h
    split at h
    · rename_i e; exact ⟨t, by rw [e.1, e.2]⟩
    · simp at h
theorem lineC_vals (r : List UInt8) : lineC r = 0 ∨ lineC r = 1 ∨ lineC r = 2 := by
  match r with
  | [] => simp [lineC]
  | [c] => simp only [lineC]; split <;> simp
  | c :: d :: t => simp only [lineC]; split <;> simp
theorem lineC_mono {r t : List UInt8} (h : lineC r ≠ 1) : lineC (r ++ t) = lineC r := by
  match r with
  | [] => simp [lineC] at h
  | [c] =>
    by_cases e : c = 13
    · simp [lineC, e] at h
    · cases t with
      | nil => simp
      | cons d t => simp [lineC, e]
  | c :: d :: u => simp [lineC]
theorem lenC_zero {r : List UInt8} (h : lenC r = 0) : 1 ≤ lenK r ∧ lenK r ≤ 4 ∧ ¬ lenBad r ∧ ∃ t, r.drop (lenK r) = 13 :: 10 :: t := by
  unfold lenC at h
  by_cases hb : lenBad r
  · rw [if_pos hb] at h; simp at h
  · rw [if_neg hb] at h
    by_cases h0 : lenK r = 0
    · rw [if_pos h0] at h; simp at h
    · rw [if_neg h0] at h
      refine ⟨by omega, ?_, hb, lineC_zero h⟩
      unfold lenBad at hb
      omega
theorem lenC_vals (r : List UInt8) : lenC r = 0 ∨ lenC r = 1 ∨ lenC r = 2 := by
  unfold lenC
  split
  · simp
  · split
    · simp
    · exact lineC_vals _
/-- A length, and a line's end behind it. -/
theorem len_head (n : Nat) (h : n < 65536) (rest : List UInt8) (hr : ∀ c r, rest = c :: r → c = 13) : lenK (hexL n ++ rest) = (hexL n).length ∧ lenN (hexL n ++ rest) = n ∧ lenC (hexL n ++ rest) = lineC rest := by
  obtain ⟨h1, h2, h3, h4, h5⟩ := hex_head n h
  have hk : lenK (hexL n ++ rest) = (hexL n).length := digN_pre _ _ 5 (by omega) h3 (.inr (fun c r e => by rw [hr c r e]; decide))
  refine ⟨hk, ?_, ?_⟩
  · unfold lenN; rw [hk, List.take_left]; exact h4
  · unfold lenC
    rw [if_neg, hk, if_neg (by omega), List.drop_left]
    unfold lenBad
    rw [hk]
    rintro (h | ⟨h, e⟩ | ⟨h, _⟩)
    · omega
    · cases hx : hexL n with
      | nil => rw [hx] at h1; simp at h1
      | cons c r =>
        rw [hx] at e h5 h
        simp at e
        exact h5 (by simpa using h) c (by simp) e
    · omega
theorem lenK_mono {r : List UInt8} (t : List UInt8) (h : lenC r = 0) : lenK (r ++ t) = lenK r ∧ lenN (r ++ t) = lenN r ∧ lenC (r ++ t) = 0 := by
  obtain ⟨h1, h2, hb, u, hu⟩ := lenC_zero h
  have hl := digN_le 5 r
  have e : r = r.take (lenK r) ++ 13 :: 10 :: u := by rw [← hu, List.take_append_drop]
  have hlen : (r.take (lenK r)).length = lenK r := by rw [List.length_take]; unfold lenK; omega
  have hk : lenK (r ++ t) = lenK r := by
    have : r ++ t = r.take (lenK r) ++ (13 :: 10 :: u ++ t) := by rw [← List.append_assoc, ← e]
    rw [this]
    have := digN_pre (r.take (lenK r)) (13 :: 10 :: u ++ t) 5 (by omega) (digN_hex 5 r) (.inr (fun c q e => by simp at e; rw [← e.1]; decide))
    show digN 5 _ = _
    rw [this, hlen]
  refine ⟨hk, ?_, ?_⟩
  · unfold lenN; rw [hk, List.take_append_of_le_length (by unfold lenK; omega)]
  · unfold lenC
    rw [if_neg, hk, if_neg (by omega), List.drop_append_of_le_length (by unfold lenK; omega), hu]
    · simp [lineC]
    · unfold lenBad at hb ⊢
      rw [hk]
      rintro (h | ⟨h, e⟩ | ⟨h, _⟩)
      · omega
      · refine hb (.inr (.inl ⟨h, ?_⟩))
        cases r with
        | nil => simp at hl; unfold lenK at h; omega
        | cons c q => simpa using e
      · omega
theorem lenC_mono {r : List UInt8} (t : List UInt8) (h : lenC r ≠ 1) : lenC (r ++ t) = lenC r := by
  rcases lenC_vals r with h0 | h1 | h2
  · rw [(lenK_mono t h0).2.2, h0]
  · exact absurd h1 h
  · have hl := digN_le 5 r
    have hl2 := digN_le 5 (r ++ t)
    have hh := digN_hex 5 r
    have hlen : (r.take (lenK r)).length = lenK r := by rw [List.length_take]; unfold lenK; omega
    rw [h2]
    by_cases hb : lenBad r
    · have hb2 : lenBad (r ++ t) := by
        have hge : lenK r ≤ lenK (r ++ t) := by
          have : ∀ (f : Nat) (a b : List UInt8), digN f a ≤ digN f (a ++ b) := by
            intro f
            induction f with
            | zero => intro a b; simp [digN]
            | succ f ih =>
              intro a b
              cases a with
              | nil => simp [digN]
              | cons c a =>
                simp only [List.cons_append, digN]
                split
                · have := ih a b; omega
                · simp
          exact this 5 r t
        rcases hb with h | ⟨h, e⟩ | ⟨h, e⟩
        · exact .inl (by omega)
        · refine .inr (.inl ⟨by omega, ?_⟩)
          cases r with
          | nil => simp at e
          | cons c q => simpa using e
        · cases r with
          | nil => exact absurd rfl e
          | cons c q =>
            have hc : ¬ HexB c := by
              intro hc
              unfold lenK at h
              simp [digN, hc] at h
            refine .inr (.inr ⟨?_, by simp⟩)
            simp [lenK, digN, hc]
      unfold lenC; rw [if_pos hb2]
    · unfold lenC at h2
      rw [if_neg hb] at h2
      by_cases h0 : lenK r = 0
      · rw [if_pos h0] at h2; simp at h2
      · rw [if_neg h0] at h2
        have hne : lineC (r.drop (lenK r)) ≠ 1 := by rw [h2]; simp
        have hk4 : lenK r ≤ 4 := by unfold lenBad at hb; omega
        -- a byte behind the digits that is no digit
        obtain ⟨c, q, hc, hnc⟩ : ∃ c q, r.drop (lenK r) = c :: q ∧ ¬ HexB c := by
          cases hd : r.drop (lenK r) with
          | nil => rw [hd] at h2; simp [lineC] at h2
          | cons c q =>
            refine ⟨c, q, rfl, fun hx => ?_⟩
            have e : r = (r.take (lenK r) ++ [c]) ++ q := by rw [List.append_assoc]; simp [← hd]
            have : ∀ (f : Nat) (l m : List UInt8), (∀ b ∈ l, HexB b) → l.length ≤ f → l.length ≤ digN f (l ++ m) := by
              intro f
              induction f with
              | zero => intro l m _ hl; simp at hl; simp [hl]
              | succ f ih =>
                intro l m hl hlf
                cases l with
                | nil => simp
                | cons x l =>
                  simp only [List.cons_append, digN, hl x (by simp), if_true, List.length_cons]
                  have := ih l m (fun b hb => hl b (by simp [hb])) (by simpa using hlf)
                  omega
            have h9 := this 5 (r.take (lenK r) ++ [c]) q (fun b hb => by
              simp only [List.mem_append, List.mem_singleton] at hb
              rcases hb with hb | rfl
              · exact hh b hb
              · exact hx) (by simp; omega)
            rw [← e] at h9
            simp [hlen] at h9
            unfold lenK at h9
            omega
        have hk : lenK (r ++ t) = lenK r := by
          have e : r ++ t = r.take (lenK r) ++ (c :: q ++ t) := by rw [← hc, ← List.append_assoc, List.take_append_drop]
          have h9 := digN_pre (r.take (lenK r)) (c :: q ++ t) 5 (by omega) hh (.inr (fun c' q' e' => by simp at e'; rw [← e'.1]; exact hnc))
          rw [← e, hlen] at h9
          exact h9
        unfold lenC
        rw [if_neg, hk, if_neg h0, List.drop_append_of_le_length (by unfold lenK; omega), lineC_mono hne, h2]
        unfold lenBad at hb ⊢
        rw [hk]
        rintro (h | ⟨h, e⟩ | ⟨h, _⟩)
        · omega
        · refine hb (.inr (.inl ⟨h, ?_⟩))
          cases r with
          | nil => simp at hc
          | cons x q => simpa using e
        · omega

end Go.Proofs.YtdlhicdfldecgaaGreat

namespace Go.Proofs.YtdlhicdfldecgaaGreat
open Go.RowKit

/-- What stands behind a length and its line's end; what stands behind the part's bytes. -/
def rdA (r : List UInt8) : List UInt8 := r.drop (lenK r + 2)
def rdB (r : List UInt8) : List UInt8 := (rdA r).drop (lenN r)
/-- What is told of a text from a place on; none: not told within so many parts. -/
def rdF : Nat → List UInt8 → List UInt8 → Nat → Option (List UInt8 × Nat × Int)
  | 0, _, _, _ => none
  | f + 1, r, body, pos =>
    if lenC r ≠ 0 then some ([], 0, lenC r)
    else if 120 < body.length + lenN r then some ([], 0, 3)
    else if (rdA r).length < lenN r then some ([], 0, 1)
    else if lineC (rdB r) ≠ 0 then some ([], 0, lineC (rdB r))
    else if lenN r = 0 then some (body, pos + lenK r + 4, 0)
    else rdF f ((rdB r).drop 2) (body ++ (rdA r).take (lenN r)) (pos + lenK r + lenN r + 4)
def Rd (r body : List UInt8) (pos : Nat) (x : List UInt8 × Nat × Int) : Prop := ∃ f, rdF f r body pos = some x
theorem Rd.len {r body : List UInt8} {pos : Nat} (h : lenC r ≠ 0) : Rd r body pos ([], 0, lenC r) := ⟨1, by unfold rdF; rw [if_pos h]⟩
theorem Rd.long {r body : List UInt8} {pos : Nat} (h1 : lenC r = 0) (h2 : 120 < body.length + lenN r) : Rd r body pos ([], 0, 3) := ⟨1, by unfold rdF; rw [if_neg (by simp [h1]), if_pos h2]⟩
theorem Rd.short {r body : List UInt8} {pos : Nat} (h1 : lenC r = 0) (h2 : ¬ 120 < body.length + lenN r) (h3 : (rdA r).length < lenN r) : Rd r body pos ([], 0, 1) := ⟨1, by unfold rdF; rw [if_neg (by simp [h1]), if_neg h2, if_pos h3]⟩
theorem Rd.line {r body : List UInt8} {pos : Nat} (h1 : lenC r = 0) (h2 : ¬ 120 < body.length + lenN r) (h3 : ¬ (rdA r).length < lenN r) (h4 : lineC (rdB r) ≠ 0) : Rd r body pos ([], 0, lineC (rdB r)) := ⟨1, by unfold rdF; rw [if_neg (by simp [h1]), if_neg h2, if_neg h3, if_pos h4]⟩
theorem Rd.part {r body : List UInt8} {pos : Nat} {x : List UInt8 × Nat × Int} (h1 : lenC r = 0) (h2 : ¬ 120 < body.length + lenN r) (h3 : ¬ (rdA r).length < lenN r) (h4 : lineC (rdB r) = 0) (h5 : lenN r ≠ 0) (h : Rd ((rdB r).drop 2) (body ++ (rdA r).take (lenN r)) (pos + lenK r + lenN r + 4) x) : Rd r body pos x := by
  obtain ⟨f, hf⟩ := h
  exact ⟨f + 1, by unfold rdF; rw [if_neg (by simp [h1]), if_neg h2, if_neg h3, if_neg (by simp [h4]), if_neg h5]; exact hf⟩

theorem rdA_len {r : List UInt8} (h : lenC r = 0) : lenK r + 2 ≤ r.length := by
  obtain ⟨_, _, _, t, ht⟩ := lenC_zero h
  have := congrArg List.length ht
  simp at this
  omega
/-- What is told of a text, but that there must be more, is told of it with whatever behind it. -/
theorem rdF_behind (t : List UInt8) : ∀ (f : Nat) (r body : List UInt8) (pos : Nat) (x : List UInt8 × Nat × Int), rdF f r body pos = some x → x.2.2 ≠ 1 → rdF f (r ++ t) body pos = some x := by
  intro f
  induction f with
  | zero => intro r body pos x h; simp [rdF] at h
  | succ f ih =>
    intro r body pos x h hx
    unfold rdF at h ⊢
    by_cases h1 : lenC r ≠ 0
    · rw [if_pos h1] at h
      have e := Option.some.inj h
      subst e
      have hx : lenC r ≠ 1 := hx
      rw [lenC_mono t hx, if_pos h1]
    · have h0 : lenC r = 0 := by simpa using h1
      obtain ⟨k1, k2, k3⟩ := lenK_mono t h0
      have hl := rdA_len h0
      have eA : rdA (r ++ t) = rdA r ++ t := by unfold rdA; rw [k1, List.drop_append_of_le_length hl]
      rw [if_neg h1] at h
      rw [if_neg (by simp [k3]), k1, k2, eA]
      by_cases h2 : 120 < body.length + lenN r
      · rw [if_pos h2] at h ⊢; exact h
      · rw [if_neg h2] at h ⊢
        by_cases h3 : (rdA r).length < lenN r
        · rw [if_pos h3] at h
          have e := Option.some.inj h
          subst e
          exact absurd rfl hx
        · rw [if_neg h3] at h
          have eB : rdB (r ++ t) = rdB r ++ t := by unfold rdB; rw [eA, k2, List.drop_append_of_le_length (by omega)]
          rw [if_neg (by simp; omega), eB]
          by_cases h4 : lineC (rdB r) ≠ 0
          · rw [if_pos h4] at h
            have e := Option.some.inj h
            subst e
            have hx : lineC (rdB r) ≠ 1 := hx
            rw [lineC_mono hx, if_pos h4]
          · have h40 : lineC (rdB r) = 0 := by simpa using h4
            have hne : lineC (rdB r) ≠ 1 := by rw [h40]; simp
            obtain ⟨u, hu⟩ := lineC_zero h40
            rw [if_neg h4] at h
            rw [lineC_mono hne, if_neg h4]
            by_cases h5 : lenN r = 0
            · rw [if_pos h5] at h ⊢; exact h
            · rw [if_neg h5] at h ⊢
              rw [List.drop_append_of_le_length (by rw [hu]; simp), List.take_append_of_le_length (by omega)]
              exact ih _ _ _ _ h hx
theorem Rd.behind {r body : List UInt8} {pos : Nat} {x : List UInt8 × Nat × Int} (h : Rd r body pos x) (hx : x.2.2 ≠ 1) (t : List UInt8) : Rd (r ++ t) body pos x := by
  obtain ⟨f, hf⟩ := h
  exact ⟨f, rdF_behind t f r body pos x hf hx⟩
/-- Of what is not read nothing is told but the code; what is read is not too long, and lies in the text. -/
theorem rdF_bounds : ∀ (f : Nat) (r body : List UInt8) (pos : Nat) (x : List UInt8 × Nat × Int), rdF f r body pos = some x → body.length ≤ 120 →
    (x.2.2 = 0 ∧ x.1.length ≤ 120 ∧ x.2.1 ≤ pos + r.length) ∨ ((x.2.2 = 1 ∨ x.2.2 = 2 ∨ x.2.2 = 3) ∧ x.1 = [] ∧ x.2.1 = 0) := by
  intro f
  induction f with
  | zero => intro r body pos x h; simp [rdF] at h
  | succ f ih =>
    intro r body pos x h hb
    unfold rdF at h
    by_cases h1 : lenC r ≠ 0
    · rw [if_pos h1] at h
      have e := Option.some.inj h
      subst e
      rcases lenC_vals r with h0 | h0 | h0
      · exact absurd h0 h1
      · exact .inr ⟨.inl h0, rfl, rfl⟩
      · exact .inr ⟨.inr (.inl h0), rfl, rfl⟩
    · have h0 : lenC r = 0 := by simpa using h1
      have hl := rdA_len h0
      rw [if_neg h1] at h
      by_cases h2 : 120 < body.length + lenN r
      · rw [if_pos h2] at h
        have e := Option.some.inj h
        subst e
        exact .inr ⟨.inr (.inr rfl), rfl, rfl⟩
      · rw [if_neg h2] at h
        by_cases h3 : (rdA r).length < lenN r
        · rw [if_pos h3] at h
          have e := Option.some.inj h
          subst e
          exact .inr ⟨.inl rfl, rfl, rfl⟩
        · rw [if_neg h3] at h
          have hAl : (rdA r).length + (lenK r + 2) = r.length := by unfold rdA; rw [List.length_drop]; omega
          have hBl : (rdB r).length + lenN r = (rdA r).length := by unfold rdB; rw [List.length_drop]; omega
          by_cases h4 : lineC (rdB r) ≠ 0
          · rw [if_pos h4] at h
            have e := Option.some.inj h
            subst e
            rcases lineC_vals (rdB r) with h0 | h0 | h0
            · exact absurd h0 h4
            · exact .inr ⟨.inl h0, rfl, rfl⟩
            · exact .inr ⟨.inr (.inl h0), rfl, rfl⟩
          · have h40 : lineC (rdB r) = 0 := by simpa using h4
            obtain ⟨u, hu⟩ := lineC_zero h40
            have hul := congrArg List.length hu
            simp at hul
            rw [if_neg h4] at h
            by_cases h5 : lenN r = 0
            · rw [if_pos h5] at h
              have e := Option.some.inj h
              subst e
              exact .inl ⟨rfl, hb, show pos + lenK r + 4 ≤ pos + r.length by omega⟩
            · rw [if_neg h5] at h
              rcases ih _ _ _ _ h (by simp; omega) with ⟨k1, k2, k3⟩ | k
              · refine .inl ⟨k1, k2, ?_⟩
                rw [List.length_drop] at k3
                omega
              · exact .inr k
theorem Rd.bounds {r body : List UInt8} {pos : Nat} {x : List UInt8 × Nat × Int} (h : Rd r body pos x) (hb : body.length ≤ 120) : (x.2.2 = 0 ∧ x.1.length ≤ 120 ∧ x.2.1 ≤ pos + r.length) ∨ ((x.2.2 = 1 ∨ x.2.2 = 2 ∨ x.2.2 = 3) ∧ x.1 = [] ∧ x.2.1 = 0) := by
  obtain ⟨f, hf⟩ := h
  exact rdF_bounds f r body pos x hf hb

/-- A body in parts. -/
def chunkL : List (List UInt8) → List UInt8
  | [] => [48, 13, 10, 13, 10]
  | p :: ps => hexL p.length ++ (13 :: 10 :: (p ++ (13 :: 10 :: chunkL ps)))
theorem part_head (p rest : List UInt8) (h : p.length < 65536) : lenC (hexL p.length ++ (13 :: 10 :: (p ++ rest))) = 0 ∧ lenK (hexL p.length ++ (13 :: 10 :: (p ++ rest))) = (hexL p.length).length ∧ lenN (hexL p.length ++ (13 :: 10 :: (p ++ rest))) = p.length ∧ rdA (hexL p.length ++ (13 :: 10 :: (p ++ rest))) = p ++ rest ∧ rdB (hexL p.length ++ (13 :: 10 :: (p ++ rest))) = rest := by
  obtain ⟨h1, h2, h3⟩ := len_head p.length h (13 :: 10 :: (p ++ rest)) (fun c r e => by simp at e; exact e.1.symm)
  have hA : rdA (hexL p.length ++ (13 :: 10 :: (p ++ rest))) = p ++ rest := by
    unfold rdA
    rw [h1, List.drop_append]
    simp
  refine ⟨by rw [h3]; simp [lineC], h1, h2, hA, ?_⟩
  unfold rdB
  rw [hA, h2, List.drop_left]
theorem end_head (rest : List UInt8) : lenC (48 :: 13 :: 10 :: rest) = 0 ∧ lenK (48 :: 13 :: 10 :: rest) = 1 ∧ lenN (48 :: 13 :: 10 :: rest) = 0 ∧ rdA (48 :: 13 :: 10 :: rest) = rest ∧ rdB (48 :: 13 :: 10 :: rest) = rest := by
  have := part_head [] rest (by simp)
  simpa [hexL] using this
/-- Cut short, a text of parts is not whole. -/
theorem Rd.cut : ∀ (ps : List (List UInt8)) (body : List UInt8) (pos k : Nat), (∀ p ∈ ps, p ≠ []) → body.length + ps.flatten.length ≤ 120 → k < (chunkL ps).length → Rd ((chunkL ps).take k) body pos ([], 0, 1) := by
  intro ps
  induction ps with
  | nil =>
    intro body pos k _ hb hk
    have hk5 : k < 5 := by simpa [chunkL] using hk
    have hb : body.length ≤ 120 := by simpa using hb
    rcases (show k = 0 ∨ k = 1 ∨ k = 2 ∨ k = 3 ∨ k = 4 by omega) with rfl | rfl | rfl | rfl | rfl
    · exact Rd.len (r := []) (by decide)
    · exact Rd.len (r := [48]) (by decide)
    · exact Rd.len (r := [48, 13]) (by decide)
    · obtain ⟨h1, h2, h3, h4, h5⟩ := end_head []
      have := Rd.line (body := body) (pos := pos) h1 (by rw [h3]; simpa using hb) (by rw [h3]; simp) (by rw [h5]; simp [lineC])
      rw [h5] at this
      exact this
    · obtain ⟨h1, h2, h3, h4, h5⟩ := end_head [13]
      have := Rd.line (body := body) (pos := pos) h1 (by rw [h3]; simpa using hb) (by rw [h3]; simp) (by rw [h5]; simp [lineC])
      rw [h5] at this
      exact this
  | cons p ps ih =>
    intro body pos k hp hb hk
    have hpl : 1 ≤ p.length := by
      have := hp p (by simp)
      cases p with
      | nil => exact absurd rfl this
      | cons c r => simp
    simp only [List.flatten_cons, List.length_append] at hb
    obtain ⟨g1, g2, g3, g4, g5⟩ := hex_head p.length (by omega)
    have hlen : (chunkL (p :: ps)).length = (hexL p.length).length + (p.length + (chunkL ps).length + 4) := by simp [chunkL]; omega
    by_cases c1 : k ≤ (hexL p.length).length
    · -- within the length, or at its end
      have e : (chunkL (p :: ps)).take k = (hexL p.length).take k := by
        simp only [chunkL]
        rw [List.take_append_of_le_length c1]
      rw [e]
      have hl : ((hexL p.length).take k).length = k := by rw [List.length_take]; omega
      have hK : lenK ((hexL p.length).take k) = k := by
        have := digN_pre ((hexL p.length).take k) [] 5 (by omega) (fun b hb => g3 b (List.mem_of_mem_take hb)) (.inr (fun c r e => by simp at e))
        rw [List.append_nil, hl] at this
        exact this
      have hC : lenC ((hexL p.length).take k) = 1 := by
        unfold lenC
        rw [if_neg]
        · by_cases k0 : k = 0
          · rw [if_pos (by rw [hK]; exact k0)]
          · rw [if_neg (by rw [hK]; exact k0), hK, List.drop_of_length_le (by omega)]; rfl
        · rintro (h | ⟨h, e⟩ | ⟨h, e⟩)
          · rw [hK] at h; omega
          · rw [hK] at h
            rw [List.head?_take, if_neg (by omega)] at e
            exact g5 (by omega) 48 e rfl
          · rw [hK] at h
            subst h
            simp at e
      have := Rd.len (r := (hexL p.length).take k) (body := body) (pos := pos) (by rw [hC]; simp)
      rw [hC] at this
      exact this
    · obtain ⟨j, rfl⟩ : ∃ j, k = (hexL p.length).length + 1 + j := ⟨k - (hexL p.length).length - 1, by omega⟩
      have e : (chunkL (p :: ps)).take ((hexL p.length).length + 1 + j) = hexL p.length ++ (13 :: (10 :: (p ++ (13 :: 10 :: chunkL ps))).take j) := by
        simp only [chunkL]
        rw [show (hexL p.length).length + 1 + j = (hexL p.length).length + (1 + j) by omega, List.take_length_add_append, Nat.add_comm 1 j, List.take_succ_cons]
      rw [e]
      cases j with
      | zero =>
        obtain ⟨h1, h2, h3⟩ := len_head p.length (by omega) [13] (fun c r e => by simp at e; exact e.1.symm)
        have := Rd.len (r := hexL p.length ++ [13]) (body := body) (pos := pos) (by rw [h3]; simp [lineC])
        rw [h3] at this
        simpa [lineC] using this
      | succ j =>
        rw [List.take_succ_cons]
        by_cases c2 : j < p.length
        · have e2 : (p ++ (13 :: 10 :: chunkL ps)).take j = p.take j := List.take_append_of_le_length (by omega)
          rw [e2]
          obtain ⟨h1, h2, h3⟩ := len_head p.length (by omega) (13 :: 10 :: p.take j) (fun c r e => by simp at e; exact e.1.symm)
          have hC : lenC (hexL p.length ++ (13 :: 10 :: p.take j)) = 0 := by rw [h3]; simp [lineC]
          refine Rd.short hC (by rw [h2]; omega) ?_
          unfold rdA
          rw [h1, h2, List.drop_append]
          simp
          omega
        · obtain ⟨i, rfl⟩ : ∃ i, j = p.length + i := ⟨j - p.length, by omega⟩
          have e2 : (p ++ (13 :: 10 :: chunkL ps)).take (p.length + i) = p ++ (13 :: 10 :: chunkL ps).take i := List.take_length_add_append _
          rw [e2]
          obtain ⟨h1, h2, h3, h4, h5⟩ := part_head p ((13 :: 10 :: chunkL ps).take i) (by omega)
          match i with
          | 0 =>
            have := Rd.line (body := body) (pos := pos) h1 (by rw [h3]; omega) (by rw [h3, h4]; simp) (by rw [h5]; simp [lineC])
            rw [h5] at this
            exact this
          | 1 =>
            have := Rd.line (body := body) (pos := pos) h1 (by rw [h3]; omega) (by rw [h3, h4]; simp) (by rw [h5]; simp [lineC])
            rw [h5] at this
            exact this
          | i + 2 =>
            refine Rd.part h1 (by rw [h3]; omega) (by rw [h3, h4]; simp) (by rw [h5]; simp [lineC]) (by rw [h3]; omega) ?_
            rw [h2, h3, h4, h5, List.take_left]
            have k := ih (body ++ p) (pos + (hexL p.length).length + p.length + 4) i (fun x hx => hp x (by simp [hx])) (by rw [List.length_append]; omega) (by omega)
            simpa using k

end Go.Proofs.YtdlhicdfldecgaaGreat

namespace Go.Proofs.YtdlhicdfldecgaaGreat
open Go.RowKit
open Go.Lib hiding intOf

set_option maxHeartbeats 400000 in
theorem l1Min_any (a b : Int) (w : World) :
    Calls Tryz.prog 89 #[.int .i64 a, .int .i64 b] w fun e w' => e = .returned (.int .i64 (min a b)) ∧ w' = w := by
  by_cases h : a < b
  · have HE : Hid (min a b = a) := by show _ = _; omega
    go_enter Tryz.func89, Tryz.ntmps89
    go_wp2
    go_ret
    exact ⟨by rw [HE.out]; rfl, rfl⟩
  · have HE : Hid (min a b = b) := by show _ = _; omega
    go_enter Tryz.func89, Tryz.ntmps89
    go_wp2
    go_ret
    exact ⟨by rw [HE.out]; rfl, rfl⟩
/-- A list of ints that a function reads. -/
def IntsV (w : World) (oa : Option Addr) (n : Nat) (zs : List Int) : Prop := zs.length = n ∧ ∀ i, i < n → ∃ g, oa = some ⟨g, 0, none⟩ ∧ g < w.heap.size ∧ w.cell? ⟨g, i, none⟩ = some (.int .i64 (zs.getD i 0))
theorem IntsV.below {w w' : World} {oa : Option Addr} {n : Nat} {zs : List Int} (h : IntsV w oa n zs) (hb : Below w.heap.size w w') : IntsV w' oa n zs :=
  ⟨h.1, fun i hi => by
    obtain ⟨g, e, hg, hc⟩ := h.2 i hi
    exact ⟨g, e, Nat.lt_of_lt_of_le hg hb.size, by rw [hb.cell (p := ⟨g, i, none⟩) hg]; exact hc⟩⟩

end Go.Proofs.YtdlhicdfldecgaaGreat

namespace Go.Proofs.YtdlhicdfldecgaaGreat
open Go.RowKit

/-- How many bytes a head has; none: it is not whole. -/
def headN : List UInt8 → Option Nat
  | [] => none
  | c :: t => if (c :: t).take 4 = [13, 10, 13, 10] then some 4 else (headN t).map (· + 1)

theorem headN_len : ∀ {w : List UInt8} {n : Nat}, headN w = some n → 4 ≤ n ∧ n ≤ w.length := by
  intro w
  induction w with
  | nil => intro n h; simp [headN] at h
  | cons c t ih =>
    intro n h
    unfold headN at h
    by_cases h4 : (c :: t).take 4 = [13, 10, 13, 10]
    · rw [if_pos h4] at h
      obtain rfl := Option.some.inj h
      have := congrArg List.length h4
      simp [List.length_take] at this
      refine ⟨Nat.le_refl _, ?_⟩
      simp
      omega
    · rw [if_neg h4] at h
      obtain ⟨m, hm, rfl⟩ := Option.map_eq_some_iff.1 h
      have := ih hm
      simp
      omega

/-- A whole head stays the head, whatever is behind it. -/
theorem headN_app (x : List UInt8) : ∀ {w : List UInt8} {n : Nat}, headN w = some n → headN (w ++ x) = some n := by
  intro w
  induction w with
  | nil => intro n h; simp [headN] at h
  | cons c t ih =>
    intro n h
    have hl := headN_len h
    have ht : ((c :: t) ++ x).take 4 = (c :: t).take 4 := List.take_append_of_le_length (by omega)
    unfold headN at h
    show headN (c :: (t ++ x)) = some n
    unfold headN
    have ht' : (c :: (t ++ x)).take 4 = (c :: t).take 4 := ht
    rw [ht']
    by_cases h4 : (c :: t).take 4 = [13, 10, 13, 10]
    · rw [if_pos h4] at h ⊢; exact h
    · rw [if_neg h4] at h ⊢
      obtain ⟨m, hm, rfl⟩ := Option.map_eq_some_iff.1 h
      rw [ih hm]; rfl

/-- What waits behind it, whether it is bad, and what was told; none: not told within so many requests. -/
def fdF (ok : List UInt8 → Bool) (len : List UInt8 → Nat) : Nat → List UInt8 → Option (List UInt8 × Bool × List (List UInt8))
  | 0, _ => none
  | f + 1, w =>
    match headN w with
    | none => some (w, false, [])
    | some n =>
      if 120 < len (w.take n) then some ([], true, [])
      else if w.length < n + len (w.take n) then some (w, false, [])
      else if ok (w.take (n + len (w.take n))) = true then (fdF ok len f (w.drop (n + len (w.take n)))).map (fun x => (x.1, x.2.1, w.take (n + len (w.take n)) :: x.2.2))
      else some ([], true, [])

variable {ok : List UInt8 → Bool} {len : List UInt8 → Nat}

theorem fdF_more : ∀ (f : Nat) (w : List UInt8) (x : List UInt8 × Bool × List (List UInt8)), fdF ok len f w = some x → ∀ d, fdF ok len (f + d) w = some x := by
  intro f
  induction f with
  | zero => intro w x h; simp [fdF] at h
  | succ f ih =>
    intro w x h d
    rw [show f + 1 + d = (f + d) + 1 by omega]
    unfold fdF at h ⊢
    cases hn : headN w with
    | none => rw [hn] at h; exact h
    | some n =>
      rw [hn] at h
      simp only at h ⊢
      by_cases h1 : 120 < len (w.take n)
      · rw [if_pos h1] at h ⊢; exact h
      · rw [if_neg h1] at h ⊢
        by_cases h2 : w.length < n + len (w.take n)
        · rw [if_pos h2] at h ⊢; exact h
        · rw [if_neg h2] at h ⊢
          by_cases h3 : ok (w.take (n + len (w.take n))) = true
          · rw [if_pos h3] at h ⊢
            obtain ⟨y, hy, rfl⟩ := Option.map_eq_some_iff.1 h
            rw [ih _ _ hy d]; rfl
          · rw [if_neg h3] at h ⊢; exact h

/-- Bad stays bad, and what was told ahead of it stays told, whatever comes behind it. -/
theorem fdF_bad (x : List UInt8) : ∀ (f : Nat) (w u : List UInt8) (t : List (List UInt8)), fdF ok len f w = some (u, true, t) → u = [] ∧ fdF ok len f (w ++ x) = some ([], true, t) := by
  intro f
  induction f with
  | zero => intro w u t h; simp [fdF] at h
  | succ f ih =>
    intro w u t h
    unfold fdF at h ⊢
    cases hn : headN w with
    | none => rw [hn] at h; simp at h
    | some n =>
      have hl := headN_len hn
      rw [hn] at h
      rw [headN_app x hn]
      simp only at h ⊢
      rw [List.take_append_of_le_length hl.2]
      by_cases h1 : 120 < len (w.take n)
      · rw [if_pos h1] at h ⊢
        simp at h
        obtain ⟨rfl, rfl⟩ := h
        exact ⟨rfl, rfl⟩
      · rw [if_neg h1] at h ⊢
        by_cases h2 : w.length < n + len (w.take n)
        · rw [if_pos h2] at h; simp at h
        · rw [if_neg h2] at h
          rw [if_neg (by rw [List.length_append]; omega), List.take_append_of_le_length (by omega), List.drop_append_of_le_length (by omega)]
          by_cases h3 : ok (w.take (n + len (w.take n))) = true
          · rw [if_pos h3] at h ⊢
            obtain ⟨⟨y1, y2, y3⟩, hy, he⟩ := Option.map_eq_some_iff.1 h
            simp at he
            obtain ⟨rfl, rfl, rfl⟩ := he
            obtain ⟨e1, e2⟩ := ih _ _ _ hy
            rw [e2]
            exact ⟨e1, rfl⟩
          · rw [if_neg h3] at h ⊢
            simp at h
            obtain ⟨rfl, rfl⟩ := h
            exact ⟨rfl, rfl⟩

/-- What waits, with more behind it, goes on as the whole would have. -/
theorem fdF_on (x : List UInt8) (g : Nat) (u2 : List UInt8) (b2 : Bool) (t2 : List (List UInt8)) : ∀ (f : Nat) (w u : List UInt8) (t : List (List UInt8)), fdF ok len f w = some (u, false, t) → fdF ok len g (u ++ x) = some (u2, b2, t2) → fdF ok len (f + g) (w ++ x) = some (u2, b2, t ++ t2) := by
  intro f
  induction f with
  | zero => intro w u t h; simp [fdF] at h
  | succ f ih =>
    intro w u t h k
    have hstay : u = w → t = [] → fdF ok len (f + 1 + g) (w ++ x) = some (u2, b2, t ++ t2) := by
      rintro rfl rfl
      rw [Nat.add_comm]
      exact fdF_more _ _ _ k _
    unfold fdF at h
    cases hn : headN w with
    | none =>
      rw [hn] at h
      simp at h
      exact hstay h.1.symm h.2
    | some n =>
      have hl := headN_len hn
      rw [hn] at h
      simp only at h
      by_cases h1 : 120 < len (w.take n)
      · rw [if_pos h1] at h; simp at h
      · rw [if_neg h1] at h
        by_cases h2 : w.length < n + len (w.take n)
        · rw [if_pos h2] at h
          simp at h
          exact hstay h.1.symm h.2
        · rw [if_neg h2] at h
          by_cases h3 : ok (w.take (n + len (w.take n))) = true
          · rw [if_pos h3] at h
            obtain ⟨⟨y1, y2, y3⟩, hy, he⟩ := Option.map_eq_some_iff.1 h
            simp at he
            obtain ⟨rfl, rfl, rfl⟩ := he
            rw [show f + 1 + g = (f + g) + 1 by omega]
            unfold fdF
            rw [headN_app x hn]
            simp only
            rw [List.take_append_of_le_length hl.2, if_neg h1, if_neg (by rw [List.length_append]; omega), List.take_append_of_le_length (by omega), List.drop_append_of_le_length (by omega), if_pos h3, ih _ _ _ hy k]
            rfl
          · rw [if_neg h3] at h; simp at h

/-- What waits is no longer than the text; what was told is right, and no longer together. -/
theorem fdF_bound : ∀ (f : Nat) (w u : List UInt8) (b : Bool) (t : List (List UInt8)), fdF ok len f w = some (u, b, t) → u.length + t.flatten.length ≤ w.length ∧ (∀ y ∈ t, ok y = true) ∧ 4 * t.length ≤ w.length := by
  intro f
  induction f with
  | zero => intro w u b t h; simp [fdF] at h
  | succ f ih =>
    intro w u b t h
    unfold fdF at h
    cases hn : headN w with
    | none =>
      rw [hn] at h
      simp at h
      obtain ⟨rfl, rfl, rfl⟩ := h
      simp
    | some n =>
      have hl := headN_len hn
      rw [hn] at h
      simp only at h
      by_cases h1 : 120 < len (w.take n)
      · rw [if_pos h1] at h
        simp at h
        obtain ⟨rfl, rfl, rfl⟩ := h
        simp
      · rw [if_neg h1] at h
        by_cases h2 : w.length < n + len (w.take n)
        · rw [if_pos h2] at h
          simp at h
          obtain ⟨rfl, rfl, rfl⟩ := h
          simp
        · rw [if_neg h2] at h
          by_cases h3 : ok (w.take (n + len (w.take n))) = true
          · rw [if_pos h3] at h
            obtain ⟨⟨y1, y2, y3⟩, hy, he⟩ := Option.map_eq_some_iff.1 h
            simp at he
            obtain ⟨rfl, rfl, rfl⟩ := he
            obtain ⟨e1, e2, e3⟩ := ih _ _ _ _ hy
            rw [List.length_drop] at e1 e3
            refine ⟨?_, ?_, ?_⟩
            · rw [List.flatten_cons, List.length_append, List.length_take]
              omega
            · intro y hy'
              rcases List.mem_cons.1 hy' with rfl | hy'
              · exact h3
              · exact e2 y hy'
            · rw [List.length_cons]; omega
          · rw [if_neg h3] at h
            simp at h
            obtain ⟨rfl, rfl, rfl⟩ := h
            simp

/-- What is told of a text: one thing. -/
def Fd (ok : List UInt8 → Bool) (len : List UInt8 → Nat) (w : List UInt8) (x : List UInt8 × Bool × List (List UInt8)) : Prop := ∃ f, fdF ok len f w = some x
theorem Fd.none {w : List UInt8} (h : headN w = .none) : Fd ok len w (w, false, []) := ⟨1, by unfold fdF; rw [h]⟩
theorem Fd.long {w : List UInt8} {n : Nat} (h : headN w = some n) (h1 : 120 < len (w.take n)) : Fd ok len w ([], true, []) := ⟨1, by unfold fdF; rw [h]; simp only; rw [if_pos h1]⟩
theorem Fd.short {w : List UInt8} {n : Nat} (h : headN w = some n) (h1 : ¬ 120 < len (w.take n)) (h2 : w.length < n + len (w.take n)) : Fd ok len w (w, false, []) := ⟨1, by unfold fdF; rw [h]; simp only; rw [if_neg h1, if_pos h2]⟩
/-- Feed: what waits and whether it is bad, ahead and behind, and what was told. -/
def FeedP (ok : List UInt8 → Bool) (len : List UInt8 → Nat) (w : List UInt8) (b : Bool) (p : List UInt8) (w' : List UInt8) (b' : Bool) (t : List (List UInt8)) : Prop :=
  (b = true ∧ w' = [] ∧ b' = true ∧ t = []) ∨
  (b = false ∧ ∃ u c, Fd ok len (w ++ p) (u, c, t) ∧ (((c = true ∨ 1200 < u.length) ∧ w' = [] ∧ b' = true) ∨ (c = false ∧ ¬ 1200 < u.length ∧ w' = u ∧ b' = false)))
/-- Feed of each piece, one behind the other, and all that was told. -/
def FeedAllP (ok : List UInt8 → Bool) (len : List UInt8 → Nat) : List (List UInt8) → List UInt8 → Bool → List UInt8 → Bool → List (List UInt8) → Prop
  | [], w, b, w', b', t => w' = w ∧ b' = b ∧ t = []
  | p :: ps, w, b, w', b', t => ∃ w1 b1 t1 t2, FeedP ok len w b p w1 b1 t1 ∧ FeedAllP ok len ps w1 b1 w' b' t2 ∧ t = t1 ++ t2

/-- Promise 5 in plain words: in whatever pieces it comes, the same is told, and the same waits. -/
theorem FeedAllP.pieces : ∀ (ps : List (List UInt8)) (w : List UInt8) (b : Bool) (w' : List UInt8) (b' : Bool) (t : List (List UInt8)), ps ≠ [] → w.length + ps.flatten.length ≤ 1200 → FeedAllP ok len ps w b w' b' t → FeedP ok len w b ps.flatten w' b' t := by
  intro ps
  induction ps with
  | nil => intro w b w' b' t h; exact absurd rfl h
  | cons p ps ih =>
    intro w b w' b' t _ hl h
    obtain ⟨w1, b1, t1, t2, hf, ha, rfl⟩ := h
    rw [List.flatten_cons, List.length_append] at hl
    rw [List.flatten_cons]
    cases ps with
    | nil =>
      obtain ⟨rfl, rfl, rfl⟩ := ha
      simpa using hf
    | cons q qs =>
      rcases hf with ⟨hb, rfl, rfl, rfl⟩ | ⟨hb, u, c, hfd, hh⟩
      · rcases ih _ _ _ _ _ (by simp) (by simp only [List.length_nil]; omega) ha with ⟨_, rfl, rfl, rfl⟩ | ⟨kb, _⟩
        · exact .inl ⟨hb, rfl, rfl, rfl⟩
        · cases kb
      · obtain ⟨f, hfd⟩ := hfd
        have hbd := (fdF_bound f _ _ _ _ hfd).1
        rw [List.length_append] at hbd
        cases c with
        | true =>
          rcases hh with ⟨_, rfl, rfl⟩ | ⟨hc, _⟩
          · rcases ih _ _ _ _ _ (by simp) (by simp only [List.length_nil]; omega) ha with ⟨_, rfl, rfl, rfl⟩ | ⟨kb, _⟩
            · refine .inr ⟨hb, [], true, ⟨f, ?_⟩, .inl ⟨.inl rfl, rfl, rfl⟩⟩
              rw [← List.append_assoc, List.append_nil]
              exact (fdF_bad _ f _ _ _ hfd).2
            · cases kb
          · cases hc
        | false =>
          rcases hh with ⟨ho, _, _⟩ | ⟨_, _, rfl, rfl⟩
          · rcases ho with ho | ho
            · cases ho
            · exfalso; omega
          · rcases ih _ _ _ _ _ (by simp) (by omega) ha with ⟨kb, _⟩ | ⟨_, u2, c2, ⟨g, hg⟩, kk⟩
            · cases kb
            · refine .inr ⟨hb, u2, c2, ⟨f + g, ?_⟩, kk⟩
              rw [← List.append_assoc]
              exact fdF_on _ g _ _ _ f _ _ _ hfd hg

/-- A text cut into pieces of these sizes, and the rest as the last one, if it is not empty. -/
def pcs : List Int → List UInt8 → List (List UInt8)
  | [], s => if s = [] then [] else [s]
  | z :: zs, s => s.take z.toNat :: pcs zs (s.drop z.toNat)
theorem pcs_flat : ∀ (zs : List Int) (s : List UInt8), (pcs zs s).flatten = s := by
  intro zs
  induction zs with
  | nil =>
    intro s
    unfold pcs
    by_cases h : s = []
    · rw [if_pos h, h]; rfl
    · rw [if_neg h]; simp
  | cons z zs ih =>
    intro s
    unfold pcs
    rw [List.flatten_cons, ih, List.take_append_drop]
/-- The law's last piece is empty, so that there is one: the same is told of the pieces and of the whole. -/
theorem FeedAllP.cut {zs : List Int} {s w w' : List UInt8} {b b' : Bool} {t : List (List UInt8)} (hl : w.length + s.length ≤ 1200) (h : FeedAllP ok len (pcs zs s ++ [[]]) w b w' b' t) : FeedP ok len w b s w' b' t := by
  have hf : (pcs zs s ++ [[]]).flatten = s := by rw [List.flatten_append, pcs_flat]; simp
  have := FeedAllP.pieces (pcs zs s ++ [[]]) w b w' b' t (by simp) (by rw [hf]; exact hl) h
  rw [hf] at this
  exact this
end Go.Proofs.YtdlhicdfldecgaaGreat

namespace Go.Proofs.YtdlhicdfldecgaaGreat
open Go.RowKit
open Go.Lib hiding intOf

/-- A request, as it is told. -/
structure RqD where
  m : Int
  p : ByteArray
  fs : List (ByteArray × ByteArray)
  b : ByteArray
/-- Its text. -/
def RqD.text (r : RqD) : List UInt8 := bs (reqT r.m r.p r.fs r.b)
def RqD.ok (r : RqD) : Prop := ReqP r.m r.p r.fs r.b
/-- The four cells of a request whose fields lie there. -/
def rqC (x : RqD × Value) : List Value := [.int .i64 x.1.m, .string x.1.p, x.2, .string x.1.b]
def flatR : List (RqD × Value) → List Value
  | [] => []
  | x :: t => rqC x ++ flatR t
theorem flatR_snoc (x : RqD × Value) : ∀ rv : List (RqD × Value), flatR (rv ++ [x]) = flatR rv ++ rqC x
  | [] => by simp [flatR]
  | y :: t => by rw [List.cons_append, flatR, flatR_snoc x t, flatR, List.append_assoc]
theorem owns_cellC {w : World} {base : Nat} {t : TypeId} {size g n cap : Nat} {xs : List Value} (h : w.ownsRow base t size (.slice (some ⟨g, 0, none⟩) n cap) n xs) (o : Nat) (u : Value) (ho : xs[o]? = some u) : w.cell? ⟨g, o, none⟩ = some u ∧ w.frozen? ⟨g, o, none⟩ = false := by
  obtain ⟨hl, hv⟩ := h
  rcases hv with ⟨e, _⟩ | ⟨g', cap', cur, e, h1, h2, h3, h4, h5, h6⟩
  · cases e
  · cases e
    refine ⟨?_, by simp [World.frozen?, h2]⟩
    rw [← h6, List.getElem?_take] at ho
    split at ho
    · simpa [World.cell?, h2] using ho
    · cases ho
theorem own_noR {w : World} {base : Nat} {t : TypeId} {size : Nat} {v : Value} {n : Nat} {xs : List Value} {j : Nat} {cs : Array Value} {T : TypeId} {fr : Nat × Nat} (h : w.ownsRow base t size v n xs) (hT : T ≠ t) (hj : w.heap[j]? = some (.cells cs T fr)) : v.ownBlock ≠ some j := by
  intro e
  rcases h.2 with ⟨rfl, _⟩ | ⟨g, cap, cur, rfl, _, h1, _⟩
  · cases e
  · cases e
    rw [h1] at hj
    cases hj
    exact hT rfl
theorem own_ltR {w : World} {base : Nat} {t : TypeId} {size : Nat} {v : Value} {n : Nat} {xs : List Value} {j : Nat} (h : w.ownsRow base t size v n xs) (hj : v.ownBlock = some j) : base ≤ j ∧ j < w.heap.size := by
  rcases h.2 with ⟨rfl, _⟩ | ⟨g, cap, cur, rfl, h0, h1, _⟩
  · cases hj
  · cases hj
    exact ⟨h0, (Array.getElem?_eq_some_iff.1 h1).1⟩
theorem own_blockR {w : World} {base : Nat} {t : TypeId} {size : Nat} {v : Value} {n : Nat} {xs : List Value} {j : Nat} (h : w.ownsRow base t size v n xs) (hj : v.ownBlock = some j) : ∃ cur, w.heap[j]? = some (.cells cur t (0, 0)) := by
  rcases h.2 with ⟨rfl, _⟩ | ⟨g, cap, cur, rfl, h0, h1, _⟩
  · cases hj
  · cases hj
    exact ⟨cur, h1⟩
theorem own_two {w : World} {b1 b2 : Nat} {t1 t2 : TypeId} {s1 s2 : Nat} {v1 v2 : Value} {n1 n2 : Nat} {x1 x2 : List Value} {j : Nat} (h1 : w.ownsRow b1 t1 s1 v1 n1 x1) (h2 : w.ownsRow b2 t2 s2 v2 n2 x2) (hT : t1 ≠ t2) (hj : v1.ownBlock = some j) : v2.ownBlock ≠ some j := by
  obtain ⟨cur, hc⟩ := own_blockR h1 hj
  exact own_noR h2 hT hc

/-- A list of requests of one's own: the row, each one's fields, no two lists of fields in one block. -/
structure ReqsO (w : World) (base : Nat) (V : Value) (rv : List (RqD × Value)) : Prop where
  row : w.ownsRow base 38 4 V rv.length (flatR rv)
  own : ∀ x ∈ rv, w.ownsRow base 75 2 x.2 x.1.fs.length (flatF x.1.fs)
  apart : rv.Pairwise (fun a b => ∀ g, a.2.ownBlock = some g → b.2.ownBlock ≠ some g)
theorem ReqsO.nil (w : World) (base : Nat) : ReqsO w base (.slice none 0 0) [] := ⟨⟨rfl, .inl ⟨rfl, rfl⟩⟩, by simp, List.Pairwise.nil⟩
/-- All that stands in the blocks of the list stands: so does the list. -/
theorem ReqsO.same {w w' : World} {base : Nat} {V : Value} {rv : List (RqD × Value)} (h : ReqsO w base V rv) (hs : ∀ j, base ≤ j → j < w.heap.size → w'.heap[j]? = w.heap[j]?) : ReqsO w' base V rv :=
  ⟨owns_same h.row (fun j hj => hs j (own_ltR h.row hj).1 (own_ltR h.row hj).2), fun x hx => owns_same (h.own x hx) (fun j hj => hs j (own_ltR (h.own x hx) hj).1 (own_ltR (h.own x hx) hj).2), h.apart⟩
theorem ReqsO.later {w w' : World} {base : Nat} {V : Value} {rv : List (RqD × Value)} (h : ReqsO w base V rv) (hb : Below w.heap.size w w') : ReqsO w' base V rv := h.same (fun j _ hj => hb.block j hj)
/-- What lies wholly below a number outlives what is done above it. -/
theorem ReqsO.below {w w' : World} {base B : Nat} {V : Value} {rv : List (RqD × Value)} (h : ReqsO w base V rv) (hB : ∀ j, V.ownBlock = some j ∨ (∃ x ∈ rv, x.2.ownBlock = some j) → j < B) (hb : Below B w w') : ReqsO w' base V rv :=
  ⟨owns_same h.row (fun j hj => hb.block j (hB j (.inl hj))), fun x hx => owns_same (h.own x hx) (fun j hj => hb.block j (hB j (.inr ⟨x, hx, hj⟩))), h.apart⟩
theorem ReqsO.lt {w : World} {base : Nat} {V : Value} {rv : List (RqD × Value)} (h : ReqsO w base V rv) (j : Nat) (hj : V.ownBlock = some j ∨ (∃ x ∈ rv, x.2.ownBlock = some j)) : base ≤ j ∧ j < w.heap.size := by
  rcases hj with hj | ⟨x, hx, hj⟩
  · exact own_ltR h.row hj
  · exact own_ltR (h.own x hx) hj
/-- A request more, whose fields were made since. -/
theorem ReqsO.more {w W : World} {base base' : Nat} {V V' : Value} {rv : List (RqD × Value)} {r : RqD} {v : Value} (h : ReqsO w base V rv) (hb' : base ≤ base') (hv : w.ownsRow base' 75 2 v r.fs.length (flatF r.fs)) (hold : ∀ j, (∃ x ∈ rv, x.2.ownBlock = some j) → j < base')
    (hg : w.grownBy W V.ownBlock) (hrow : W.ownsRow base 38 4 V' (rv.length + 1) (flatR rv ++ rqC (r, v))) : ReqsO W base V' (rv ++ [(r, v)]) := by
  have hkeep : ∀ x ∈ rv, W.ownsRow base 75 2 x.2 x.1.fs.length (flatF x.1.fs) := fun x hx =>
    owns_same (h.own x hx) (fun j hj => hg.block j (own_ltR (h.own x hx) hj).2 (fun e => own_two (h.own x hx) h.row (by decide) hj e.symm))
  have hnew : W.ownsRow base 75 2 v r.fs.length (flatF r.fs) := by
    refine owns_wide ?_ hb'
    exact owns_same hv (fun j hj => hg.block j (own_ltR hv hj).2 (fun e => own_two hv h.row (by decide) hj e.symm))
  refine ⟨by rw [flatR_snoc, List.length_append]; exact hrow, fun x hx => ?_, ?_⟩
  · simp only [List.mem_append, List.mem_singleton] at hx
    rcases hx with hx | rfl
    · exact hkeep x hx
    · exact hnew
  · rw [List.pairwise_append]
    refine ⟨h.apart, List.pairwise_singleton _ _, fun a ha b hb g hg1 hg2 => ?_⟩
    simp only [List.mem_singleton] at hb
    subst hb
    have h1 := hold g ⟨a, ha, hg1⟩
    have h2 := (own_ltR hv hg2).1
    omega

end Go.Proofs.YtdlhicdfldecgaaGreat

namespace Go.Proofs.YtdlhicdfldecgaaGreat
open Go.RowKit
open Go.Lib hiding intOf

theorem maW_list : maW.toList = [109, 97, 120, 45, 97, 103, 101, 61] := by rw [ByteArray.toList_eq]; rfl
theorem nsW_list : nsW.toList = [110, 111, 45, 115, 116, 111, 114, 101] := by rw [ByteArray.toList_eq]; rfl
theorem ncW_list : ncW.toList = [110, 111, 45, 99, 97, 99, 104, 101] := by rw [ByteArray.toList_eq]; rfl
theorem prW_list : prW.toList = [112, 114, 105, 118, 97, 116, 101] := by rw [ByteArray.toList_eq]; rfl
theorem muW_list : muW.toList = [109, 117, 115, 116, 45, 114, 101, 118, 97, 108, 105, 100, 97, 116, 101] := by rw [ByteArray.toList_eq]; rfl
theorem ageOf_short {s : ByteArray} (h : s.size < 8) : ageOf s = none := by
  unfold ageOf
  rw [if_neg]
  intro e
  have := congrArg List.length e
  rw [List.length_take, bs_len] at this
  have h8 : (bs maW).length = 8 := rfl
  omega
theorem ageOf_yes {s : ByteArray} (h : s.extract 0 8 = maW) : ageOf s = some (numV (s.extract 8 s.size)) := by
  have e : (bs s).take 8 = bs maW := by rw [← h, bs_extract, List.drop_zero]
  have d : (⟨((bs s).drop 8).toArray⟩ : ByteArray) = s.extract 8 s.size := by
    rw [← text_bs (s.extract 8 s.size), bs_extract, List.take_of_length_le (by rw [bs_len]; exact Nat.le_refl _)]
  unfold ageOf
  rw [if_pos e, d]
theorem ageOf_no {s : ByteArray} (h : s.extract 0 8 ≠ maW) : ageOf s = none := by
  unfold ageOf
  rw [if_neg]
  intro e
  apply h
  rw [← text_bs (s.extract 0 8), bs_extract, List.drop_zero, e, text_bs]

/-- What l6Age answers. -/
def AgeIs (s : ByteArray) (w : World) (e : Ending) (w' : World) : Prop :=
  ∃ (n : Int) (b : Bool), e = .returned (.tuple #[.int .i64 n, .bool b]) ∧ (b = true → ageOf s = some n) ∧ (b = false → ageOf s = none) ∧ Below w.heap.size w w'
set_option maxHeartbeats 1000000 in
theorem l6Age_any (s : ByteArray) (w : World) (hs : s.size ≤ 4000000) :
    Calls Tryz.prog 88 #[.string s] w fun e w' => AgeIs s w e w' := by
  by_cases h8 : s.size < 8
  · have HN : Hid (ageOf s = none) := ageOf_short h8
    have h8' : (s.size : Int) < 8 := by omega
    clear h8
    go_enter Tryz.func88, Tryz.ntmps88
    go_wp2_with fail
    refine bodyPost_ret (v := .tuple #[.int .i64 0, .bool false]) (by simp [results, Tryz.results88, go_sem]) rfl ?_
    exact ⟨0, false, rfl, nofun, fun _ => HN.out, Below.refl _ _⟩
  · have h8' : ¬ (s.size : Int) < 8 := by omega
    have h8'' : (8 : Int) ≤ (s.size : Int) := by omega
    by_cases hp : s.extract 0 8 = maW
    · have ht : ((s.extract 0 8).toList == maW.toList) = true := (text_beq _ _).2 hp
      rw [maW_list] at ht
      have HY : Hid (ageOf s = some (numV (s.extract 8 s.size))) := ageOf_yes hp
      have hes : (s.extract 8 s.size).size ≤ maxLen := by rw [ByteArray.size_extract]; unfold maxLen; omega
      clear hp h8
      go_enter Tryz.func88, Tryz.ntmps88
      go_wp2_with fail
      refine (specNumRead_any (s.extract 8 s.size) _ hes).mono ?_
      rintro e w1 ⟨b, n, rfl, hb1, hb2, hb3, b1⟩
      have HV : Hid (numV (s.extract 8 s.size) = n) := by
        show _ = _
        unfold numV
        cases b with
        | true => rw [if_pos (hb1.1 rfl), hb2 rfl]
        | false => rw [if_neg (fun h => nomatch hb1.2 h), hb3 rfl]
      clear hb1 hb2 hb3
      go_wp2_with fail
      refine bodyPost_ret (v := .tuple #[.int .i64 n, .bool true]) (by simp [results, Tryz.results88, go_sem]) rfl ?_
      exact ⟨n, true, rfl, fun _ => by rw [HY.out, HV.out], nofun, b1⟩
    · have ht : ((s.extract 0 8).toList == maW.toList) = false := text_beq_no hp
      rw [maW_list] at ht
      have HN : Hid (ageOf s = none) := ageOf_no hp
      clear hp h8
      go_enter Tryz.func88, Tryz.ntmps88
      go_wp2_with fail
      refine bodyPost_ret (v := .tuple #[.int .i64 0, .bool false]) (by simp [results, Tryz.results88, go_sem]) rfl ?_
      exact ⟨0, false, rfl, nofun, fun _ => HN.out, Below.refl _ _⟩

theorem ccLow_size (s : ByteArray) : (lowerOf s).size = s.size := by unfold lowerOf; rw [strOfNums_size, lowXs_len]
/-- The cells of it. -/
def CcD.cs (c : CcD) : Array Value := #[.bool c.ns, .bool c.nc, .bool c.pr, .bool c.mu, .bool c.ha, .int .i64 c.age]
/-- A block that holds it. -/
def CcAt (w : World) (g : Nat) (c : CcD) : Prop := w.heap[g]? = some (.cells c.cs 66)
theorem CcAt.cells {w : World} {g : Nat} {c : CcD} (h : CcAt w g c) : w.cell? ⟨g, 0, none⟩ = some (.bool c.ns) ∧ w.cell? ⟨g, 1, none⟩ = some (.bool c.nc) ∧ w.cell? ⟨g, 2, none⟩ = some (.bool c.pr) ∧ w.cell? ⟨g, 3, none⟩ = some (.bool c.mu) ∧ w.cell? ⟨g, 4, none⟩ = some (.bool c.ha) ∧ w.cell? ⟨g, 5, none⟩ = some (.int .i64 c.age) := by
  unfold CcAt CcD.cs at h
  refine ⟨?_, ?_, ?_, ?_, ?_, ?_⟩ <;> simp [World.cell?, h]
theorem CcAt.frozen {w : World} {g : Nat} {c : CcD} (h : CcAt w g c) (o : Nat) : w.frozen? ⟨g, o, none⟩ = false := by
  unfold CcAt at h
  simp [World.frozen?, h]
theorem CcAt.lt {w : World} {g : Nat} {c : CcD} (h : CcAt w g c) : g < w.heap.size := (Array.getElem?_eq_some_iff.1 h).1
theorem CcAt.same {w w' : World} {g : Nat} {c : CcD} (h : CcAt w g c) (hs : w'.heap[g]? = w.heap[g]?) : CcAt w' g c := by unfold CcAt; rw [hs]; exact h
theorem CcAt.put0 {w : World} {g : Nat} {c : CcD} (h : CcAt w g c) (x : Bool) : CcAt (w.setCell ⟨g, 0, none⟩ (.bool x)) g { c with ns := x } := by unfold CcAt at *; rw [heap_set _ _ _ _ _ _ _ h]; rfl
theorem CcAt.put1 {w : World} {g : Nat} {c : CcD} (h : CcAt w g c) (x : Bool) : CcAt (w.setCell ⟨g, 1, none⟩ (.bool x)) g { c with nc := x } := by unfold CcAt at *; rw [heap_set _ _ _ _ _ _ _ h]; rfl
theorem CcAt.put2 {w : World} {g : Nat} {c : CcD} (h : CcAt w g c) (x : Bool) : CcAt (w.setCell ⟨g, 2, none⟩ (.bool x)) g { c with pr := x } := by unfold CcAt at *; rw [heap_set _ _ _ _ _ _ _ h]; rfl
theorem CcAt.put3 {w : World} {g : Nat} {c : CcD} (h : CcAt w g c) (x : Bool) : CcAt (w.setCell ⟨g, 3, none⟩ (.bool x)) g { c with mu := x } := by unfold CcAt at *; rw [heap_set _ _ _ _ _ _ _ h]; rfl
theorem CcAt.put4 {w : World} {g : Nat} {c : CcD} (h : CcAt w g c) (x : Bool) : CcAt (w.setCell ⟨g, 4, none⟩ (.bool x)) g { c with ha := x } := by unfold CcAt at *; rw [heap_set _ _ _ _ _ _ _ h]; rfl
theorem CcAt.put5 {w : World} {g : Nat} {c : CcD} (h : CcAt w g c) (x : Int) : CcAt (w.setCell ⟨g, 5, none⟩ (.int .i64 x)) g { c with age := x } := by unfold CcAt at *; rw [heap_set _ _ _ _ _ _ _ h]; rfl
/-- All six cells of a block are stored. -/
def putCc (w : World) (g : Nat) (d : CcD) : World := (((((w.setCell ⟨g, 0, none⟩ (.bool d.ns)).setCell ⟨g, 1, none⟩ (.bool d.nc)).setCell ⟨g, 2, none⟩ (.bool d.pr)).setCell ⟨g, 3, none⟩ (.bool d.mu)).setCell ⟨g, 4, none⟩ (.bool d.ha)).setCell ⟨g, 5, none⟩ (.int .i64 d.age)
theorem CcAt.putAll {w : World} {g : Nat} {c : CcD} (h : CcAt w g c) (d : CcD) : CcAt (putCc w g d) g d :=
  (((((h.put0 d.ns).put1 d.nc).put2 d.pr).put3 d.mu).put4 d.ha).put5 d.age
theorem below_putCc {B : Nat} {a w : World} (h : Below B a w) {g : Nat} (hg : B ≤ g) (d : CcD) : Below B a (putCc w g d) :=
  (((((h.setCell hg _).setCell hg _).setCell hg _).setCell hg _).setCell hg _).setCell hg _

/-- The name of the field that says it. -/
def ccName : ByteArray := ⟨#[99, 97, 99, 104, 101, 45, 99, 111, 110, 116, 114, 111, 108]⟩

/-- While words are read. -/
structure CcSt (w : World) (H : Nat) (c : CcD) (v : Value) (l : List ByteArray) (wr : World) : Prop where
  res : CcAt wr H cc0
  cur : CcAt wr (H + 1) c
  row : wr.ownsRow (H + 1 + 1) 9 1 v l.length (l.map Value.string)
  low : Below H w wr
theorem CcSt.later {w : World} {H : Nat} {c : CcD} {v : Value} {l : List ByteArray} {wr w' : World} (h : CcSt w H c v l wr) (hb : Below wr.heap.size wr w') : CcSt w H c v l w' :=
  ⟨h.res.same (hb.block _ h.res.lt), h.cur.same (hb.block _ h.cur.lt), owns_below h.row hb (fun _ hg => owns_lt h.row hg), h.low.trans (hb.mono (Nat.le_of_lt h.res.lt))⟩
theorem CcSt.put {w : World} {H : Nat} {c d : CcD} {v : Value} {l : List ByteArray} {wr : World} (h : CcSt w H c v l wr) {o : Nat} {x : Value} (hd : CcAt (wr.setCell ⟨H + 1, o, none⟩ x) (H + 1) d) : CcSt w H d v l (wr.setCell ⟨H + 1, o, none⟩ x) :=
  ⟨h.res.same (heap_setCell_other _ _ H _ (by show H ≠ H + 1; omega)), hd, owns_same h.row (fun j hj => heap_setCell_other _ _ j _ (by show j ≠ H + 1; have := (own_ltR h.row hj).1; omega)), h.low.setCell (by show H ≤ H + 1; omega) _⟩

set_option maxHeartbeats 4000000 in
set_option maxRecDepth 100000 in
theorem specCcRead_any (s : ByteArray) (w : World) (hs : s.size ≤ 1048576) :
    Calls Tryz.prog 70 #[.string s] w fun e w' => e = .returned (ccR s).v ∧ Below w.heap.size w w' := by
  obtain ⟨H, hH⟩ : ∃ H, H = w.heap.size := ⟨_, rfl⟩
  have HW : Hid (w.heap.size = H) := hH.symm
  obtain ⟨W0, hW0⟩ : ∃ W, W = (w.alloc (.cells cc0.cs 66)).alloc (.cells cc0.cs 66) := ⟨_, rfl⟩
  have HA : Hid (CcAt W0 H cc0 ∧ CcAt W0 (H + 1) cc0 ∧ Below H w W0 ∧ W0.heap.size = H + 1 + 1) := by
    have e1 := heap_alloc_new w (.cells cc0.cs 66)
    have e2 := heap_alloc_new (w.alloc (.cells cc0.cs 66)) (.cells cc0.cs 66)
    rw [World.size_alloc] at e2
    refine ⟨?_, ?_, ?_, ?_⟩
    · unfold CcAt; rw [hW0, hH, heap_alloc_old _ _ (by simp)]; exact e1
    · unfold CcAt; rw [hW0, hH]; exact e2
    · rw [hW0, hH]; exact ((Below.refl _ w).alloc (Nat.le_refl _) _).alloc (by simp) _
    · rw [hW0, hH]; simp
  have HW0 : Hid ((w.alloc (.cells #[.bool false, .bool false, .bool false, .bool false, .bool false, .int .i64 0] 66)).alloc (.cells #[.bool false, .bool false, .bool false, .bool false, .bool false, .int .i64 0] 66) = W0) := hW0.symm
  clear hW0
  go_enter Tryz.func70, Tryz.ntmps70
  go_wp2_with fail
  rw [HW0.out, ← hH]
  clear hH
  refine (specSplit_any s _ hs).mono ?_
  rintro e w1 ⟨v, rfl, hown, b1⟩
  rw [HA.out.2.2.2] at hown b1
  obtain ⟨l, hl⟩ : ∃ l, l = splitL s := ⟨_, rfl⟩
  rw [← hl] at hown
  have HLS : Hid (splitL s = l) := hl.symm
  have HLB : Hid (∀ x ∈ l, x.size ≤ 1048576) := fun x hx => by rw [hl] at hx; have := (splitL_le s).2 x hx; omega
  have hll : l.length ≤ 1048577 := by rw [hl]; have := (splitL_le s).1; omega
  have HS1 : Hid (CcSt w H (ccTo (l.take 0)) v l w1) := ⟨HA.out.1.same (b1.block _ (by omega)), HA.out.2.1.same (b1.block _ (by omega)), hown, HA.out.2.2.1.trans (b1.mono (by omega))⟩
  obtain ⟨oa, cp, rfl⟩ := slice_of_owns hown
  obtain ⟨n, hn⟩ : ∃ n, n = l.length := ⟨_, rfl⟩
  have HN : Hid (l.length = n) := hn.symm
  rw [← hn] at hll HS1
  rw [← hn]
  clear hown b1 hl hn
  go_wp2_with fail
  go_loopw [5] (fun i wr => ∃ k : Nat, k ≤ n ∧ i = .int .i64 (k : Int) ∧ Hid (CcSt w H (ccTo (l.take k)) (.slice oa n cp) l wr)) (fun i _ => n - (intOf i).toNat)
  case atStart => exact ⟨0, Nat.zero_le _, rfl, HS1⟩
  case round =>
    obtain ⟨k, hk, rfl, HS⟩ := hrel
    by_cases hlt : (k : Int) < (n : Int)
    · have hkl : k < l.length := by have := HN.out; omega
      obtain ⟨g, rfl⟩ : ∃ g, oa = some ⟨g, 0, none⟩ := by
        rcases HS.out.row.2 with ⟨e, _⟩ | ⟨g, _, _, e, _⟩
        · injection e with _ e2 _; omega
        · injection e with e1 _ _; exact ⟨g, e1⟩
      obtain ⟨x, hx⟩ : ∃ x, x = l[k]'hkl := ⟨_, rfl⟩
      have hc0 : wr.cell? ⟨g, k, none⟩ = some (.string x) := by
        have hr := HS.out.row
        rw [HN.out] at hr
        exact (owns_cellC hr k (.string x) (by rw [List.getElem?_map, List.getElem?_eq_getElem hkl, hx]; rfl)).1
      have hxs : x.size ≤ 1048576 := by rw [hx]; exact HLB.out _ (List.getElem_mem hkl)
      obtain ⟨y, hy⟩ : ∃ y, y = lowerOf x := ⟨_, rfl⟩
      have hys : y.size ≤ 4000000 := by rw [hy, ccLow_size]; omega
      have HY : Hid (lowerOf x = y) := hy.symm
      have HST : Hid (ccTo (l.take (k + 1)) = ccStep (ccTo (l.take k)) y) := by
        show _ = _
        rw [List.take_succ_eq_append_getElem hkl, ccTo_snoc, ← hx, hy]
      clear hx hy hkl
      obtain ⟨c, hc⟩ : ∃ c, c = ccTo (l.take k) := ⟨_, rfl⟩
      rw [← hc] at HS HST
      obtain ⟨d, hd⟩ : ∃ d, d = ccTo (l.take (k + 1)) := ⟨_, rfl⟩
      rw [← hd] at HST
      have HD : Hid (ccTo (l.take (k + 1)) = d) := hd.symm
      clear hc hd
      go_wp2_with fail
      refine (specLower_any x _ hxs).mono ?_
      rintro e w2 ⟨rfl, b2⟩
      rw [HY.out]
      have HS2 : Hid (CcSt w H c (.slice (some ⟨g, 0, none⟩) n cp) l w2) := HS.out.later b2
      clear b2 hc0
      go_wp2_with fail
      refine (l6Age_any y _ hys).mono ?_
      rintro e w3 ⟨na, ba, rfl, hb1, hb2, b3⟩
      have HS3 : Hid (CcSt w H c (.slice (some ⟨g, 0, none⟩) n cp) l w3) := HS2.out.later b3
      obtain ⟨q0, q1, q2, q3, q4, q5⟩ := HS3.out.cur.cells
      have f0 := HS3.out.cur.frozen 0
      have f1 := HS3.out.cur.frozen 1
      have f2 := HS3.out.cur.frozen 2
      have f3 := HS3.out.cur.frozen 3
      have f4 := HS3.out.cur.frozen 4
      have f5 := HS3.out.cur.frozen 5
      clear b3 HS HS2
      by_cases h0 : y = nsW
      · have t0 : (y.toList == nsW.toList) = true := (text_beq _ _).2 h0
        rw [nsW_list] at t0
        have HS4 : Hid (CcSt w H d (.slice (some ⟨g, 0, none⟩) n cp) l (w3.setCell ⟨H + 1, 0, none⟩ (.bool true))) := by
          show CcSt _ _ _ _ _ _
          have e : d = { c with ns := true } := by rw [HST.out]; unfold ccStep; rw [if_pos h0]
          rw [e]
          exact HS3.out.put (HS3.out.cur.put0 true)
        clear h0 hb1 hb2
        go_wp2_with fail
        go_roundw
        case rel => exact ⟨k + 1, by omega, by go_num, by rw [HD.out]; exact HS4⟩
        case measure => simp [intOf]; omega
      have t0 : (y.toList == nsW.toList) = false := text_beq_no h0
      rw [nsW_list] at t0
      by_cases h1 : y = ncW
      · have t1 : (y.toList == ncW.toList) = true := (text_beq _ _).2 h1
        rw [ncW_list] at t1
        have HS4 : Hid (CcSt w H d (.slice (some ⟨g, 0, none⟩) n cp) l (w3.setCell ⟨H + 1, 1, none⟩ (.bool true))) := by
          show CcSt _ _ _ _ _ _
          have e : d = { c with nc := true } := by rw [HST.out]; unfold ccStep; rw [if_neg h0, if_pos h1]
          rw [e]
          exact HS3.out.put (HS3.out.cur.put1 true)
        clear h0 h1 hb1 hb2
        go_wp2_with fail
        go_roundw
        case rel => exact ⟨k + 1, by omega, by go_num, by rw [HD.out]; exact HS4⟩
        case measure => simp [intOf]; omega
      have t1 : (y.toList == ncW.toList) = false := text_beq_no h1
      rw [ncW_list] at t1
      by_cases h2 : y = prW
      · have t2 : (y.toList == prW.toList) = true := (text_beq _ _).2 h2
        rw [prW_list] at t2
        have HS4 : Hid (CcSt w H d (.slice (some ⟨g, 0, none⟩) n cp) l (w3.setCell ⟨H + 1, 2, none⟩ (.bool true))) := by
          show CcSt _ _ _ _ _ _
          have e : d = { c with pr := true } := by rw [HST.out]; unfold ccStep; rw [if_neg h0, if_neg h1, if_pos h2]
          rw [e]
          exact HS3.out.put (HS3.out.cur.put2 true)
        clear h0 h1 h2 hb1 hb2
        go_wp2_with fail
        go_roundw
        case rel => exact ⟨k + 1, by omega, by go_num, by rw [HD.out]; exact HS4⟩
        case measure => simp [intOf]; omega
      have t2 : (y.toList == prW.toList) = false := text_beq_no h2
      rw [prW_list] at t2
      by_cases h3 : y = muW
      · have t3 : (y.toList == muW.toList) = true := (text_beq _ _).2 h3
        rw [muW_list] at t3
        have HS4 : Hid (CcSt w H d (.slice (some ⟨g, 0, none⟩) n cp) l (w3.setCell ⟨H + 1, 3, none⟩ (.bool true))) := by
          show CcSt _ _ _ _ _ _
          have e : d = { c with mu := true } := by rw [HST.out]; unfold ccStep; rw [if_neg h0, if_neg h1, if_neg h2, if_pos h3]
          rw [e]
          exact HS3.out.put (HS3.out.cur.put3 true)
        clear h0 h1 h2 h3 hb1 hb2
        go_wp2_with fail
        go_roundw
        case rel => exact ⟨k + 1, by omega, by go_num, by rw [HD.out]; exact HS4⟩
        case measure => simp [intOf]; omega
      have t3 : (y.toList == muW.toList) = false := text_beq_no h3
      rw [muW_list] at t3
      have HRE : Hid (ccStep c y = match ageOf y with | none => c | some n => if c.ha = true then { c with age := min c.age n } else { c with ha := true, age := n }) := by
        show _ = _
        unfold ccStep
        rw [if_neg h0, if_neg h1, if_neg h2, if_neg h3]
        rfl
      clear h0 h1 h2 h3
      cases ba with
      | false =>
        have HS4 : Hid (CcSt w H d (.slice (some ⟨g, 0, none⟩) n cp) l w3) := by
          show CcSt _ _ _ _ _ _
          have e : d = c := by rw [HST.out, HRE.out, hb2 rfl]
          rw [e]
          exact HS3.out
        clear hb1 hb2
        go_wp2_with fail
        go_roundw
        case rel => exact ⟨k + 1, by omega, by go_num, by rw [HD.out]; exact HS4⟩
        case measure => simp [intOf]; omega
      | true =>
        cases hha : c.ha with
        | true =>
          have HS4 : Hid (CcSt w H d (.slice (some ⟨g, 0, none⟩) n cp) l (w3.setCell ⟨H + 1, 5, none⟩ (.int .i64 (min c.age na)))) := by
            show CcSt _ _ _ _ _ _
            have e : d = { c with age := min c.age na } := by rw [HST.out, HRE.out, hb1 rfl]; dsimp only; rw [if_pos hha]
            rw [e]
            exact HS3.out.put (HS3.out.cur.put5 _)
          rw [hha] at q4
          clear hb1 hb2 hha
          go_wp2_with fail
          refine (l1Min_any _ _ _).mono ?_
          rintro e w4 ⟨rfl, rfl⟩
          go_wp2_with fail
          go_roundw
          case rel => exact ⟨k + 1, by omega, by go_num, by rw [HD.out]; exact HS4⟩
          case measure => simp [intOf]; omega
        | false =>
          have HS4a : CcSt w H { c with ha := true } (.slice (some ⟨g, 0, none⟩) n cp) l (w3.setCell ⟨H + 1, 4, none⟩ (.bool true)) := HS3.out.put (HS3.out.cur.put4 true)
          have HS4 : Hid (CcSt w H d (.slice (some ⟨g, 0, none⟩) n cp) l ((w3.setCell ⟨H + 1, 4, none⟩ (.bool true)).setCell ⟨H + 1, 5, none⟩ (.int .i64 na))) := by
            show CcSt _ _ _ _ _ _
            have e : d = { c with ha := true, age := na } := by rw [HST.out, HRE.out, hb1 rfl]; dsimp only; rw [if_neg (by rw [hha]; decide)]
            rw [e]
            exact HS4a.put (HS4a.cur.put5 _)
          have q5a := HS4a.cur.cells.2.2.2.2.2
          have f5a := HS4a.cur.frozen 5
          rw [hha] at q4
          clear hb1 hb2 hha HS4a
          go_wp2_with fail
          go_roundw
          case rel => exact ⟨k + 1, by omega, by go_num, by rw [HD.out]; exact HS4⟩
          case measure => simp [intOf]; omega
    · obtain rfl : k = n := by omega
      have HE : Hid (ccTo (l.take k) = ccR s) := by
        show _ = _
        rw [List.take_of_length_le (by rw [HN.out]; exact Nat.le_refl _)]
        unfold ccR
        rw [HLS.out]
      rw [HE.out] at HS
      obtain ⟨c, hc⟩ : ∃ c, c = ccR s := ⟨_, rfl⟩
      rw [← hc] at HS
      have HC : Hid (c = ccR s) := hc
      obtain ⟨q0, q1, q2, q3, q4, q5⟩ := HS.out.cur.cells
      obtain ⟨r0, r1, r2, r3, r4, r5⟩ := HS.out.res.cells
      have f0 := HS.out.res.frozen 0
      have f1 := HS.out.res.frozen 1
      have f2 := HS.out.res.frozen 2
      have f3 := HS.out.res.frozen 3
      have f4 := HS.out.res.frozen 4
      have f5 := HS.out.res.frozen 5
      obtain ⟨m0, m1, m2, m3, m4, m5⟩ := (HS.out.res.putAll c).cells
      have HB : Hid (Below H w (putCc wr H c)) := below_putCc HS.out.low (Nat.le_refl _) c
      clear hc HE
      unfold putCc at m0 m1 m2 m3 m4 m5 HB
      go_wp2_with fail
      refine bodyPost_ret (v := c.v) (by simp [results, Tryz.results70, go_sem, m0, m1, m2, m3, m4, m5, CcD.v]) rfl ?_
      exact ⟨by rw [HC.out], by rw [HW.out]; exact HB.out⟩

set_option maxHeartbeats 1000000 in
theorem specCcOf_any (v : Value) (n base : Nat) (fs : List (ByteArray × ByteArray)) (w : World) (hv : FieldsV w base v n fs) (hn : n ≤ 1073741824) (hsz : (getV fs ccName).size ≤ 1048576) :
    Calls Tryz.prog 39 #[v] w fun e w' => e = .returned (ccR (getV fs ccName)).v ∧ Below w.heap.size w w' := by
  have hv1 : FieldsV (w.alloc (.cells cc0.cs 66)) base v n fs := hv.below ((Below.refl _ _).alloc (Nat.le_refl _) _)
  have HR0 : Hid (CcAt (w.alloc (.cells cc0.cs 66)) w.heap.size cc0) := heap_alloc_new w _
  obtain ⟨t, ht⟩ : ∃ t, t = getV fs ccName := ⟨_, rfl⟩
  have HT : Hid (getV fs ccName = t) := ht.symm
  rw [← ht] at hsz
  obtain ⟨c, hc⟩ : ∃ c, c = ccR t := ⟨_, rfl⟩
  have HC : Hid (ccR t = c) := hc.symm
  rw [← ht, ← hc]
  clear ht hc hv
  go_enter Tryz.func39, Tryz.ntmps39
  go_wp2_with fail
  refine (specGet_any v n base fs ccName _ hv1 hn).mono ?_
  rintro e w1 ⟨rfl, rfl⟩
  rw [HT.out]
  clear hv1
  go_wp2_with fail
  refine (specCcRead_any t _ hsz).mono ?_
  rintro e w2 ⟨rfl, b2⟩
  rw [HC.out]
  have hR := HR0.out.same (b2.block _ HR0.out.lt)
  obtain ⟨r0, r1, r2, r3, r4, r5⟩ := hR.cells
  have f0 := hR.frozen 0
  have f1 := hR.frozen 1
  have f2 := hR.frozen 2
  have f3 := hR.frozen 3
  have f4 := hR.frozen 4
  have f5 := hR.frozen 5
  obtain ⟨m0, m1, m2, m3, m4, m5⟩ := (hR.putAll c).cells
  have HB : Hid (Below w.heap.size w (putCc w2 w.heap.size c)) := below_putCc (((Below.refl _ w).alloc (Nat.le_refl _) _).trans (b2.mono (by simp))) (Nat.le_refl _) c
  unfold putCc at m0 m1 m2 m3 m4 m5 HB
  clear hR b2 HR0
  unfold CcD.v
  go_wp2_with fail
  refine bodyPost_ret (v := c.v) (by simp [results, Tryz.results39, go_sem, m0, m1, m2, m3, m4, m5, CcD.v]) rfl ?_
  exact ⟨rfl, HB.out⟩

end Go.Proofs.YtdlhicdfldecgaaGreat

namespace Go.Proofs.YtdlhicdfldecgaaGreat
open Go.RowKit
open Go.Lib hiding intOf

/-- Names are right: at most four words. -/
def NamesP (xs : List ByteArray) : Prop := (∀ x ∈ xs, TokOk x) ∧ xs.length ≤ 4
def MayP (m : Int) (p : ByteArray) (fs : List (ByteArray × ByteArray)) (b : ByteArray) (st : Int) (gs : List (ByteArray × ByteArray)) (c : ByteArray) : Prop :=
  (ReqP m p fs b ∧ RespP st gs c ∧ m = 1 ∧ st = 200) ∧ (ccR (getV fs ccName)).ns = false ∧ (ccR (getV gs ccName)).ns = false ∧ (ccR (getV gs ccName)).pr = false ∧ (ccR (getV gs ccName)).ha = true ∧ NamesP (varyP gs)
/-- Each field put. -/
def putAll (fs gs : List (ByteArray × ByteArray)) : List (ByteArray × ByteArray) := gs.foldl (fun l f => putF l f.1 f.2) fs
end Go.Proofs.YtdlhicdfldecgaaGreat

namespace Go.Proofs.YtdlhicdfldecgaaGreat
open Go.RowKit
open Go.Lib hiding intOf

theorem textAt_mem (xs : List ByteArray) (j : Nat) (h : j < xs.length) : textAt xs j ∈ xs := by
  unfold textAt
  rw [List.getD_eq_getElem?_getD, List.getElem?_eq_getElem h]
  exact List.getElem_mem _
theorem take_textAt (xs : List ByteArray) (j : Nat) (h : j < xs.length) : xs.take (j + 1) = xs.take j ++ [textAt xs j] := by
  rw [List.take_add_one, List.getElem?_eq_getElem h]
  unfold textAt
  rw [List.getD_eq_getElem?_getD, List.getElem?_eq_getElem h]
  rfl

open Classical in
set_option maxHeartbeats 1000000 in
theorem l8Texts_any (oa ob : Option Addr) (m cm n cn : Nat) (xs ys : List ByteArray) (w : World) (hx : TextsA w oa m xs) (hy : TextsA w ob n ys) (hm : m ≤ 2000000) :
    Calls Tryz.prog 47 #[.slice oa m cm, .slice ob n cn] w fun e w' => e = .returned (.bool (decide (xs = ys))) ∧ Below w.heap.size w w' := by
  have HX : Hid (∀ W, Below w.heap.size w W → TextsA W oa m xs) := fun W h => hx.below h
  have HY : Hid (∀ W, Below w.heap.size w W → TextsA W ob n ys) := fun W h => hy.below h
  have HLX : Hid (xs.length = m) := hx.1
  have HLY : Hid (ys.length = n) := hy.1
  clear hx hy
  go_enter Tryz.func47, Tryz.ntmps47
  go_wp2_with fail
  go_loopw [5] (fun i wr => ∃ j : Nat, j ≤ m ∧ j ≤ n ∧ i = .int .i64 (j : Int) ∧ Below w.heap.size w wr ∧ Hid (xs.take j = ys.take j)) (fun i _ => m - (intOf i).toNat)
  case atStart => exact ⟨0, Nat.zero_le _, Nat.zero_le _, rfl, Below.refl _ _, by show _ = _; simp⟩
  case round =>
    obtain ⟨j, hj, hj2, rfl, hbw, HN⟩ := hrel
    by_cases hlt : (j : Int) < (m : Int)
    · by_cases hlt2 : (j : Int) < (n : Int)
      · have hjx : j < xs.length := by rw [HLX.out]; omega
        have hjy : j < ys.length := by rw [HLY.out]; omega
        obtain ⟨g, rfl, hg, hc⟩ := (HX.out wr hbw).2 j (by omega)
        obtain ⟨g2, rfl, hg2, hc2⟩ := (HY.out wr hbw).2 j (by omega)
        obtain ⟨x, hxx⟩ : ∃ x, x = textAt xs j := ⟨_, rfl⟩
        obtain ⟨y, hyy⟩ : ∃ y, y = textAt ys j := ⟨_, rfl⟩
        rw [← hxx] at hc
        rw [← hyy] at hc2
        by_cases he : x = y
        · have HN2 : Hid (xs.take (j + 1) = ys.take (j + 1)) := by
            show _ = _
            rw [take_textAt xs j hjx, take_textAt ys j hjy, ← hxx, ← hyy, HN.out, he]
          subst he
          clear hxx hyy hjx hjy HN
          go_wp2_with fail
          go_quiet (fail)
          go_wp2
          go_roundw
          case rel => exact ⟨j + 1, by omega, by omega, by go_num, below_drewN hbw _, HN2⟩
          case measure => simp [intOf]; omega
        · have t0 : (x.toList == y.toList) = false := text_beq_no he
          have t1 : (x.toList != y.toList) = true := by rw [bne, t0]; rfl
          have HE : Hid (decide (xs = ys) = false) := decide_eq_false (fun h => he (by rw [hxx, hyy, h]))
          clear he hxx hyy hjx hjy HN
          go_wp2_with fail
          go_quiet (fail)
          go_wp2
          go_ret
          exact ⟨by rw [HE.out]; rfl, below_drewN hbw _⟩
      · have HE : Hid (decide (xs = ys) = decide ((m : Int) = (n : Int))) := by
          show _ = _
          rw [decide_eq_decide]
          constructor
          · intro h; have h1 := HLX.out; have h2 := HLY.out; rw [h] at h1; omega
          · intro h; omega
        clear HN
        go_wp2_with fail
        go_ret
        exact ⟨by rw [HE.out]; rfl, hbw⟩
    · have HE : Hid (decide (xs = ys) = decide ((m : Int) = (n : Int))) := by
        show _ = _
        rw [decide_eq_decide]
        constructor
        · intro h; have h1 := HLX.out; have h2 := HLY.out; rw [h] at h1; omega
        · intro h
          have h1 := HN.out
          rw [List.take_of_length_le (by rw [HLX.out]; omega), List.take_of_length_le (by rw [HLY.out]; omega)] at h1
          exact h1
      clear HN
      go_wp2_with fail
      go_ret
      exact ⟨by rw [HE.out]; rfl, hbw⟩

end Go.Proofs.YtdlhicdfldecgaaGreat

namespace Go.Proofs.YtdlhicdfldecgaaGreat
open Go.RowKit
open Go.Lib hiding intOf

/-- An object is right. -/
def ObjP (p : ByteArray) (xs ys : List ByteArray) (st : Int) (fs : List (ByteArray × ByteArray)) (b : ByteArray) (t : Int) : Prop :=
  RespP st fs b ∧ PathOk p ∧ (0 ≤ t ∧ t ≤ 1000000) ∧ NamesP xs ∧ xs = varyP fs ∧ ys.length = xs.length ∧ ∀ y ∈ ys, ValOk y
theorem texts_view {w : World} {base n p : Nat} {o : Option Addr} {xs : List ByteArray} (h : w.ownsRow base 9 1 (.slice o n p) n (xs.map Value.string)) : TextsA w o n xs := by
  obtain ⟨oa, ca, he, hx⟩ := texts_own h
  cases he
  exact hx

end Go.Proofs.YtdlhicdfldecgaaGreat

namespace Go.Proofs.YtdlhicdfldecgaaGreat
open Go.RowKit
open Go.Lib hiding intOf

set_option maxHeartbeats 1000000 in
theorem l9Names_any (oa : Option Addr) (m cm : Nat) (xs : List ByteArray) (w : World) (hx : TextsA w oa m xs) (hm : m ≤ 2000000) (hsz : ∀ i, i < m → (textAt xs i).size ≤ maxLen) :
    Calls Tryz.prog 40 #[.slice oa m cm] w fun e w' => BoolIs (NamesP xs) w e w' := by
  have HX : Hid (∀ W, Below w.heap.size w W → TextsA W oa m xs) := fun W h => hx.below h
  have HL : Hid (xs.length = m) := hx.1
  have HS : Hid (∀ i, i < m → (textAt xs i).size ≤ maxLen) := hsz
  clear hx hsz
  go_enter Tryz.func40, Tryz.ntmps40
  go_wp2_with fail
  go_loopw [3] (fun i wr => ∃ j : Nat, j ≤ m ∧ i = .int .i64 (j : Int) ∧ Below w.heap.size w wr ∧ Hid (∀ x ∈ xs.take j, TokOk x)) (fun i _ => m - (intOf i).toNat)
  case atStart => exact ⟨0, Nat.zero_le _, rfl, Below.refl _ _, fun x hx => by simp at hx⟩
  case round =>
    obtain ⟨j, hj, rfl, hbw, HN⟩ := hrel
    by_cases hlt : (j : Int) < (m : Int)
    · have hjx : j < xs.length := by rw [HL.out]; omega
      obtain ⟨g, rfl, hg, hc⟩ := (HX.out wr hbw).2 j (by omega)
      have hs := HS.out j (by omega)
      obtain ⟨x, hxx⟩ : ∃ x, x = textAt xs j := ⟨_, rfl⟩
      rw [← hxx] at hc hs
      have HM : Hid (x ∈ xs) := by show _ ∈ _; rw [hxx]; exact textAt_mem xs j hjx
      have HT : Hid (xs.take (j + 1) = xs.take j ++ [x]) := by show _ = _; rw [take_textAt xs j hjx, hxx]
      clear hxx hjx
      go_wp2_with fail
      refine (specTokenOk_any x _ hs).mono ?_
      rintro e w1 ⟨t, rfl, ht, b1⟩
      have hb1 : Below w.heap.size w w1 := hbw.trans (b1.mono hbw.size)
      clear b1 hbw hc
      cases t with
      | false =>
        have HF : Hid (¬ NamesP xs) := fun h => nomatch ht.2 (h.1 x HM.out)
        clear ht HN
        go_wp2_with fail
        go_ret
        exact BoolIs.no HF.out hb1
      | true =>
        have HN2 : Hid (∀ y ∈ xs.take (j + 1), TokOk y) := by
          intro y hy
          rw [HT.out] at hy
          rcases List.mem_append.1 hy with hy | hy
          · exact HN.out y hy
          · rw [List.mem_singleton.1 hy]; exact ht.1 rfl
        clear ht HN
        go_wp2_with fail
        go_roundw
        case rel => exact ⟨j + 1, by omega, by go_num, hb1, HN2⟩
        case measure => simp [intOf]; omega
    · have HA : Hid (∀ x ∈ xs, TokOk x) := by
        have h := HN.out
        rw [List.take_of_length_le (by rw [HL.out]; omega)] at h
        exact h
      have HQ : Hid (((m : Int) ≤ 4) ↔ NamesP xs) := ⟨fun h => ⟨HA.out, by rw [HL.out]; omega⟩, fun h => by have := h.2; rw [HL.out] at this; omega⟩
      clear HN
      go_wp2_with fail
      go_ret
      exact ⟨decide ((m : Int) ≤ 4), rfl, by rw [decide_eq_true_iff]; exact HQ.out, hbw⟩

set_option maxHeartbeats 1000000 in
set_option maxRecDepth 100000 in
theorem l9Copy_any (v : Value) (n base : Nat) (fs : List (ByteArray × ByteArray)) (w : World) (hv : FieldsV w base v n fs) (hn : n ≤ 2000000) :
    Calls Tryz.prog 44 #[v] w fun e w' => RowF fs w e w' := by
  obtain ⟨i0, hi, hz0, hz1, hz2⟩ := info_parts info33
  have hl := hv.len
  have h63a : 0 + n ≤ maxLen := by unfold maxLen; omega
  have h47a : (0 + n) * 32 ≤ 140737488355328 := by omega
  have hown0 : (w.alloc (.cells #[] 75)).ownsRow w.heap.size 75 2 (.slice (some ⟨w.heap.size, 0, none⟩) 0 0) 0 [] := ⟨rfl, .inr ⟨w.heap.size, 0, #[], rfl, Nat.le_refl _, heap_alloc_new w _, Nat.le_refl _, Nat.zero_le _, rfl, rfl⟩⟩
  have hbs0 : w.heap.size ≤ (w.alloc (.cells #[] 75)).heap.size := by simp
  have hv1 := hv.below ((Below.refl _ w).alloc (Nat.le_refl _) (.cells #[] 75))
  rcases hv1.src with ⟨rfl, rfl, rfl⟩ | ⟨ad, cap, rfl, hcs⟩
  · have hb2 : Below w.heap.size w (w.alloc (.cells #[] 75)) := (Below.refl _ w).alloc (Nat.le_refl _) _
    clear hv
    go_enter Tryz.func44, Tryz.ntmps44
    go_wp2_with (at_builtin; refine wpList_append_own_none rfl _ _ 30 rfl w.heap.size 75 i0 2 Tryz.underlying30 hi _ _ _ rfl hown0 rfl ?_)
    go_wp2
    go_ret
    exact ⟨_, rfl, hown0, hb2⟩
  · have hnl : (flatF fs).length = n * 2 := by rw [flatF_len, hl]
    go_enter Tryz.func44, Tryz.ntmps44
    go_wp2_with (at_builtin; refine wpList_append_own _ rfl _ _ 30 rfl w.heap.size 75 i0 (.agg #[.string ⟨#[]⟩, .string ⟨#[]⟩]) 2 32 Tryz.underlying30 hi hz0 hz1 hz2 rfl (by decide) _ _ _ rfl hown0 ad n cap (flatF fs) rfl hnl hcs (flat_one _) h63a h47a hbs0 ?_)
    intro v1 w2 hown1 hgrow _
    have hb2 : Below w.heap.size w w2 := ((Below.refl _ w).alloc (Nat.le_refl _) _).grown hgrow hbs0 (fun g hg => owns_ge hown0 hg)
    have hown2 : w2.ownsRow w.heap.size 75 2 v1 fs.length (flatF fs) := by rw [hl]; simpa using hown1
    clear hgrow hown1 hown0 hbs0 hv1 hcs hv
    go_wp2
    go_ret
    exact ⟨_, rfl, hown2, hb2⟩

end Go.Proofs.YtdlhicdfldecgaaGreat

namespace Go.Proofs.YtdlhicdfldecgaaGreat
open Go.RowKit
open Go.Lib hiding intOf

/-- The two cells of a field's memory, written. -/
def twoSet (w : World) (r : Nat) (nm vl : ByteArray) : World := (w.setCell ⟨r, 0, none⟩ (.string nm)).setCell ⟨r, 1, none⟩ (.string vl)
theorem twoSet_heap {w : World} {r : Nat} (nm vl : ByteArray) (h : w.heap[r]? = some (.cells #[.string ⟨#[]⟩, .string ⟨#[]⟩] 75)) : (twoSet w r nm vl).heap[r]? = some (.cells #[.string nm, .string vl] 75) := by
  have := heap_set _ r 1 _ _ _ (.string vl) (heap_set w r 0 _ _ _ (.string nm) h)
  simpa [twoSet] using this
end Go.Proofs.YtdlhicdfldecgaaGreat

namespace Go.Proofs.YtdlhicdfldecgaaGreat
open Go.RowKit
open Go.Lib hiding intOf

set_option maxHeartbeats 1000000 in
theorem place_any (v : Value) (n base : Nat) (fs : List (ByteArray × ByteArray)) (name : ByteArray) (w : World) (hv : FieldsV w base v n fs) (hn : n ≤ 1073741824) :
    Calls Tryz.prog 77 #[v, .string name] w fun e w' => e = .returned (.int .i64 (atF fs name : Int)) ∧ w' = w := by
  have hl := hv.len
  obtain ⟨oa, cap, rfl, hrow⟩ := hv.slice
  clear hv
  go_enter Tryz.func77, Tryz.ntmps77
  go_wp2
  go_loop [8] (fun i => ∃ k : Nat, k ≤ n ∧ i = .int .i64 (k : Int) ∧ Hid (∀ j, j < k → nameAt fs j ≠ name)) (fun i => n - (intOf i).toNat)
  case atStart => exact ⟨0, Nat.zero_le _, rfl, fun j h => absurd h (by omega)⟩
  case round =>
    obtain ⟨k, hk, rfl, hb⟩ := hrel
    by_cases hlt : k < n
    · obtain ⟨g, rfl, row⟩ := hrow k hlt
      have hc := row.name k hlt
      have hlt2 : (k : Int) < (n : Int) := by omega
      clear hrow row
      by_cases he : nameAt fs k = name
      · have hT : Hid (atF fs name = k) := atF_uniq (by omega) hb.out he
        have ht : ((nameAt fs k).toList == name.toList) = true := (text_beq _ _).2 he
        clear he
        go_wp2
        go_ret
        exact ⟨by rw [hT.out]; rfl, rfl⟩
      · have ht := text_beq_no he
        have HE : Hid (nameAt fs k ≠ name) := he
        clear he
        go_wp2
        go_round
        case rel =>
          refine ⟨k + 1, by omega, by go_num, ?_⟩
          intro j hj
          by_cases e : j = k
          · subst e; exact HE.out
          · exact hb.out j (by omega)
        case measure => simp [intOf]; omega
    · have hT : Hid (atF fs name = n) := by
        have := atF_none (fs := fs) (name := name) (fun j hj => hb.out j (by omega))
        show _ = _
        omega
      clear hrow
      go_wp2
      go_ret
      exact ⟨by rw [hT.out]; rfl, rfl⟩

set_option maxHeartbeats 1000000 in
theorem newField_any (nm vl : ByteArray) (w : World) (h1 : nm.size ≤ 281474976710656) (h2 : vl.size ≤ 281474976710656) :
    Calls Tryz.prog 82 #[.string nm, .string vl] w fun e w' => e = .returned (.agg #[.string nm, .string vl]) ∧ Below w.heap.size w w' := by
  go_enter Tryz.func82, Tryz.ntmps82
  go_wp2_with fail
  refine (clone_any nm _ h1).mono ?_
  rintro e w1 ⟨rfl, hb1⟩
  go_wp2_with fail
  refine (clone_any vl _ h2).mono ?_
  rintro e w2 ⟨rfl, hb2⟩
  obtain ⟨r, hr⟩ : ∃ r, r = w.heap.size := ⟨_, rfl⟩
  have h0 : (w.alloc (.cells #[.string ⟨#[]⟩, .string ⟨#[]⟩] 75)).heap.size = w.heap.size + 1 := by simp
  have hb : Below w.heap.size w w2 := ((Below.refl _ w).alloc (Nat.le_refl _) _).trans ((hb1.trans (hb2.mono hb1.size)).mono (by omega))
  have hre2 : w2.heap[r]? = some (.cells #[.string ⟨#[]⟩, .string ⟨#[]⟩] 75) := by
    rw [hr, (hb1.trans (hb2.mono hb1.size)).block _ (by omega)]; exact heap_alloc_new w _
  have hc0 : w2.cell? ⟨r, 0, none⟩ = some (.string ⟨#[]⟩) := by simp [World.cell?, hre2]
  have hc1 : w2.cell? ⟨r, 1, none⟩ = some (.string ⟨#[]⟩) := by simp [World.cell?, hre2]
  have hf0 : w2.frozen? ⟨r, 0, none⟩ = false := by simp [World.frozen?, hre2]
  have hf1 : w2.frozen? ⟨r, 1, none⟩ = false := by simp [World.frozen?, hre2]
  have hre3 := twoSet_heap nm vl hre2
  have k0 : (twoSet w2 r nm vl).cell? ⟨r, 0, none⟩ = some (.string nm) := by simp [World.cell?, hre3]
  have k1 : (twoSet w2 r nm vl).cell? ⟨r, 1, none⟩ = some (.string vl) := by simp [World.cell?, hre3]
  have hb3 : Below w.heap.size w (twoSet w2 r nm vl) := (hb.setCell (p := ⟨r, 0, none⟩) (by simp [hr]) _).setCell (p := ⟨r, 1, none⟩) (by simp [hr]) _
  have HB3 : Hid (Below w.heap.size w (twoSet w2 r nm vl)) := hb3
  rw [← hr]
  unfold twoSet at k0 k1
  clear hre3 hre2 hb hb3 hb1 hb2 hr h0
  go_wp2
  exact bodyPost_ret (v := .agg #[.string nm, .string vl]) (by simp [results, Tryz.results82, go_sem, k0, k1]) rfl ⟨rfl, HB3.out⟩

theorem cell_set_other (w : World) (r o g p : Nat) (v : Value) (h : g ≠ r) : (w.setCell ⟨r, o, none⟩ v).cell? ⟨g, p, none⟩ = w.cell? ⟨g, p, none⟩ := by
  unfold World.cell?
  rw [heap_setCell_other _ _ g _ (fun e => h e)]
/-- Every text of the fields is short enough to be copied. -/
def CopyF (fs : List (ByteArray × ByteArray)) : Prop := ∀ i, i < fs.length → (nameAt fs i).size ≤ 281474976710656 ∧ (valAt fs i).size ≤ 281474976710656

set_option maxHeartbeats 1000000 in
theorem copied_any (v : Value) (n base : Nat) (fs : List (ByteArray × ByteArray)) (w : World) (hv : FieldsV w base v n fs) (hn : n ≤ 2000000) (hsz : CopyF fs) :
    Calls Tryz.prog 60 #[v] w fun e w' => RowF fs w e w' := by
  obtain ⟨i0, hi, hz0, hz1, hz2⟩ := info_parts info33
  obtain ⟨M, hM⟩ : ∃ M, M = madeCells (Value.agg #[.string ⟨#[]⟩, .string ⟨#[]⟩]).cells (((n : Nat) : Int).toNat * i0.size) := ⟨_, rfl⟩
  have hmk : ∀ W : World, (Instr.makeSlice 81 (.int .i64 (n : Int)) (.int .i64 (n : Int))).run Tryz.prog W = .ok (.slice (some ⟨W.heap.size, 0, none⟩) n n) (W.alloc (.cells M 75)) := fun W => by
    have h := run_make (P := Tryz.prog) W 81 75 i0 (.agg #[.string ⟨#[]⟩, .string ⟨#[]⟩]) Tryz.underlying81 hi hz0 .i64 .i64 (n : Int) (n : Int) (by omega) (by omega) (by rw [hz2]; omega) (by omega)
    rw [← hM] at h
    simpa using h
  have hMs : M.size = n * 2 := by rw [hM, size_madeCells, hz1]; simp
  have hlen := hv.len
  obtain ⟨oa, cap, rfl, hrow⟩ := hv.slice
  have HROW : Hid (∀ k, k < n → ∃ g, oa = some ⟨g, 0, none⟩ ∧ FieldRow base w g n cap fs) := hrow
  have HSZ : Hid (CopyF fs) := hsz
  clear hM hv hrow hsz
  have HP : Hid (PartRow (w.alloc (.cells M 75)) w.heap.size n 0 fs) := ⟨M, heap_alloc_new w _, hMs, fun i h => absurd h (by omega)⟩
  go_enter Tryz.func60, Tryz.ntmps60
  go_wp2
  go_loopw [10] (fun i wr => ∃ k : Nat, k ≤ n ∧ i = .int .i64 (k : Int) ∧ Hid (PartRow wr w.heap.size n k fs) ∧ Below w.heap.size w wr) (fun i _ => n - (intOf i).toNat)
  case atStart => exact ⟨0, Nat.zero_le _, rfl, HP, (Below.refl _ _).alloc (Nat.le_refl _) _⟩
  case round =>
    obtain ⟨k, hk, rfl, hpr, hbw⟩ := hrel
    by_cases hlt : k < n
    · have hlt2 : (k : Int) < (n : Int) := by omega
      obtain ⟨g, rfl, row⟩ := HROW.out k hlt
      have hrowlt := row.lt
      have HRW : Hid (FieldRow base w g n cap fs) := row
      have row1 := row.below hbw row.lt
      have hc1 := row1.name k hlt
      have hc2 := row1.val k hlt
      obtain ⟨z1, z2⟩ := HSZ.out k (by omega)
      obtain ⟨nm, hnm⟩ : ∃ y, y = nameAt fs k := ⟨_, rfl⟩
      obtain ⟨vl, hvl⟩ : ∃ y, y = valAt fs k := ⟨_, rfl⟩
      rw [← hnm] at hc1 z1
      rw [← hvl] at hc2 z2
      have HNM : Hid (nm = nameAt fs k) := hnm
      have HVL : Hid (vl = valAt fs k) := hvl
      clear hnm hvl row row1
      have hgr : g < w.heap.size := hrowlt
      have HA : Hid (∀ w0 w1, Below wr.heap.size wr w0 → Below w0.heap.size w0 w1 → (w1.cell? ⟨g, k * 2, none⟩ = some (.string nm) ∧ w1.cell? ⟨g, k * 2 + 1, none⟩ = some (.string vl)) ∧ (∃ u, w1.cell? ⟨w.heap.size, k * 2, none⟩ = some u) ∧ (∃ u, w1.cell? ⟨w.heap.size, k * 2 + 1, none⟩ = some u) ∧ w1.frozen? ⟨w.heap.size, k * 2, none⟩ = false ∧ w1.frozen? ⟨w.heap.size, k * 2 + 1, none⟩ = false ∧ Hid (PartRow ((w1.setCell ⟨w.heap.size, k * 2, none⟩ (.string nm)).setCell ⟨w.heap.size, k * 2 + 1, none⟩ (.string vl)) w.heap.size n (k + 1) fs) ∧ Below w.heap.size w w1 ∧ (((w1.setCell ⟨w.heap.size, k * 2, none⟩ (.string nm)).setCell ⟨w.heap.size, k * 2 + 1, none⟩ (.string vl)).cell? ⟨g, k * 2, none⟩ = some (.string nm) ∧ ((w1.setCell ⟨w.heap.size, k * 2, none⟩ (.string nm)).setCell ⟨w.heap.size, k * 2 + 1, none⟩ (.string vl)).cell? ⟨g, k * 2 + 1, none⟩ = some (.string vl))) := fun w0 w1 h h' => by
        have hx := h.trans (h'.mono h.size)
        have hy := hbw.trans (hx.mono hbw.size)
        have row1 := HRW.out.below hy hgr
        have a1 := row1.name k hlt
        have a2 := row1.val k hlt
        rw [← HNM.out] at a1
        rw [← HVL.out] at a2
        have hpr1 := hpr.out.below hx hpr.out.lt
        have hput := hpr1.put hlt
        rw [← HNM.out, ← HVL.out] at hput
        exact ⟨⟨a1, a2⟩, hpr1.cell (k * 2) (by omega), hpr1.cell (k * 2 + 1) (by omega), hpr1.frozen _, hpr1.frozen _, hput, hy, by rw [cell_set_other _ _ _ _ _ _ (by omega), cell_set_other _ _ _ _ _ _ (by omega)]; exact a1, by rw [cell_set_other _ _ _ _ _ _ (by omega), cell_set_other _ _ _ _ _ _ (by omega)]; exact a2⟩
      go_wp2
      go_region_held3 (fun w' => w'.cell? ⟨g, k * 2, none⟩ = some (.string nm) ∧ w'.cell? ⟨g, k * 2 + 1, none⟩ = some (.string vl)) (first | assumption | go_keep) (first | (go_at_call 82; refine (newField_any nm vl _ z1 z2).mono ?_; rintro e w1 ⟨rfl, hb1⟩; obtain ⟨hcc, ⟨u0, hu0⟩, ⟨u1, hu1⟩, f0, f1, HPUT, hb2, hs1, hs2⟩ := HA.out _ w1 ((Below.refl _ wr).drew) hb1))
      go_wp2
      go_roundw
      case rel => exact ⟨k + 1, by omega, by go_num, HPUT, (hb2.setCell (Nat.le_refl _) _).setCell (Nat.le_refl _) _⟩
      case measure => simp [intOf]; omega
    · obtain rfl : k = n := by omega
      go_wp2
      go_ret
      exact ⟨_, rfl, by rw [hlen]; exact hpr.out.owns hlen (by unfold maxLen; omega) (Nat.le_refl _), hbw⟩

set_option maxHeartbeats 1000000 in
theorem implGet_any (v : Value) (n base : Nat) (fs : List (ByteArray × ByteArray)) (name : ByteArray) (w : World) (hv : FieldsV w base v n fs) (hn : n ≤ 1073741824) (hsz : CopyF fs) :
    Calls Tryz.prog 55 #[v, .string name] w fun e w' => e = .returned (.tuple #[.string (getV fs name), .bool (getB fs name)]) ∧ Below w.heap.size w w' := by
  have hl := hv.len
  have hv0 := hv
  obtain ⟨oa, cap, rfl, hrow⟩ := hv0.slice
  clear hv0
  obtain ⟨k, hk⟩ : ∃ k, k = atF fs name := ⟨_, rfl⟩
  have hle := atF_le fs name
  by_cases hin : atF fs name < fs.length
  · have hV : Hid (getV fs name = valAt fs k) := by show _ = _; unfold getV; rw [if_pos hin, hk]
    have hB : Hid (getB fs name = true) := by show _ = _; unfold getB; simpa using hin
    obtain ⟨g, rfl, row⟩ := hrow k (by omega)
    have hc := row.val k (by omega)
    have hlt : (k : Int) < (n : Int) := by omega
    have hne : ((k : Int) == (n : Int)) = false := by rw [beq_eq_false_iff_ne]; omega
    obtain ⟨_, hz⟩ := hsz k (by omega)
    obtain ⟨vl, hvl⟩ : ∃ y, y = valAt fs k := ⟨_, rfl⟩
    rw [← hvl] at hV hc hz
    go_enter Tryz.func55, Tryz.ntmps55
    go_wp2_with fail
    refine (place_any _ n base fs name _ hv hn).mono ?_
    rintro e w1 ⟨rfl, rfl⟩
    rw [← hk]
    clear hv hrow row hk hvl hle hin hsz
    go_wp2_with fail
    refine (clone_any vl _ hz).mono ?_
    rintro e w2 ⟨rfl, hb2⟩
    go_wp2
    go_ret2
    exact ⟨by rw [hV.out, hB.out]; rfl, hb2⟩
  · have hV : Hid (getV fs name = ⟨#[]⟩) := by show _ = _; unfold getV; rw [if_neg hin]
    have hB : Hid (getB fs name = false) := by show _ = _; unfold getB; simpa using hin
    have hkn : k = n := by omega
    go_enter Tryz.func55, Tryz.ntmps55
    go_wp2_with fail
    refine (place_any _ n base fs name _ hv hn).mono ?_
    rintro e w1 ⟨rfl, rfl⟩
    rw [← hk, hkn]
    clear hv hrow hk hle hin hsz hkn
    go_wp2
    go_ret2
    exact ⟨by rw [hV.out, hB.out]; rfl, Below.refl _ _⟩

end Go.Proofs.YtdlhicdfldecgaaGreat
