/- What the proof of FnAnswered leans on: contracts of the program's and the specification's functions, and plain facts (part 2 of 9). -/
import Derived.Test.YtmcmeeibogkpaaaGreatDoorRFnAnsweredA
set_option maxHeartbeats 16000000
set_option maxRecDepth 100000
namespace Go.Proofs.YtmcmeeibogkpaaaGreatDoorR
open Go.RowKit
open Go.Lib hiding intOf
attribute [local go_sem ↓] Go.wp_at_zero Go.wp_at_succ
theorem info33 : (Tryz.prog.info? 74).map (fun i => (i.zero, i.size, i.bytes)) = some (some (.agg #[.string ⟨#[]⟩, .string ⟨#[]⟩]), 2, 32) := by kernel_rfl
theorem heap_set (w : World) (c o : Nat) (cs : Array Value) (t : TypeId) (fz : Nat × Nat) (v : Value) (h : w.heap[c]? = some (.cells cs t fz)) : (w.setCell ⟨c, o, none⟩ v).heap[c]? = some (.cells (cs.setIfInBounds o v) t fz) := by
 simp [World.setCell, Array.getElem?_modify, h]
/-- The first k fields of a row of 2 n cells are told. -/
def PartRow (w : World) (g n k : Nat) (fs : List (ByteArray × ByteArray)) : Prop :=
 ∃ cur, w.heap[g]? = some (.cells cur 74 (0, 0)) ∧ cur.size = n * 2 ∧ ∀ i, i < k → cur[i * 2]? = some (.string (nameAt fs i)) ∧ cur[i * 2 + 1]? = some (.string (valAt fs i))
theorem PartRow.below {w w' : World} {g n k B : Nat} {fs : List (ByteArray × ByteArray)} (h : PartRow w g n k fs) (hb : Below B w w') (hB : g < B) : PartRow w' g n k fs := by
 obtain ⟨cur, h1, h2⟩ := h
 exact ⟨cur, by rw [hb.block g hB]; exact h1, h2⟩
theorem PartRow.lt {w : World} {g n k : Nat} {fs : List (ByteArray × ByteArray)} (h : PartRow w g n k fs) : g < w.heap.size := by
 obtain ⟨cur, h1, _⟩ := h
 exact (Array.getElem?_eq_some_iff.1 h1).1
theorem PartRow.cell {w : World} {g n k : Nat} {fs : List (ByteArray × ByteArray)} (h : PartRow w g n k fs) (j : Nat) (hj : j < n * 2) : ∃ u, w.cell? ⟨g, j, none⟩ = some u := by
 obtain ⟨cur, h1, h2, _⟩ := h
 refine ⟨cur[j]'(by omega), ?_⟩
 simp only [World.cell?, h1]
 simp [show j < cur.size by omega]
theorem PartRow.frozen {w : World} {g n k : Nat} {fs : List (ByteArray × ByteArray)} (h : PartRow w g n k fs) (j : Nat) : w.frozen? ⟨g, j, none⟩ = false := by
 obtain ⟨cur, h1, _⟩ := h
 simp [World.frozen?, h1]
theorem PartRow.put {w : World} {g n k : Nat} {fs : List (ByteArray × ByteArray)} (h : PartRow w g n k fs) (hk : k < n) : PartRow ((w.setCell ⟨g, k * 2, none⟩ (.string (nameAt fs k))).setCell ⟨g, k * 2 + 1, none⟩ (.string (valAt fs k))) g n (k + 1) fs := by
 obtain ⟨cur, h1, h2, h3⟩ := h
 refine ⟨_, heap_set _ g (k * 2 + 1) _ _ _ _ (heap_set w g (k * 2) _ _ _ _ h1), by simpa using h2, ?_⟩
 intro i hi
 by_cases e : i = k
 ·
  subst e
  refine ⟨?_, ?_⟩
  · rw [Array.getElem?_setIfInBounds_ne (by omega), Array.getElem?_setIfInBounds_self_of_lt (by omega)]
  · rw [Array.getElem?_setIfInBounds_self_of_lt (by simp; omega)]
 ·
  have := h3 i (by omega)
  refine ⟨?_, ?_⟩
  · rw [Array.getElem?_setIfInBounds_ne (by omega), Array.getElem?_setIfInBounds_ne (by omega)]; exact this.1
  · rw [Array.getElem?_setIfInBounds_ne (by omega), Array.getElem?_setIfInBounds_ne (by omega)]; exact this.2
theorem PartRow.owns {w : World} {g n : Nat} {fs : List (ByteArray × ByteArray)} (h : PartRow w g n n fs) (hl : fs.length = n) (hm : n ≤ maxLen) {base : Nat} (hb : base ≤ g) : w.ownsRow base 74 2 (.slice (some ⟨g, 0, none⟩) n n) n (flatF fs) :=
 FieldRow.owns ⟨hl, hb, h.lt, Nat.le_refl _, hm, h⟩
theorem nameAt_set (fs : List (ByteArray × ByteArray)) (k j : Nat) (p : ByteArray × ByteArray) (hk : k < fs.length) : nameAt (fs.set k p) j = (if j = k then p.1 else nameAt fs j) ∧ valAt (fs.set k p) j = (if j = k then p.2 else valAt fs j) := by
 unfold nameAt valAt
 rw [List.getD_eq_getElem?_getD, List.getD_eq_getElem?_getD]
 by_cases e : j = k
 ·
  subst e
  rw [if_pos rfl, if_pos rfl, List.getElem?_set_self (by omega)]
  exact ⟨rfl, rfl⟩
 ·
  rw [if_neg e, if_neg e, List.getElem?_set_ne (by omega)]
  exact ⟨rfl, rfl⟩
/-- One field of a row stored anew. -/
theorem FieldRow.set {base : Nat} {w : World} {g n cap : Nat} {fs : List (ByteArray × ByteArray)} (h : FieldRow base w g n cap fs) (k : Nat) (hk : k < n) (a b : ByteArray) (W : World) (hW : W.heap[g]? = ((w.setCell ⟨g, k * 2, none⟩ (.string a)).setCell ⟨g, k * 2 + 1, none⟩ (.string b)).heap[g]?) (hsz : w.heap.size ≤ W.heap.size) : FieldRow base W g n cap (fs.set k (a, b)) := by
 have hl := h.len; have hle := h.le
 obtain ⟨cur, h1, h2, h3⟩ := h.heap
 have hlt := h.lt
 refine ⟨by simp [hl], h.base, by omega, h.le, h.mx, (cur.setIfInBounds (k * 2) (.string a)).setIfInBounds (k * 2 + 1) (.string b), ?_, by simpa using h2, ?_⟩
 · rw [hW]; exact heap_set _ g (k * 2 + 1) _ _ _ _ (heap_set w g (k * 2) _ _ _ _ h1)
 ·
  intro i hi
  have hs := nameAt_set fs k i (a, b) (by omega)
  rw [hs.1, hs.2]
  by_cases e : i = k
  ·
   subst e
   rw [if_pos rfl, if_pos rfl]
   refine ⟨?_, ?_⟩
   · rw [Array.getElem?_setIfInBounds_ne (by omega), Array.getElem?_setIfInBounds_self_of_lt (by omega)]
   · rw [Array.getElem?_setIfInBounds_self_of_lt (by simp; omega)]
  ·
   rw [if_neg e, if_neg e]
   have := h3 i hi
   refine ⟨?_, ?_⟩
   · rw [Array.getElem?_setIfInBounds_ne (by omega), Array.getElem?_setIfInBounds_ne (by omega)]; exact this.1
   · rw [Array.getElem?_setIfInBounds_ne (by omega), Array.getElem?_setIfInBounds_ne (by omega)]; exact this.2
end Go.Proofs.YtmcmeeibogkpaaaGreatDoorR
namespace Go.Proofs.YtmcmeeibogkpaaaGreatDoorR
open Go.RowKit
open Go.Lib hiding intOf
theorem l3Path_any (s : ByteArray) (w : World) (hs : s.size ≤ maxLen) :
    Calls Tryz.prog 59 #[.string s] w fun e w' => BoolIs (PathOk s) w e w' := by
  unfold maxLen at hs
  go_enter Tryz.func59, Tryz.ntmps59
  go_wp2
  go_loop [3] (fun i => ∃ k : Nat, k ≤ s.size ∧ i = .int .i64 k ∧ Hid (AllTo PathB s k)) (fun i => s.size - (intOf i).toNat)
  case atStart => exact ⟨0, Nat.zero_le _, rfl, allTo_zero _ _⟩
  case round =>
    obtain ⟨k, hk, rfl, hall⟩ := hrel
    by_cases hlt : k < s.size
    · go_wp2
      all_goals first
        | (go_ret
           have hno : ¬ PathB ((s[k]'hlt).toNat : Int) := by
             unfold PathB
             omega
           exact BoolIs.no (fun h => hno (h.1 k hlt)) (Below.refl _ _))
        | (go_round
           case rel =>
             have hy : PathB ((s[k]'hlt).toNat : Int) := by
               unfold PathB
               omega
             exact ⟨k + 1, by omega, by go_num, allTo_succ hall.out hlt hy⟩
           case measure => simp [intOf]; omega)
    · have hend : Hid (AllB PathB s) := allTo_end hall.out hlt
      by_cases h1 : (1 : Int) ≤ (s.size : Int)
      · have h0 : 0 < s.size := by omega
        by_cases h2 : (s.size : Int) ≤ 60
        · by_cases h3 : ((s[0]'h0).toNat : Int) = 47
          · go_wp2
            go_ret
            exact BoolIs.yes ⟨hend.out, by omega, by omega, h0, by omega⟩ (Below.refl _ _)
          · have h4 : (((s[0]'h0).toNat : Int) == 47) = false := by rw [beq_eq_false_iff_ne]; exact h3
            go_wp2
            go_ret
            exact BoolIs.no (fun h => by obtain ⟨_, _, _, _, h5⟩ := h; omega) (Below.refl _ _)
        · go_wp2
          go_ret
          exact BoolIs.no (fun h => by obtain ⟨_, _, h5, _⟩ := h; omega) (Below.refl _ _)
      · go_wp2
        go_ret
        exact BoolIs.no (fun h => by obtain ⟨_, h5, _⟩ := h; omega) (Below.refl _ _)
/-- Texts short enough for any walk. -/
def WalkF (n : Nat) (fs : List (ByteArray × ByteArray)) : Prop := ∀ i, i < n → (nameAt fs i).size ≤ maxLen ∧ (valAt fs i).size ≤ maxLen
/-- A block that was laid last stands behind every call that keeps what was there. -/
theorem kept_new {w W : World} {o : Obj} (h : Below (w.alloc o).heap.size (w.alloc o) W) : W.heap[w.heap.size]? = some o := by
 rw [h.block _ (by simp)]; exact heap_alloc_new w _
theorem below_new {w W : World} {o : Obj} (h : Below (w.alloc o).heap.size (w.alloc o) W) : Below w.heap.size w W :=
 ((Below.refl _ w).alloc (Nat.le_refl _) o).trans (h.mono (by simp))
theorem l1In_any (x lo hi : Int) (w : World) :
  Calls Tryz.prog 60 #[.int .i64 x, .int .i64 lo, .int .i64 hi] w fun e w' => e = .returned (.bool (decide (lo ≤ x ∧ x ≤ hi))) ∧ w' = w := by
 by_cases h1 : lo ≤ x
 ·
  by_cases h2 : x ≤ hi
  ·
   go_enter Tryz.func60, Tryz.ntmps60
   go_wp2
   go_ret
   exact ⟨by simp [h1, h2], rfl⟩
  ·
   go_enter Tryz.func60, Tryz.ntmps60
   go_wp2
   go_ret
   exact ⟨by simp [h2], rfl⟩
 ·
  go_enter Tryz.func60, Tryz.ntmps60
  go_wp2
  go_ret
  exact ⟨by simp; omega, rfl⟩
theorem specReqOk_any (m : Int) (p : ByteArray) (v : Value) (b : ByteArray) (n base : Nat) (fs : List (ByteArray × ByteArray)) (w : World) (hv : FieldsV w base v n fs) (hn : n ≤ 1073741824) (hsz : WalkF n fs) (hp : p.size ≤ maxLen) (hb : b.size ≤ maxLen) :
  Calls Tryz.prog 54 #[.agg #[.int .i64 m, .string p, v, .string b]] w fun e w' => BoolIs (ReqP m p fs b) w e w' := by
 obtain ⟨oa, cap, rfl, _⟩ := hv.slice
 obtain ⟨r, hr⟩ := exq (w.heap.size)
 have HR : Hid (∀ W, Below (w.alloc (.cells #[.int .i64 m, .string p, .slice oa n cap, .string b] 26)).heap.size (w.alloc (.cells #[.int .i64 m, .string p, .slice oa n cap, .string b] 26)) W → (W.cell? ⟨r, 1, none⟩ = some (.string p) ∧ W.cell? ⟨r, 2, none⟩ = some (.slice oa n cap) ∧ W.cell? ⟨r, 3, none⟩ = some (.string b)) ∧ FieldsV W base (.slice oa n cap) n fs ∧ Below w.heap.size w W) := fun W h => by
  have hh := kept_new h
  rw [← hr] at hh
  exact ⟨⟨by simp [World.cell?, hh], by simp [World.cell?, hh], by simp [World.cell?, hh]⟩, hv.below (below_new h), below_new h⟩
 have HSZ : Hid (WalkF n fs) := hsz
 have HP : Hid (p.size ≤ maxLen) := hp
 unfold maxLen at hb
 clear hv hsz hp
 go_enter Tryz.func54, Tryz.ntmps54
 go_wp2_with fail
 refine (l1In_any m 1 4 _).mono ?_
 rintro e w1 ⟨rfl, hw1⟩
 have hb1 : Below (w.alloc (.cells #[.int .i64 m, .string p, .slice oa n cap, .string b] 26)).heap.size (w.alloc (.cells #[.int .i64 m, .string p, .slice oa n cap, .string b] 26)) w1 := by rw [hw1]; exact Below.refl _ _
 clear hw1
 rw [← hr]
 obtain ⟨⟨c1, c2, c3⟩, _, hbw1⟩ := HR.out w1 hb1
 by_cases hm : 1 ≤ m ∧ m ≤ 4
 ·
  have e1 : decide (1 ≤ m ∧ m ≤ 4) = true := by simpa using hm
  have HM : Hid (1 ≤ m ∧ m ≤ 4) := hm
  rw [e1]
  clear hr hm e1
  go_wp2_with fail
  refine (l3Path_any p _ HP.out).mono ?_
  rintro e w2 ⟨b1, rfl, kb1, bb2⟩
  have hb2 := hb1.trans (bb2.mono hb1.size)
  clear c1 c2 c3 bb2 hb1 hbw1
  obtain ⟨⟨c1, c2, c3⟩, hv2, hbw2⟩ := HR.out w2 hb2
  have HV2 : Hid (FieldsV w2 base (.slice oa n cap) n fs) := hv2
  clear hv2
  cases b1
  ·
   have HF : Hid (¬ ReqP m p fs b) := fun h => by have := kb1.2 h.2.1; cases this
   clear kb1
   go_wp2_with fail
   go_ret
   exact BoolIs.no HF.out hbw2
  ·
   have HT : Hid (PathOk p) := kb1.1 rfl
   clear kb1
   go_wp2_with fail
   refine (specFieldsOk_any _ n base fs _ HV2.out hn HSZ.out).mono ?_
   rintro e w3 ⟨b2, rfl, kb2, bb3⟩
   have hb3 := hb2.trans (bb3.mono hb2.size)
   clear c1 c2 c3 bb3 hb2 hbw2
   obtain ⟨⟨c1, c2, c3⟩, _, hbw3⟩ := HR.out w3 hb3
   cases b2
   ·
    have HF : Hid (¬ ReqP m p fs b) := fun h => by have := kb2.2 h.2.2.1; cases this
    clear kb2
    go_wp2_with fail
    go_ret
    exact BoolIs.no HF.out hbw3
   ·
    have HT2 : Hid (FldsOk fs) := kb2.1 rfl
    clear kb2
    by_cases h120 : (b.size : Int) ≤ 120
    ·
     have HY : Hid (ReqP m p fs b) := ⟨HM.out, HT.out, HT2.out, by omega⟩
     go_wp2_with fail
     go_ret
     exact BoolIs.yes HY.out hbw3
    ·
     have HF : Hid (¬ ReqP m p fs b) := fun h => by have := h.2.2.2; omega
     have hd : decide ((b.size : Int) ≤ 120) = false := by simpa using h120
     go_wp2_with fail
     go_ret
     exact BoolIs.no HF.out hbw3
 ·
  have e1 : decide (1 ≤ m ∧ m ≤ 4) = false := by simpa using hm
  have HF : Hid (¬ ReqP m p fs b) := fun h => hm h.1
  rw [e1]
  clear hr hm e1
  go_wp2_with fail
  go_ret
  exact BoolIs.no HF.out hbw1
theorem specRespOk_any (st : Int) (v : Value) (b : ByteArray) (n base : Nat) (fs : List (ByteArray × ByteArray)) (w : World) (hv : FieldsV w base v n fs) (hn : n ≤ 1073741824) (hsz : WalkF n fs) (hb : b.size ≤ maxLen) :
  Calls Tryz.prog 41 #[.agg #[.int .i64 st, v, .string b]] w fun e w' => BoolIs (RespP st fs b) w e w' := by
 obtain ⟨oa, cap, rfl, _⟩ := hv.slice
 obtain ⟨r, hr⟩ := exq (w.heap.size)
 have HR : Hid (∀ W, Below (w.alloc (.cells #[.int .i64 st, .slice oa n cap, .string b] 29)).heap.size (w.alloc (.cells #[.int .i64 st, .slice oa n cap, .string b] 29)) W → (W.cell? ⟨r, 1, none⟩ = some (.slice oa n cap) ∧ W.cell? ⟨r, 2, none⟩ = some (.string b)) ∧ FieldsV W base (.slice oa n cap) n fs ∧ Below w.heap.size w W) := fun W h => by
  have hh := kept_new h
  rw [← hr] at hh
  exact ⟨⟨by simp [World.cell?, hh], by simp [World.cell?, hh]⟩, hv.below (below_new h), below_new h⟩
 have HSZ : Hid (WalkF n fs) := hsz
 unfold maxLen at hb
 clear hv hsz
 go_enter Tryz.func41, Tryz.ntmps41
 go_wp2_with fail
 refine (l1In_any st 100 599 _).mono ?_
 rintro e w1 ⟨rfl, hw1⟩
 have hb1 : Below (w.alloc (.cells #[.int .i64 st, .slice oa n cap, .string b] 29)).heap.size (w.alloc (.cells #[.int .i64 st, .slice oa n cap, .string b] 29)) w1 := by rw [hw1]; exact Below.refl _ _
 clear hw1
 rw [← hr]
 obtain ⟨⟨c2, c3⟩, hv1, hbw1⟩ := HR.out w1 hb1
 have HV1 : Hid (FieldsV w1 base (.slice oa n cap) n fs) := hv1
 clear hv1
 by_cases hm : 100 ≤ st ∧ st ≤ 599
 ·
  have e1 : decide (100 ≤ st ∧ st ≤ 599) = true := by simpa using hm
  have HM : Hid (100 ≤ st ∧ st ≤ 599) := hm
  rw [e1]
  clear hr hm e1
  go_wp2_with fail
  refine (specFieldsOk_any _ n base fs _ HV1.out hn HSZ.out).mono ?_
  rintro e w3 ⟨b2, rfl, kb2, bb3⟩
  have hb3 := hb1.trans (bb3.mono hb1.size)
  clear c2 c3 bb3 hb1 hbw1
  obtain ⟨⟨c2, c3⟩, _, hbw3⟩ := HR.out w3 hb3
  cases b2
  ·
   have HF : Hid (¬ RespP st fs b) := fun h => by have := kb2.2 h.2.1; cases this
   clear kb2
   go_wp2_with fail
   go_ret
   exact BoolIs.no HF.out hbw3
  ·
   have HT2 : Hid (FldsOk fs) := kb2.1 rfl
   clear kb2
   by_cases h120 : (b.size : Int) ≤ 120
   ·
    have HY : Hid (RespP st fs b) := ⟨HM.out, HT2.out, by omega⟩
    go_wp2_with fail
    go_ret
    exact BoolIs.yes HY.out hbw3
   ·
    have HF : Hid (¬ RespP st fs b) := fun h => by have := h.2.2; omega
    have hd : decide ((b.size : Int) ≤ 120) = false := by simpa using h120
    go_wp2_with fail
    go_ret
    exact BoolIs.no HF.out hbw3
 ·
  have e1 : decide (100 ≤ st ∧ st ≤ 599) = false := by simpa using hm
  have HF : Hid (¬ RespP st fs b) := fun h => hm h.1
  rw [e1]
  clear hr hm e1
  go_wp2_with fail
  go_ret
  exact BoolIs.no HF.out hbw1
end Go.Proofs.YtmcmeeibogkpaaaGreatDoorR
namespace Go.Proofs.YtmcmeeibogkpaaaGreatDoorR
open Go.RowKit
open Go.Lib hiding intOf
theorem methB_size (m : Int) : (methB m).size ≤ 5 := by
 unfold methB
 split
 · decide
 ·
  split
  · decide
  ·
   split
   · decide
   · split <;> decide
theorem ft_small {fs : List (ByteArray × ByteArray)} (h : FldsOk fs) : (fieldsText fs).size ≤ 672 := by
 have h1 : ∀ k, k ≤ fs.length → (ftTo fs k).size ≤ 84 * k := by
  intro k
  induction k with
  | zero => intro _; exact Nat.le_refl _
  | succ k ih =>
   intro hk
   have h2 := h.2 k (by omega)
   have h3 := h2.1.2.1
   have h4 := h2.2.1.2.1
   have := ih (by omega)
   rw [ftTo_size]; omega
 have := h1 fs.length (Nat.le_refl _)
 have := h.1
 unfold fieldsText; omega
theorem dgF_len : ∀ (f n : Nat), (dgF f n).length ≤ f
 | 0, n => by simp [dgF]
 | f + 1, n => by
  by_cases h : n = 0
  · rw [h, dgF_zero]; simp
  ·
   rw [dgF_pos f n h]
   have := dgF_len f (n / 10)
   simp; omega
theorem numText_size (n : Nat) : (numText n).size ≤ 8 := by
 have : (numText n).size = (numL n).length := by simp [numText, ByteArray.size]
 rw [this]
 unfold numL
 split
 · simp
 ·
  split
  · simp
  · exact dgF_len 8 n
theorem empty_text {b : ByteArray} (h : b.size = 0) : b = ⟨#[]⟩ := by
 apply ByteArray.ext
 exact Array.eq_empty_of_size_eq_zero h
/-- A call answers the text of what is right, nothing else of what is not. -/
def TextOf (p : Prop) (t : ByteArray) (w : World) (e : Ending) (w' : World) : Prop := ∃ u : ByteArray, e = .returned (.string u) ∧ (p → u = t) ∧ (¬ p → u = ⟨#[]⟩) ∧ Below w.heap.size w w'
theorem specRespText_any (st : Int) (v : Value) (b : ByteArray) (n base : Nat) (fs : List (ByteArray × ByteArray)) (w : World) (hv : FieldsV w base v n fs) (hn : n ≤ 1073741824) (hsz : WalkF n fs) (hb : b.size ≤ maxLen) :
  Calls Tryz.prog 9 #[.agg #[.int .i64 st, v, .string b]] w fun e w' => TextOf (RespP st fs b) (respT st fs b) w e w' := by
 obtain ⟨oa, cap, rfl, _⟩ := hv.slice
 obtain ⟨r, hr⟩ := exq (w.heap.size)
 have HR : Hid (∀ W, Below (w.alloc (.cells #[.int .i64 st, .slice oa n cap, .string b] 29)).heap.size (w.alloc (.cells #[.int .i64 st, .slice oa n cap, .string b] 29)) W → (W.cell? ⟨r, 0, none⟩ = some (.int .i64 st) ∧ W.cell? ⟨r, 1, none⟩ = some (.slice oa n cap) ∧ W.cell? ⟨r, 2, none⟩ = some (.string b)) ∧ FieldsV W base (.slice oa n cap) n fs ∧ Below w.heap.size w W) := fun W h => by
  have hh := kept_new h
  rw [← hr] at hh
  exact ⟨⟨by simp [World.cell?, hh], by simp [World.cell?, hh], by simp [World.cell?, hh]⟩, hv.below (below_new h), below_new h⟩
 obtain ⟨_, hv0, _⟩ := HR.out _ (Below.refl _ _)
 go_enter Tryz.func9, Tryz.ntmps9
 go_wp2_with fail
 refine (specRespOk_any st _ b n base fs _ hv0 hn hsz hb).mono ?_
 rintro e w1 ⟨b1, rfl, kb1, bb1⟩
 rw [← hr]
 obtain ⟨⟨c0, c1, c2⟩, hv1, hbw1⟩ := HR.out w1 bb1
 clear hv hv0 hsz hb
 cases b1
 ·
  have HF : Hid (¬ RespP st fs b) := fun h => by have := kb1.2 h; cases this
  clear kb1 hv1 bb1 hr
  go_wp2_with fail
  go_ret
  exact ⟨_, rfl, fun h => absurd h HF.out, fun _ => rfl, hbw1⟩
 ·
  have HY : Hid (RespP st fs b) := kb1.1 rfl
  obtain ⟨k, rfl⟩ : ∃ k : Nat, st = (k : Int) := ⟨st.toNat, by have := HY.out.1; omega⟩
  have hk5 : k ≤ 599 := by have := HY.out.1; omega
  have hbs : b.size ≤ 120 := HY.out.2.2
  obtain ⟨nk, hnk⟩ := exq (numText k)
  have hns1 := numText_size k
  rw [← hnk] at hns1
  obtain ⟨nt, hnt⟩ := exq (numText b.size)
  have hns2 := numText_size b.size
  rw [← hnt] at hns2
  obtain ⟨ft, hft⟩ := exq (fieldsText fs)
  have hfs := ft_small HY.out.2.1
  rw [← hft] at hfs
  have HT : Hid ((fieldsText fs).size ≤ 1099511627776) := by show _ ≤ _; rw [← hft]; omega
  have HFT : Hid (fieldsText fs = ft) := hft.symm
  have HNK : Hid (numText k = nk) := hnk.symm
  have HNT : Hid (numText b.size = nt) := hnt.symm
  have HE : Hid (⟨#[72, 84, 84, 80, 47, 49, 46, 49, 32]⟩ ++ nk ++ ⟨#[32, 46, 13, 10]⟩ ++ ft ++ ⟨#[99, 111, 110, 116, 101, 110, 116, 45, 108, 101, 110, 103, 116, 104, 58, 32]⟩ ++ nt ++ ⟨#[13, 10, 13, 10]⟩ ++ b = respT (k : Int) fs b) := by
   show _ = _
   unfold respT
   rw [HFT.out, HNT.out, show ((k : Int)).toNat = k by omega, HNK.out]; rfl
  clear kb1 hr hv1 hnk hnt hft
  have e1 : (⟨#[72, 84, 84, 80, 47, 49, 46, 49, 32]⟩ : ByteArray).size = 9 := rfl
  have e2 : (⟨#[32, 46, 13, 10]⟩ : ByteArray).size = 4 := rfl
  have e3 : (⟨#[99, 111, 110, 116, 101, 110, 116, 45, 108, 101, 110, 103, 116, 104, 58, 32]⟩ : ByteArray).size = 16 := rfl
  have e4 : (⟨#[13, 10, 13, 10]⟩ : ByteArray).size = 4 := rfl
  have q1 : ¬ 9223372036854775807 < 9 + nk.size := by omega
  have q2 : ¬ 9223372036854775807 < 9 + nk.size + 4 := by omega
  have q3 : ¬ 9223372036854775807 < 9 + nk.size + 4 + ft.size := by omega
  have q4 : ¬ 9223372036854775807 < 9 + nk.size + 4 + ft.size + 16 := by omega
  have q5 : ¬ 9223372036854775807 < 9 + nk.size + 4 + ft.size + 16 + nt.size := by omega
  have q6 : ¬ 9223372036854775807 < 9 + nk.size + 4 + ft.size + 16 + nt.size + 4 := by omega
  have q7 : ¬ 9223372036854775807 < 9 + nk.size + 4 + ft.size + 16 + nt.size + 4 + b.size := by omega
  have HA : Hid (∀ w2 w3, Hid (Below (w.alloc (.cells #[.int .i64 (k : Int), .slice oa n cap, .string b] 29)).heap.size (w.alloc (.cells #[.int .i64 (k : Int), .slice oa n cap, .string b] 29)) w2) → Below w2.heap.size w2 w3 → (w3.cell? ⟨r, 0, none⟩ = some (.int .i64 (k : Int)) ∧ w3.cell? ⟨r, 1, none⟩ = some (.slice oa n cap) ∧ w3.cell? ⟨r, 2, none⟩ = some (.string b)) ∧ FieldsV w3 base (.slice oa n cap) n fs ∧ Hid (Below (w.alloc (.cells #[.int .i64 (k : Int), .slice oa n cap, .string b] 29)).heap.size (w.alloc (.cells #[.int .i64 (k : Int), .slice oa n cap, .string b] 29)) w3) ∧ Below w.heap.size w w3) := fun w2 w3 h2 h => by
   have hb3 := h2.out.trans (h.mono h2.out.size)
   obtain ⟨h5, h6, h7⟩ := HR.out w3 hb3
   exact ⟨h5, h6, hb3, h7⟩
  have HB1 : Hid (Below (w.alloc (.cells #[.int .i64 (k : Int), .slice oa n cap, .string b] 29)).heap.size (w.alloc (.cells #[.int .i64 (k : Int), .slice oa n cap, .string b] 29)) w1.drew) := bb1.drew
  clear bb1 hbw1
  go_wp2_with fail
  go_region_held3 (fun W => W.cell? ⟨r, 0, none⟩ = some (.int .i64 (k : Int)) ∧ W.cell? ⟨r, 1, none⟩ = some (.slice oa n cap) ∧ W.cell? ⟨r, 2, none⟩ = some (.string b)) (first | assumption | go_keep) (first | (go_at_call 43; refine (specFieldsText_any _ n base fs _ (by assumption) hn HT.out).mono ?_; rintro e w3 ⟨rfl, bb3⟩; rw [HFT.out]; obtain ⟨hS3, hv3, HB3, hbw3⟩ := HA.out w2 w3 HB2 bb3) | (go_at_call_of 42 (Value.int .i64 (k : Int)); refine (specNumText_any k _ (by omega)).mono ?_; rintro e w2 ⟨rfl, bb2⟩; rw [HNK.out]; obtain ⟨hS2, hv2, HB2, hbw2⟩ := HA.out _ w2 HB1 bb2) | (go_at_call_of 42 (Value.int .i64 (b.size : Int)); refine (specNumText_any b.size _ (by omega)).mono ?_; rintro e w4 ⟨rfl, bb4⟩; rw [HNT.out]; obtain ⟨hS4, hv4, HB4, hbw4⟩ := HA.out w3 w4 HB3 bb4))
  go_wp2_with fail
  go_ret
  exact ⟨_, rfl, fun _ => HE.out, fun h => absurd HY.out h, hbw4⟩
end Go.Proofs.YtmcmeeibogkpaaaGreatDoorR
namespace Go.Proofs.YtmcmeeibogkpaaaGreatDoorR
open Go.RowKit
theorem bs_extract (s : ByteArray) (f j : Nat) : bs (s.extract f j) = ((bs s).take j).drop f := by
 simp [bs, List.drop_take]
end Go.Proofs.YtmcmeeibogkpaaaGreatDoorR
namespace Go.Proofs.YtmcmeeibogkpaaaGreatDoorR
open Go.RowKit
open Go.Lib hiding intOf
theorem flatF_append (a b : List (ByteArray × ByteArray)) : flatF (a ++ b) = flatF a ++ flatF b := by simp [flatF]
theorem flatF_one (nm vl : ByteArray) : flatF [(nm, vl)] = [.string nm, .string vl] := rfl
theorem two_text (a b : ByteArray) : ∀ u ∈ [Value.string a, Value.string b], u.oneCell' = true := by
 intro u hu
 simp at hu
 rcases hu with rfl | rfl <;> rfl
/-- The first k fields without the one at that place. -/
def dropTo (fs : List (ByteArray × ByteArray)) (p : Int) : Nat → List (ByteArray × ByteArray)
 | 0 => []
 | k + 1 => if (k : Int) = p then dropTo fs p k else dropTo fs p k ++ [(nameAt fs k, valAt fs k)]
def dropF (fs : List (ByteArray × ByteArray)) (name : ByteArray) : List (ByteArray × ByteArray) := dropTo fs (atI fs name) fs.length
/-- A call answers a list of these fields in memory of its own, and turns nothing that was there. -/
def RowF (fs : List (ByteArray × ByteArray)) (w : World) (e : Ending) (w' : World) : Prop :=
 ∃ v, e = .returned v ∧ w'.ownsRow w.heap.size 74 2 v fs.length (flatF fs) ∧ Below w.heap.size w w'
theorem specDrop_any (v : Value) (n base : Nat) (fs : List (ByteArray × ByteArray)) (name : ByteArray) (w : World) (hv : FieldsV w base v n fs) (hn : n ≤ 2000000) :
  Calls Tryz.prog 123 #[v, .string name] w fun e w' => RowF (dropF fs name) w e w' := by
 obtain ⟨i0, hi, hz0, hz1, hz2⟩ := info_parts info33
 have hl := hv.len
 obtain ⟨p, hp⟩ := exq (atI fs name)
 have hDF : Hid (dropF fs name = dropTo fs p n) := by show _ = _; unfold dropF; rw [← hp, hl]
 go_enter Tryz.func123, Tryz.ntmps123
 go_wp2_with fail
 refine (l2At_any v n base fs name _ hv (by omega)).mono ?_
 rintro e w1 ⟨rfl, rfl⟩
 rw [← hp]
 clear hp
 have hv0 := hv
 rcases hv0 with ⟨oa, ca, rfl, _, rfl, rfl⟩ | ⟨g, cap, rfl, hp0, row⟩
 ·
  have hT : Hid (dropTo [] p 0 = []) := rfl
  clear hv
  go_wp2
  refine wp_loop_rounds 1 ?_
  rw [rounds_succ]
  go_wp2
  go_ret
  refine ⟨_, rfl, ?_, (Below.refl _ _).alloc (Nat.le_refl _) _⟩
  rw [hDF.out, hT.out]
  exact ⟨rfl, .inr ⟨w1.heap.size, 0, #[], rfl, Nat.le_refl _, heap_alloc_new w1 _, Nat.le_refl _, Nat.zero_le _, rfl, rfl⟩⟩
 ·
  clear hv
  go_wp2
  go_loopw [6, 7] (fun o i wr => ∃ k m : Nat, k ≤ n ∧ m ≤ k ∧ i = .int .i64 (k : Int) ∧ Hid (m = (dropTo fs p k).length) ∧ wr.ownsRow w1.heap.size 74 2 o m (flatF (dropTo fs p k)) ∧ Below w1.heap.size w1 wr) (fun _ i _ => n - (intOf i).toNat)
  case atStart => exact ⟨0, 0, Nat.zero_le _, Nat.le_refl _, rfl, rfl, ⟨rfl, .inr ⟨w1.heap.size, 0, #[], rfl, Nat.le_refl _, heap_alloc_new w1 _, Nat.le_refl _, Nat.zero_le _, rfl, rfl⟩⟩, (Below.refl _ _).alloc (Nat.le_refl _) _⟩
  case round =>
   obtain ⟨k, m, hk, hmk, rfl, hm, hown, hbw⟩ := hrel
   by_cases hlt : k < n
   ·
    have hlt2 : (k : Int) < (n : Int) := by omega
    by_cases hkp : (k : Int) = p
    ·
     have hne : ((k : Int) != p) = false := by rw [bne_eq_false_iff_eq]; exact hkp
     have HD : Hid (dropTo fs p (k + 1) = dropTo fs p k) := by show _ = _; rw [dropTo, if_pos hkp]
     clear hkp
     go_wp2
     go_roundw
     case rel => exact ⟨k + 1, m, by omega, by omega, by go_num, by rw [HD.out]; exact hm, by rw [HD.out]; exact hown, hbw⟩
     case measure => simp [intOf]; omega
    ·
     have hne : ((k : Int) != p) = true := by rw [bne_iff_ne]; exact hkp
     obtain ⟨nm, hnm⟩ := exq (nameAt fs k)
     obtain ⟨vl, hvl⟩ := exq (valAt fs k)
     have HD : Hid (dropTo fs p (k + 1) = dropTo fs p k ++ [(nm, vl)]) := by show _ = _; rw [dropTo, if_neg hkp, hnm, hvl]
     have hc1 := (row.below hbw row.lt).name k hlt
     have hc2 := (row.below hbw row.lt).val k hlt
     rw [← hnm] at hc1
     rw [← hvl] at hc2
     have h63 : m + 1 ≤ maxLen := by unfold maxLen; omega
     have h47 : (m + 1) * 32 ≤ 140737488355328 := by omega
     have HBS : ∀ o, w1.heap.size ≤ (wr.alloc o).heap.size := fun o => by have := hbw.size; simp; omega
     clear hkp hnm hvl
     go_wp2_with (at_builtin; refine wpList_append_own _ rfl _ _ 24 rfl w1.heap.size 74 i0 (.agg #[.string ⟨#[]⟩, .string ⟨#[]⟩]) 2 32 Tryz.underlying24 hi hz0 hz1 hz2 rfl (by decide) _ _ _ rfl (hown.alloc _) ⟨wr.heap.size, 0, none⟩ 1 1 [.string nm, .string vl] rfl rfl (cell_two_new _ _ _ _) (two_text _ _) h63 h47 (HBS _) ?_)
     intro v1 w2 hown1 hgrow _
     have hb2 : Below w1.heap.size w1 w2 := (hbw.alloc hbw.size _).grown hgrow (HBS _) (fun g hg => owns_ge hown hg)
     have hown2 : w2.ownsRow w1.heap.size 74 2 v1 (m + 1) (flatF (dropTo fs p (k + 1))) := by rw [HD.out, flatF_append, flatF_one]; exact hown1
     have hm2 : Hid (m + 1 = (dropTo fs p (k + 1)).length) := by show _ = _; rw [HD.out, hm.out]; simp
     clear hgrow hown1 hown hbw HBS hc1 hc2
     go_wp2
     go_roundw
     case rel => exact ⟨k + 1, m + 1, by omega, by omega, by go_num, hm2, hown2, hb2⟩
     case measure => simp [intOf]; omega
   ·
    obtain rfl : k = n := by omega
    go_wp2
    go_ret
    exact ⟨_, rfl, by rw [hDF.out, ← hm.out]; exact hown, hbw⟩
def putF (fs : List (ByteArray × ByteArray)) (name value : ByteArray) : List (ByteArray × ByteArray) :=
 if atF fs name < fs.length then fs.set (atF fs name) (nameAt fs (atF fs name), value) else fs ++ [(name, value)]
/-- One value of a row stored anew. -/
theorem FieldRow.setVal {base : Nat} {w : World} {g n cap : Nat} {fs : List (ByteArray × ByteArray)} (h : FieldRow base w g n cap fs) (k : Nat) (hk : k < n) (b : ByteArray) : FieldRow base (w.setCell ⟨g, k * 2 + 1, none⟩ (.string b)) g n cap (fs.set k (nameAt fs k, b)) := by
 have hl := h.len; have hle := h.le
 obtain ⟨cur, h1, h2, h3⟩ := h.heap
 refine ⟨by simp [hl], h.base, by simpa using h.lt, h.le, h.mx, cur.setIfInBounds (k * 2 + 1) (.string b), heap_set w g (k * 2 + 1) _ _ _ _ h1, by simpa using h2, ?_⟩
 intro i hi
 have hs := nameAt_set fs k i (nameAt fs k, b) (by omega)
 rw [hs.1, hs.2]
 have h4 := h3 i hi
 by_cases e : i = k
 ·
  subst e
  rw [if_pos rfl, if_pos rfl]
  refine ⟨?_, ?_⟩
  · rw [Array.getElem?_setIfInBounds_ne (by omega)]; exact h4.1
  · rw [Array.getElem?_setIfInBounds_self_of_lt (by omega)]
 ·
  rw [if_neg e, if_neg e]
  refine ⟨?_, ?_⟩
  · rw [Array.getElem?_setIfInBounds_ne (by omega)]; exact h4.1
  · rw [Array.getElem?_setIfInBounds_ne (by omega)]; exact h4.2
/-- The cells of a row, one behind the other. -/
theorem FieldRow.cells {base : Nat} {w : World} {g n cap : Nat} {fs : List (ByteArray × ByteArray)} (h : FieldRow base w g n cap fs) : ∀ j u, (flatF fs)[j]? = some u → w.cell? ((⟨g, 0, none⟩ : Addr).add j) = some u := by
 intro j u hj
 have hl := h.len
 have hjl : j < fs.length * 2 := by
  rw [← flatF_len]
  exact (List.getElem?_eq_some_iff.1 hj).1
 have e0 : (⟨g, 0, none⟩ : Addr).add j = ⟨g, j, none⟩ := by
  unfold Addr.add; split <;> simp_all
 rw [e0]
 have hf := flatF_get fs (j / 2) (by omega)
 rcases Nat.mod_two_eq_zero_or_one j with e | e
 ·
  have e2 : j / 2 * 2 = j := by omega
  have hc := h.name (j / 2) (by omega)
  rw [e2] at hf hc
  rw [hf.1] at hj
  cases hj
  exact hc
 ·
  have e2 : j / 2 * 2 + 1 = j := by omega
  have hc := h.val (j / 2) (by omega)
  rw [e2] at hf hc
  rw [hf.2] at hj
  cases hj
  exact hc
theorem flat_one (fs : List (ByteArray × ByteArray)) : ∀ u ∈ flatF fs, u.oneCell' = true := by
 intro u hu
 simp only [flatF, List.mem_flatMap] at hu
 obtain ⟨f, _, hf⟩ := hu
 exact two_text f.1 f.2 u hf
/-- What 'append' reads of a list: nil, or cells behind an address. -/
theorem FieldsV.src {w : World} {base n : Nat} {v : Value} {fs : List (ByteArray × ByteArray)} (h : FieldsV w base v n fs) :
  (v = .slice none 0 0 ∧ n = 0 ∧ fs = []) ∨ ∃ ad cap, v = .slice (some ad) n cap ∧ ∀ j u, (flatF fs)[j]? = some u → w.cell? (ad.add j) = some u := by
 rcases h with ⟨oa, cap, rfl, h0, rfl, rfl⟩ | ⟨g, cap, rfl, _, row⟩
 ·
  cases oa with
  | none => exact .inl ⟨by rw [h0 rfl], rfl, rfl⟩
  | some ad => exact .inr ⟨ad, cap, rfl, fun j u hj => by simp [flatF] at hj⟩
 · exact .inr ⟨_, cap, rfl, row.cells⟩
theorem specPut_any (v : Value) (n base : Nat) (fs : List (ByteArray × ByteArray)) (name value : ByteArray) (w : World) (hv : FieldsV w base v n fs) (hn : n ≤ 2000000) :
  Calls Tryz.prog 47 #[v, .string name, .string value] w fun e w' => RowF (putF fs name value) w e w' := by
 obtain ⟨i0, hi, hz0, hz1, hz2⟩ := info_parts info33
 have hl := hv.len
 have h63a : 0 + n ≤ maxLen := by unfold maxLen; omega
 have h47a : (0 + n) * 32 ≤ 140737488355328 := by omega
 have hown0 : (w.alloc (.cells #[] 74)).ownsRow w.heap.size 74 2 (.slice (some ⟨w.heap.size, 0, none⟩) 0 0) 0 [] := ⟨rfl, .inr ⟨w.heap.size, 0, #[], rfl, Nat.le_refl _, heap_alloc_new w _, Nat.le_refl _, Nat.zero_le _, rfl, rfl⟩⟩
 have hbs0 : w.heap.size ≤ (w.alloc (.cells #[] 74)).heap.size := by simp
 have hv1 := hv.below ((Below.refl _ w).alloc (Nat.le_refl _) (.cells #[] 74))
 rcases hv1.src with ⟨rfl, rfl, rfl⟩ | ⟨ad, cap, rfl, hcs⟩
 ·
  have hP : Hid (putF [] name value = [(name, value)]) := rfl
  have hI : Hid (atI [] name = -1) := rfl
  have hb2 : Below w.heap.size w (w.alloc (.cells #[] 74)) := (Below.refl _ w).alloc (Nat.le_refl _) _
  have HBS : ∀ o, w.heap.size ≤ ((w.alloc (.cells #[] 74)).alloc o).heap.size := fun o => by simp; omega
  clear hv
  go_enter Tryz.func47, Tryz.ntmps47
  go_wp2_with (at_builtin; refine wpList_append_own_none rfl _ _ 24 rfl w.heap.size 74 i0 2 Tryz.underlying24 hi _ _ _ rfl hown0 rfl ?_)
  go_wp2_with fail
  refine (l2At_any _ 0 base [] name _ hv1 (by omega)).mono ?_
  rintro e w3 ⟨rfl, hw3⟩
  rw [← hw3] at hown0 hb2 HBS
  clear hv1 hbs0 hw3
  rw [hI.out]
  have h63 : 0 + 1 ≤ maxLen := by unfold maxLen; omega
  have h47 : (0 + 1) * 32 ≤ 140737488355328 := by omega
  go_wp2_with (at_builtin; refine wpList_append_own _ rfl _ _ 24 rfl w.heap.size 74 i0 (.agg #[.string ⟨#[]⟩, .string ⟨#[]⟩]) 2 32 Tryz.underlying24 hi hz0 hz1 hz2 rfl (by decide) _ _ _ rfl (hown0.alloc _) ⟨w3.heap.size, 0, none⟩ 1 1 [.string name, .string value] rfl rfl (cell_two_new _ _ _ _) (two_text _ _) h63 h47 (HBS _) ?_)
  intro v4 w4 hown4 hgrow4 _
  have hb4 : Below w.heap.size w w4 := (hb2.alloc hb2.size _).grown hgrow4 (HBS _) (fun g hg => owns_ge hown0 hg)
  clear hgrow4 HBS
  go_wp2
  go_ret
  exact ⟨_, rfl, by rw [hP.out, flatF_one]; simpa using hown4, hb4⟩
 ·
  have hnl : (flatF fs).length = n * 2 := by rw [flatF_len, hl]
  go_enter Tryz.func47, Tryz.ntmps47
  go_wp2_with (at_builtin; refine wpList_append_own _ rfl _ _ 24 rfl w.heap.size 74 i0 (.agg #[.string ⟨#[]⟩, .string ⟨#[]⟩]) 2 32 Tryz.underlying24 hi hz0 hz1 hz2 rfl (by decide) _ _ _ rfl hown0 ad n cap (flatF fs) rfl hnl hcs (flat_one _) h63a h47a hbs0 ?_)
  intro v1 w2 hown1 hgrow _
  have hb2 : Below w.heap.size w w2 := ((Below.refl _ w).alloc (Nat.le_refl _) _).grown hgrow hbs0 (fun g hg => owns_ge hown0 hg)
  have hv2 := hv.below hb2
  have hown2 : w2.ownsRow w.heap.size 74 2 v1 n (flatF fs) := by simpa using hown1
  clear hgrow hown1 hown0 hbs0 hv1 hcs hv
  by_cases hin : atF fs name < fs.length
  ·
   have hI : Hid (atI fs name = (atF fs name : Int)) := by show _ = _; unfold atI; rw [if_pos hin]
   have hP : Hid (putF fs name value = fs.set (atF fs name) (nameAt fs (atF fs name), value)) := by show _ = _; unfold putF; rw [if_pos hin]
   obtain ⟨k, hk⟩ := exq (atF fs name)
   rw [← hk] at hI hP hin
   clear hk
   go_wp2_with fail
   refine (l2At_any _ n base fs name _ hv2 (by omega)).mono ?_
   rintro e w3 ⟨rfl, rfl⟩
   rw [hI.out]
   rcases frow_form hown2 with ⟨_, _, _, _, h0, _⟩ | ⟨g1, c1, rfl, _, row1⟩
   · omega
   have hset := row1.setVal k (by omega) value
   have hc := row1.val k (by omega)
   have hf := row1.frozen (k * 2 + 1)
   have hlt : (k : Int) < (n : Int) := by omega
   have hb3 := hb2.setCell (p := ⟨g1, k * 2 + 1, none⟩) row1.base (.string value)
   clear hv2 hown2
   go_wp2
   go_ret
   exact ⟨_, rfl, by rw [hP.out]; simpa [hl] using hset.owns, hb3⟩
  ·
   have hI : Hid (atI fs name = -1) := by show _ = _; unfold atI; rw [if_neg hin]
   have hP : Hid (putF fs name value = fs ++ [(name, value)]) := by show _ = _; unfold putF; rw [if_neg hin]
   clear hin
   go_wp2_with fail
   refine (l2At_any _ n base fs name _ hv2 (by omega)).mono ?_
   rintro e w3 ⟨rfl, rfl⟩
   rw [hI.out]
   have h63 : n + 1 ≤ maxLen := by unfold maxLen; omega
   have h47 : (n + 1) * 32 ≤ 140737488355328 := by omega
   have HBS : ∀ o, w.heap.size ≤ (w3.alloc o).heap.size := fun o => by have := hb2.size; simp; omega
   go_wp2_with (at_builtin; refine wpList_append_own _ rfl _ _ 24 rfl w.heap.size 74 i0 (.agg #[.string ⟨#[]⟩, .string ⟨#[]⟩]) 2 32 Tryz.underlying24 hi hz0 hz1 hz2 rfl (by decide) _ _ _ rfl (hown2.alloc _) ⟨w3.heap.size, 0, none⟩ 1 1 [.string name, .string value] rfl rfl (cell_two_new _ _ _ _) (two_text _ _) h63 h47 (HBS _) ?_)
   intro v4 w4 hown4 hgrow4 _
   have hb4 : Below w.heap.size w w4 := (hb2.alloc hb2.size _).grown hgrow4 (HBS _) (fun g hg => owns_ge hown2 hg)
   clear hgrow4 HBS
   go_wp2
   go_ret
   exact ⟨_, rfl, by rw [hP.out, flatF_append, flatF_one]; simpa [hl] using hown4, hb4⟩
end Go.Proofs.YtmcmeeibogkpaaaGreatDoorR
namespace Go.Proofs.YtmcmeeibogkpaaaGreatDoorR
open Go.RowKit
open Go.Lib hiding intOf
theorem slice_of_owns {w : World} {base : Nat} {t : TypeId} {size : Nat} {v : Value} {n : Nat} {xs : List Value} (h : w.ownsRow base t size v n xs) : ∃ oa cp, v = .slice oa n cp := by
 rcases h.2 with ⟨rfl, rfl⟩ | ⟨g, cap, cur, rfl, _⟩
 · exact ⟨none, 0, rfl⟩
 · exact ⟨_, cap, rfl⟩
theorem grown_below {w w' : World} (hb : Below w.heap.size w w') (row : Option Nat) : w.grownBy w' row := ⟨hb.os, hb.tape, hb.output, hb.size, fun k hk _ => hb.block k hk⟩
theorem grown_then {a w w' : World} {row : Option Nat} (h : a.grownBy w row) (k : w.grownBy w' row) : a.grownBy w' row :=
 ⟨k.os.trans h.os, k.tape.trans h.tape, k.output.trans h.output, Nat.le_trans h.size k.size, fun i hi hne => (k.block i (Nat.lt_of_lt_of_le hi h.size) hne).trans (h.block i hi hne)⟩
theorem grown_set (w : World) (r o : Nat) (v : Value) : w.grownBy (w.setCell ⟨r, o, none⟩ v) (some r) :=
 ⟨rfl, rfl, rfl, by simp, fun k _ hk => heap_setCell_other _ _ k _ (fun e => hk (by rw [e]))⟩
/-- The four cells of a request's memory, written. -/
def fourSet (w : World) (r : Nat) (a b c d : Value) : World := (((w.setCell ⟨r, 0, none⟩ a).setCell ⟨r, 1, none⟩ b).setCell ⟨r, 2, none⟩ c).setCell ⟨r, 3, none⟩ d
theorem four_facts {W : World} {R : Nat} {a b c d : Value} {t : TypeId} (h : W.heap[R]? = some (.cells #[a, b, c, d] t)) :
  (W.cell? ⟨R, 0, none⟩ = some a ∧ W.cell? ⟨R, 1, none⟩ = some b ∧ W.cell? ⟨R, 2, none⟩ = some c ∧ W.cell? ⟨R, 3, none⟩ = some d) ∧ W.frozen? ⟨R, 0, none⟩ = false ∧ W.frozen? ⟨R, 1, none⟩ = false ∧ W.frozen? ⟨R, 2, none⟩ = false ∧ W.frozen? ⟨R, 3, none⟩ = false := by
 refine ⟨⟨?_, ?_, ?_, ?_⟩, ?_, ?_, ?_, ?_⟩ <;> simp [World.cell?, World.frozen?, h]
theorem four_set {W : World} {R : Nat} {a b c d : Value} {t : TypeId} (h : W.heap[R]? = some (.cells #[a, b, c, d] t)) (a' b' c' d' : Value) : (fourSet W R a' b' c' d').heap[R]? = some (.cells #[a', b', c', d'] t) := by
 have := heap_set _ R 3 _ _ _ d' (heap_set _ R 2 _ _ _ c' (heap_set _ R 1 _ _ _ b' (heap_set W R 0 _ _ _ a' h)))
 simpa [fourSet] using this
end Go.Proofs.YtmcmeeibogkpaaaGreatDoorR
namespace Go.Proofs.YtmcmeeibogkpaaaGreatDoorR
open Go.RowKit
open Go.Lib hiding intOf
theorem and255 (x : Int) : 0 ≤ bits BinOp.and IntKind.i64 x 255 ∧ bits BinOp.and IntKind.i64 x 255 < 256 := by
 have h : (BitVec.ofInt 64 x &&& BitVec.ofInt 64 255).toNat ≤ 255 := by
  rw [BitVec.toNat_and]
  exact Nat.and_le_right
 unfold bits
 simp only
 rw [IntKind.wrap_i64]
 show 0 ≤ (((BitVec.ofInt 64 x &&& BitVec.ofInt 64 255).toNat : Int) + 9223372036854775808) % 18446744073709551616 - 9223372036854775808 ∧ (((BitVec.ofInt 64 x &&& BitVec.ofInt 64 255).toNat : Int) + 9223372036854775808) % 18446744073709551616 - 9223372036854775808 < 256
 omega
/-- The bytes that a draw reads: a slice that came in, in blocks below B. -/
structure CodeAt (w : World) (B : Nat) (a : Option Addr) (len : Nat) (zs : List Int) : Prop where
 le : len ≤ 1048576
 get : ∀ j, j < len → ∃ b off, a = some ⟨b, off, none⟩ ∧ b < B ∧ w.cell? ⟨b, off + j, none⟩ = some (.int .u8 (zs.getD j 0)) ∧ 0 ≤ zs.getD j 0 ∧ zs.getD j 0 ≤ 255
theorem CodeAt.below {w w' : World} {B : Nat} {a : Option Addr} {len : Nat} {zs : List Int} (h : CodeAt w B a len zs) (hb : Below B w w') : CodeAt w' B a len zs :=
 ⟨h.le, fun j hj => by
  obtain ⟨b, off, h1, h2, h3, h4⟩ := h.get j hj
  exact ⟨b, off, h1, h2, by rw [hb.cell (p := ⟨b, off + j, none⟩) h2]; exact h3, h4⟩⟩
theorem CodeAt.upTo {w : World} {B C : Nat} {a : Option Addr} {len : Nat} {zs : List Int} (h : CodeAt w B a len zs) (hC : B ≤ C) : CodeAt w C a len zs :=
 ⟨h.le, fun j hj => by
  obtain ⟨b, off, h1, h2, h3⟩ := h.get j hj
  exact ⟨b, off, h1, by omega, h3⟩⟩
/-- The cursor lies in block c. -/
def CurAt (w : World) (c : Nat) (a : Option Addr) (len cap : Nat) : Prop :=
 ∃ (i : Nat) (h : Int), i ≤ len ∧ w.heap[c]? = some (.cells #[.slice a len cap, .int .i64 (i : Int), .int .i64 h] 116 (0, 0))
theorem CurAt.lt {w : World} {c : Nat} {a : Option Addr} {len cap : Nat} (h : CurAt w c a len cap) : c < w.heap.size := by
 obtain ⟨i, h, _, hh⟩ := h
 exact (Array.getElem?_eq_some_iff.1 hh).1
theorem CurAt.below {w w' : World} {B c : Nat} {a : Option Addr} {len cap : Nat} (h : CurAt w c a len cap) (hb : Below B w w') (hc : c < B) : CurAt w' c a len cap := by
 obtain ⟨i, h, hi, hh⟩ := h
 exact ⟨i, h, hi, by rw [hb.block c hc]; exact hh⟩
theorem heap_setCell_self (w : World) (c o : Nat) (cs : Array Value) (t : TypeId) (fz : Nat × Nat) (v : Value) (h : w.heap[c]? = some (.cells cs t fz)) : (w.setCell ⟨c, o, none⟩ v).heap[c]? = some (.cells (cs.setIfInBounds o v) t fz) := by
 simp [World.setCell, Array.getElem?_modify, h]
theorem grownBy_drewN {a w : World} {row : Option Nat} (h : a.grownBy w row) (n : Nat) : a.grownBy (w.drewN n) row := ⟨h.os, h.tape, h.output, h.size, h.block⟩
/-- A call on the cursor answers a number from 0 to below m, and turns the cursor alone of what was there. -/
def DrawIs (m : Int) (w : World) (c : Nat) (a : Option Addr) (len cap : Nat) (e : Ending) (w' : World) : Prop :=
 ∃ x : Int, e = .returned (.int .i64 x) ∧ 0 ≤ x ∧ x < m ∧ CurAt w' c a len cap ∧ w.grownBy w' (some c)
theorem l1Byte_any (c B : Nat) (a : Option Addr) (len cap : Nat) (zs : List Int) (w : World) (hcur : CurAt w c a len cap) (hcode : CodeAt w B a len zs) (hB : B ≤ c) :
  Calls Tryz.prog 119 #[.pointer (some ⟨c, 0, none⟩)] w fun e w' => DrawIs 256 w c a len cap e w' := by
 obtain ⟨i, h, hi1, hh⟩ := hcur
 have hc0 : w.cell? ⟨c, 0, none⟩ = some (.slice a len cap) := by simp [World.cell?, hh]
 have hc1 : w.cell? ⟨c, 1, none⟩ = some (.int .i64 (i : Int)) := by simp [World.cell?, hh]
 have hc2 : w.cell? ⟨c, 2, none⟩ = some (.int .i64 h) := by simp [World.cell?, hh]
 have hf1 : w.frozen? ⟨c, 1, none⟩ = false := by simp [World.frozen?, hh]
 have hf2 : w.frozen? ⟨c, 2, none⟩ = false := by simp [World.frozen?, hh]
 have HH : Hid _ := hh
 clear hh
 have hlen := hcode.le
 by_cases hlt : (i : Int) < (len : Int)
 ·
  obtain ⟨b, off, rfl, hbB, hcell, hz0, hz1⟩ := hcode.get i (by omega)
  have hcell2 : ∀ o v, (w.setCell ⟨c, o, none⟩ v).cell? ⟨b, off + i, none⟩ = some (.int .u8 (zs.getD i 0)) := fun o v => by
   rw [World.cell?_setCell_other (h := fun e => by cases e; omega)]; exact hcell
  obtain ⟨z, hz⟩ := exq (zs.getD i 0)
  rw [← hz] at hcell2 hz0 hz1
  clear hz hcell hcode
  go_enter Tryz.func119, Tryz.ntmps119
  go_wp2
  go_quiet (fail)
  go_wp2
  go_quiet (fail)
  go_wp2
  go_quiet (fail)
  go_wp2
  go_ret
  exact ⟨_, rfl, (and255 _).1, (and255 _).2, ⟨i + 1, _, by omega, heap_setCell_self _ c 1 _ _ _ _ (heap_setCell_self w c 2 _ _ _ _ HH.out)⟩, grownBy_setB (grownBy_drewN (grownBy_setCell w c 2 _) _) 1 _⟩
 ·
  go_enter Tryz.func119, Tryz.ntmps119
  go_wp2
  go_quiet (fail)
  go_wp2
  go_quiet (fail)
  go_wp2
  go_ret
  exact ⟨_, rfl, (and255 _).1, (and255 _).2, ⟨i, _, hi1, heap_setCell_self w c 2 _ _ _ _ HH.out⟩, grownBy_drewN (grownBy_drewN (grownBy_setCell w c 2 _) _) _⟩
theorem l1Below_any (c B : Nat) (m : Int) (a : Option Addr) (len cap : Nat) (zs : List Int) (w : World) (hcur : CurAt w c a len cap) (hcode : CodeAt w B a len zs) (hB : B ≤ c) (hm : 1 ≤ m) (hm2 : m ≤ 256) :
  Calls Tryz.prog 83 #[.pointer (some ⟨c, 0, none⟩), .int .i64 m] w fun e w' => DrawIs m w c a len cap e w' := by
 have hm0 : ¬ m ≤ 0 := by omega
 go_enter Tryz.func83, Tryz.ntmps83
 go_wp2_with fail
 refine (l1Byte_any c B a len cap zs _ hcur hcode hB).mono ?_
 rintro e w1 ⟨x, rfl, hx0, hx1, hcur1, hg1⟩
 go_wp2_with fail
 go_ret
 exact ⟨x % m, rfl, Int.emod_nonneg _ (by omega), Int.emod_lt_of_pos _ (by omega), hcur1, hg1⟩
/-- A list of n texts that the caller has laid, text j by 'f j'. -/
def ListAt (w : World) (g n : Nat) (f : Nat → ByteArray) : Prop := ∀ j, j < n → w.cell? ⟨g, j, none⟩ = some (.string (f j))
theorem grown_cell {w w' : World} {c : Nat} (hg : w.grownBy w' (some c)) {g j : Nat} {v : Value} (h : w.cell? ⟨g, j, none⟩ = some v) (hne : g ≠ c) : w'.cell? ⟨g, j, none⟩ = some v :=
 hg.cell h (fun e => hne (Option.some.inj e))
theorem l1Pick_any (c B g n : Nat) (f : Nat → ByteArray) (a : Option Addr) (len cap : Nat) (zs : List Int) (w : World) (hcur : CurAt w c a len cap) (hcode : CodeAt w B a len zs) (hB : B ≤ c) (hn : 1 ≤ n) (hn2 : n ≤ 256) (hl : ListAt w g n f) (hgc : g ≠ c) :
  Calls Tryz.prog 84 #[.pointer (some ⟨c, 0, none⟩), .slice (some ⟨g, 0, none⟩) n n] w fun e w' => ∃ j, j < n ∧ e = .returned (.string (f j)) ∧ CurAt w' c a len cap ∧ w.grownBy w' (some c) := by
 go_enter Tryz.func84, Tryz.ntmps84
 go_wp2_with fail
 refine (l1Below_any c B n a len cap zs _ hcur hcode hB (by omega) (by omega)).mono ?_
 rintro e w1 ⟨x, rfl, hx0, hx1, hcur1, hg1⟩
 obtain ⟨j, rfl⟩ := Int.eq_ofNat_of_zero_le hx0
 have hj : j < n := by omega
 have hcell : w1.cell? ⟨g, j, none⟩ = some (.string (f j)) := grown_cell hg1 (hl j hj) hgc
 go_wp2
 go_ret
 exact ⟨j, hj, rfl, hcur1, hg1⟩
theorem l1New_any (B : Nat) (a : Option Addr) (len cap : Nat) (zs : List Int) (w : World) (hcode : CodeAt w B a len zs) :
  Calls Tryz.prog 32 #[.slice a len cap] w fun e w' => e = .returned (.pointer (some ⟨w.heap.size, 0, none⟩)) ∧ CurAt w' w.heap.size a len cap ∧ Below w.heap.size w w' := by
 have hlen := hcode.le
 go_enter Tryz.func32, Tryz.ntmps32
 go_wp2
 go_loop [3, 4] (fun h i => ∃ (k : Nat) (x : Int), k ≤ len ∧ i = .int .i64 (k : Int) ∧ h = .int .i64 x) (fun _ i => len - (intOf i).toNat)
 case atStart => exact ⟨0, _, Nat.zero_le _, rfl, rfl⟩
 case round =>
  obtain ⟨k, x, hk, rfl, rfl⟩ := hrel
  by_cases hlt : (k : Int) < (len : Int)
  ·
   by_cases h4 : (k : Int) < 4000
   ·
    obtain ⟨b, off, rfl, hbB, hcell, hz0, hz1⟩ := hcode.get k (by omega)
    clear hcode
    go_wp2
    go_round
    case rel => exact ⟨k + 1, _, by omega, by go_num, rfl⟩
    case measure => simp [intOf]; omega
   ·
    go_wp2
    go_ret
    exact ⟨rfl, ⟨0, x, Nat.zero_le _, heap_alloc_new w _⟩, (Below.refl _ _).alloc (Nat.le_refl _) _⟩
  ·
   go_wp2
   go_ret
   exact ⟨rfl, ⟨0, x, Nat.zero_le _, heap_alloc_new w _⟩, (Below.refl _ _).alloc (Nat.le_refl _) _⟩
end Go.Proofs.YtmcmeeibogkpaaaGreatDoorR
namespace Go.Proofs.YtmcmeeibogkpaaaGreatDoorR
open Go.RowKit
open Go.Lib hiding intOf
theorem CodeAt.grown {w w' : World} {B c : Nat} {a : Option Addr} {len : Nat} {zs : List Int} (h : CodeAt w B a len zs) (hg : w.grownBy w' (some c)) (hB : B ≤ c) : CodeAt w' B a len zs :=
 ⟨h.le, fun j hj => by
  obtain ⟨b, off, h1, h2, h3, h4⟩ := h.get j hj
  exact ⟨b, off, h1, h2, grown_cell hg h3 (by omega), h4⟩⟩
theorem CurAt.grown {w w' : World} {c : Nat} {row : Option Nat} {a : Option Addr} {len cap : Nat} (h : CurAt w c a len cap) (hg : w.grownBy w' row) (hne : row ≠ some c) : CurAt w' c a len cap := by
 have hlt := h.lt
 obtain ⟨i, h, hi, hh⟩ := h
 exact ⟨i, h, hi, by rw [hg.block c hlt (fun e => hne e.symm)]; exact hh⟩
theorem owns_grown {w w' : World} {base c : Nat} {e : TypeId} {size : Nat} {v : Value} {n : Nat} {xs : List Value} (h : w.ownsRow base e size v n xs) (hg : w.grownBy w' (some c)) (hc : c < base) : w'.ownsRow base e size v n xs := by
 refine ⟨h.1, ?_⟩
 rcases h.2 with h2 | ⟨g, cap, cur, rfl, h3, h4, h5⟩
 · exact .inl h2
 · exact .inr ⟨g, cap, cur, rfl, h3, by rw [hg.block g (Array.getElem?_eq_some_iff.1 h4).1 (fun e => by cases e; omega)]; exact h4, h5⟩
/-- A step that turns only a block which came later. -/
theorem grown_later {a w w' : World} {row r : Option Nat} (h : a.grownBy w row) (k : w.grownBy w' r) (hr : ∀ g, r = some g → a.heap.size ≤ g) : a.grownBy w' row :=
 ⟨k.os.trans h.os, k.tape.trans h.tape, k.output.trans h.output, Nat.le_trans h.size k.size, fun i hi hne => (k.block i (Nat.lt_of_lt_of_le hi h.size) (fun e => by have := hr i e.symm; omega)).trans (h.block i hi hne)⟩
theorem listAt_alloc (w : World) (xs : List ByteArray) : ListAt (w.alloc (.cells (xs.map Value.string).toArray 9)) w.heap.size xs.length (textAt xs) := by
 intro j hj
 rw [World.cell?_alloc_new]
 simp [textAt, List.getD_eq_getElem?_getD, hj]
/-- A call on the cursor answers a text of at most m bytes, and turns the cursor alone of what was there. -/
def TextDrawn (m : Nat) (w : World) (c : Nat) (a : Option Addr) (len cap : Nat) (e : Ending) (w' : World) : Prop :=
 ∃ t : ByteArray, e = .returned (.string t) ∧ t.size ≤ m ∧ CurAt w' c a len cap ∧ w.grownBy w' (some c)
def pickL : List ByteArray := [⟨#[32]⟩, ⟨#[44]⟩, ⟨#[97]⟩, ⟨#[90]⟩, ⟨#[55]⟩, ⟨#[45]⟩, ⟨#[61]⟩, ⟨#[120]⟩, ⟨#[58]⟩, ⟨#[1]⟩, ⟨#[64]⟩, ⟨#[91]⟩]
theorem pickL_one : ∀ j, j < 12 → (textAt pickL j).size = 1 := by decide
theorem l1DrawText_any (c B : Nat) (a : Option Addr) (len cap : Nat) (zs : List Int) (w : World) (hcur : CurAt w c a len cap) (hcode : CodeAt w B a len zs) (hB : B ≤ c) :
  Calls Tryz.prog 132 #[.pointer (some ⟨c, 0, none⟩)] w fun e w' => TextDrawn 14 w c a len cap e w' := by
 obtain ⟨i0, hi, hz0, hz1, hz2⟩ := info_parts info5
 have hcw := hcur.lt
 go_enter Tryz.func132, Tryz.ntmps132
 go_wp2
 go_loopw [3, 4] (fun v i wr => ∃ (k : Nat) (xs : List Int), k ≤ 14 ∧ i = .int .i64 (k : Int) ∧ wr.ownsRow w.heap.size 5 1 v k (xs.map (Value.int .u8)) ∧ CurAt wr c a len cap ∧ w.grownBy wr (some c)) (fun _ i _ => 14 - (intOf i).toNat)
 case atStart => exact ⟨0, [], Nat.zero_le _, rfl, ⟨rfl, .inr ⟨w.heap.size, 0, #[], rfl, Nat.le_refl _, heap_alloc_new w _, Nat.le_refl _, Nat.zero_le _, rfl, rfl⟩⟩, hcur.below ((Below.refl _ _).alloc (Nat.le_refl _) _) hcw, World.grownBy_alloc w _ _⟩
 case round =>
  obtain ⟨k, xs, hk, rfl, hown, hcu, hgw⟩ := hrel
  have hxl : xs.length = k := by have := hown.1; simpa using this
  have HXL : Hid (xs.length = k) := hxl
  clear hxl
  go_wp2_with fail
  refine (l1Below_any c B 14 a len cap zs _ hcu (hcode.grown hgw hB) hB (by omega) (by omega)).mono ?_
  rintro e w1 ⟨x, rfl, hx0, hx1, hcu1, hg1⟩
  have hown1 := owns_grown hown hg1 hcw
  have hgw1 := grownBy_trans hgw hg1
  clear hcu hown hg1 hgw
  by_cases hkx : (k : Int) < x
  ·
   have hcl := hcu1.lt
   have hsw1 := hgw1.size
   have hla := listAt_alloc w1 pickL
   go_wp2_with fail
   refine (l1Pick_any c B w1.heap.size 12 (textAt pickL) a len cap zs _ (hcu1.below ((Below.refl _ _).alloc (Nat.le_refl _) _) hcl) (hcode.grown (grownBy_allocR hgw1 _) hB) hB (by omega) (by omega) (by exact hla) (by omega)).mono ?_
   rintro e w3 ⟨j, hj, rfl, hcu3, hg3⟩
   have ht1 := pickL_one j hj
   obtain ⟨t, ht⟩ := exq (textAt pickL j)
   rw [← ht] at ht1 ⊢
   have hown3 := owns_grown (hown1.alloc (.cells (pickL.map Value.string).toArray 9)) hg3 hcw
   have hgw3 := grownBy_trans (grownBy_allocR hgw1 (.cells (pickL.map Value.string).toArray 9)) hg3
   have hcl3 := hcu3.lt
   have hsw3 := hgw3.size
   clear ht hla hg3 hown1 hgw1 hcu1
   have hp0 : 0 < t.size := by omega
   have h63 : k + 1 ≤ maxLen := by unfold maxLen; omega
   have h47 : (k + 1) * 1 ≤ 140737488355328 := by omega
   have HBS : ∀ o, w.heap.size ≤ (w3.alloc o).heap.size := fun o => by simp; omega
   go_wp2_with (at_builtin; refine wpList_append_own _ rfl _ _ 22 rfl w.heap.size 5 i0 (.int .u8 0) 1 1 Tryz.underlying22 hi hz0 hz1 hz2 rfl (by decide) _ _ _ rfl (hown3.alloc _) ⟨w3.heap.size, 0, none⟩ 1 1 [.int .u8 ((t[0]'hp0).toNat : Int)] rfl rfl (cell_one_new _ _ _) (one_byte _) h63 h47 (HBS _) ?_)
   intro v1 w5 hown5 hgrow _
   have hgw5 : w.grownBy w5 (some c) := grown_later (grownBy_allocR hgw3 _) hgrow (fun g hg => owns_ge hown3 hg)
   have hcu5 : CurAt w5 c a len cap := (hcu3.below ((Below.refl _ _).alloc (Nat.le_refl _) _) hcl3).grown hgrow (fun e => by have := owns_ge hown3 e; omega)
   clear hgrow hown3 hcu3 hgw3 HBS
   go_wp2
   go_roundw
   case rel => exact ⟨k + 1, xs ++ [((t[0]'hp0).toNat : Int)], by omega, by go_num, by simpa using hown5, hcu5, hgw5⟩
   case measure => simp [intOf]; omega
  ·
   have hcv := conv_owned hown1
   go_wp2
   go_ret
   exact ⟨strOfNums xs, rfl, by rw [strOfNums_size, HXL.out]; omega, hcu1, hgw1⟩
theorem l1Once_any (c B : Nat) (m : Int) (a : Option Addr) (len cap : Nat) (zs : List Int) (w : World) (hcur : CurAt w c a len cap) (hcode : CodeAt w B a len zs) (hB : B ≤ c) (hm : 1 ≤ m) (hm2 : m ≤ 256) :
  Calls Tryz.prog 49 #[.pointer (some ⟨c, 0, none⟩), .int .i64 m] w fun e w' => Hid (∃ b : Bool, e = .returned (.bool b)) ∧ CurAt w' c a len cap ∧ w.grownBy w' (some c) := by
 go_enter Tryz.func49, Tryz.ntmps49
 go_wp2_with fail
 refine (l1Below_any c B m a len cap zs _ hcur hcode hB hm hm2).mono ?_
 rintro e w1 ⟨x, rfl, hx0, hx1, hcur1, hg1⟩
 go_wp2
 go_ret
 exact ⟨⟨_, rfl⟩, hcur1, hg1⟩
end Go.Proofs.YtmcmeeibogkpaaaGreatDoorR
namespace Go.Proofs.YtmcmeeibogkpaaaGreatDoorR
open Go.RowKit
open Go.Lib hiding intOf
/-- A pick out of texts that the caller has just laid. -/
theorem pick_new (c B : Nat) (xs : List ByteArray) (m : Nat) (hm : ∀ j, j < xs.length → (textAt xs j).size ≤ m) (a : Option Addr) (len cap : Nat) (zs : List Int) (w : World) (hcur : CurAt w c a len cap) (hcode : CodeAt w B a len zs) (hB : B ≤ c) (hn : 1 ≤ xs.length) (hn2 : xs.length ≤ 256) :
  Calls Tryz.prog 84 #[.pointer (some ⟨c, 0, none⟩), .slice (some ⟨w.heap.size, 0, none⟩) xs.length xs.length] (w.alloc (.cells (xs.map Value.string).toArray 9)) fun e w' => TextDrawn m w c a len cap e w' := by
 have hc := hcur.lt
 refine (l1Pick_any c B w.heap.size xs.length (textAt xs) a len cap zs _ (hcur.below ((Below.refl _ _).alloc (Nat.le_refl _) _) hc) (hcode.grown (World.grownBy_alloc w _ _) hB) hB hn hn2 (listAt_alloc w xs) (by omega)).mono ?_
 rintro e w1 ⟨j, hj, rfl, hcu, hg⟩
 exact ⟨_, rfl, hm j hj, hcu, grownBy_trans (World.grownBy_alloc w _ _) hg⟩
/-- A call on the cursor answers a field of short texts, and turns the cursor alone of what was there. -/
def FieldDrawn (w : World) (c : Nat) (a : Option Addr) (len cap : Nat) (e : Ending) (w' : World) : Prop :=
 ∃ nm vl : ByteArray, e = .returned (.agg #[.string nm, .string vl]) ∧ nm.size ≤ 64 ∧ vl.size ≤ 64 ∧ CurAt w' c a len cap ∧ w.grownBy w' (some c)
/-- The two cells of a field's memory, written. -/
def twoSet (w : World) (r : Nat) (nm vl : ByteArray) : World := (w.setCell ⟨r, 0, none⟩ (.string nm)).setCell ⟨r, 1, none⟩ (.string vl)
theorem twoSet_heap {w : World} {r : Nat} (nm vl : ByteArray) (h : w.heap[r]? = some (.cells #[.string ⟨#[]⟩, .string ⟨#[]⟩] 74)) : (twoSet w r nm vl).heap[r]? = some (.cells #[.string nm, .string vl] 74) := by
 have := heap_set _ r 1 _ _ _ (.string vl) (heap_set w r 0 _ _ _ (.string nm) h)
 simpa [twoSet] using this
theorem twoSet_grown (w : World) (r : Nat) (nm vl : ByteArray) : w.grownBy (twoSet w r nm vl) (some r) :=
 ⟨rfl, rfl, rfl, by simp [twoSet], fun k _ hk => by
  have hne : k ≠ r := fun e => hk (by rw [e])
  unfold twoSet
  rw [heap_setCell_other _ _ k _ (fun e => hne e), heap_setCell_other _ _ k _ (fun e => hne e)]⟩
theorem FieldDrawn.of {w w2 : World} {c r : Nat} {a : Option Addr} {len cap : Nat} {nm vl : ByteArray} (h1 : nm.size ≤ 64) (h2 : vl.size ≤ 64) (hcu : CurAt w2 c a len cap) (hg : w.grownBy w2 (some c)) (hrc : r ≠ c) (hrw : w.heap.size ≤ r) : FieldDrawn w c a len cap (.returned (.agg #[.string nm, .string vl])) (twoSet w2 r nm vl) :=
 ⟨nm, vl, rfl, h1, h2, hcu.grown (twoSet_grown w2 r nm vl) (fun e => hrc (Option.some.inj e)), grown_later hg (twoSet_grown w2 r nm vl) (fun g e => by cases e; exact hrw)⟩
theorem l2DrawField_any (c B : Nat) (a : Option Addr) (len cap : Nat) (zs : List Int) (w : World) (hcur : CurAt w c a len cap) (hcode : CodeAt w B a len zs) (hB : B ≤ c) :
  Calls Tryz.prog 121 #[.pointer (some ⟨c, 0, none⟩)] w fun e w' => FieldDrawn w c a len cap e w' := by
 go_enter Tryz.func121, Tryz.ntmps121
 go_wp2_with fail
 have hcw := hcur.lt
 have hg0 : w.grownBy (w.alloc (.cells #[.string ⟨#[]⟩, .string ⟨#[]⟩] 74)) (some c) := World.grownBy_alloc w _ _
 refine (l1Below_any c B 9 a len cap zs _ (hcur.below ((Below.refl _ _).alloc (Nat.le_refl _) _) hcw) (hcode.grown hg0 hB) hB (by omega) (by omega)).mono ?_
 rintro e w1 ⟨x, rfl, hx0, hx1, hcu1, hg1⟩
 obtain ⟨r, hr⟩ := exq (w.heap.size)
 have hs1 : r < w1.heap.size := by have := hg1.size; simp at this; omega
 have hco1 := (hcode.grown hg0 hB).grown hg1 hB
 have hre1 : w1.heap[r]? = some (.cells #[.string ⟨#[]⟩, .string ⟨#[]⟩] 74) := by rw [hr, hg1.block _ (by simp) (fun e => by cases e; omega)]; exact heap_alloc_new w _
 have hgw1 := grownBy_trans hg0 hg1
 have hrc : r ≠ c := by omega
 have hrw : w.heap.size ≤ r := by omega
 rw [← hr]
 clear hcode hcur hg0 hg1 hr
 obtain rfl | rfl | rfl | rfl | rfl | rfl | rfl | rfl | rfl : x = 0 ∨ x = 1 ∨ x = 2 ∨ x = 3 ∨ x = 4 ∨ x = 5 ∨ x = 6 ∨ x = 7 ∨ x = 8 := by omega
 all_goals clear hx0 hx1
 ·
  go_wp2_with fail
  refine (pick_new c B [⟨#[109, 97, 120, 45, 97, 103, 101, 61, 53]⟩, ⟨#[109, 97, 120, 45, 97, 103, 101, 61, 50, 48]⟩, ⟨#[110, 111, 45, 115, 116, 111, 114, 101]⟩, ⟨#[110, 111, 45, 99, 97, 99, 104, 101]⟩, ⟨#[112, 114, 105, 118, 97, 116, 101]⟩, ⟨#[109, 97, 120, 45, 97, 103, 101, 61, 57, 44, 32, 109, 117, 115, 116, 45, 114, 101, 118, 97, 108, 105, 100, 97, 116, 101]⟩, ⟨#[109, 97, 120, 45, 97, 103, 101, 61, 120]⟩, ⟨#[77, 65, 88, 45, 65, 71, 69, 61, 51]⟩] 64 (by decide) a len cap zs w1 hcu1 hco1 hB (by decide) (by decide)).mono ?_
  rintro e w2 ⟨t, rfl, ht, hcu2, hg2⟩
  have hgw2 := grownBy_trans hgw1 hg2
  have hre2 : w2.heap[r]? = some (.cells #[.string ⟨#[]⟩, .string ⟨#[]⟩] 74) := by rw [hg2.block _ hs1 (fun e => by cases e; omega)]; exact hre1
  have hc0 : w2.cell? ⟨r, 0, none⟩ = some (.string ⟨#[]⟩) := by simp [World.cell?, hre2]
  have hc1 : w2.cell? ⟨r, 1, none⟩ = some (.string ⟨#[]⟩) := by simp [World.cell?, hre2]
  have hf0 : w2.frozen? ⟨r, 0, none⟩ = false := by simp [World.frozen?, hre2]
  have hf1 : w2.frozen? ⟨r, 1, none⟩ = false := by simp [World.frozen?, hre2]
  clear hcu1 hco1 hre1 hgw1 hg2
  have hre3 := twoSet_heap ⟨#[99, 97, 99, 104, 101, 45, 99, 111, 110, 116, 114, 111, 108]⟩ t hre2
  have k0 : (twoSet w2 r ⟨#[99, 97, 99, 104, 101, 45, 99, 111, 110, 116, 114, 111, 108]⟩ t).cell? ⟨r, 0, none⟩ = some (.string ⟨#[99, 97, 99, 104, 101, 45, 99, 111, 110, 116, 114, 111, 108]⟩) := by simp [World.cell?, hre3]
  have k1 : (twoSet w2 r ⟨#[99, 97, 99, 104, 101, 45, 99, 111, 110, 116, 114, 111, 108]⟩ t).cell? ⟨r, 1, none⟩ = some (.string t) := by simp [World.cell?, hre3]
  unfold twoSet at k0 k1
  clear hre3
  go_wp2
  exact bodyPost_ret (v := .agg #[.string ⟨#[99, 97, 99, 104, 101, 45, 99, 111, 110, 116, 114, 111, 108]⟩, .string t]) (by simp [results, Tryz.results121, go_sem, k0, k1]) rfl (FieldDrawn.of (by decide) ht hcu2 hgw2 hrc hrw)
 ·
  go_wp2_with fail
  refine (pick_new c B [⟨#[97]⟩, ⟨#[98]⟩] 64 (by decide) a len cap zs w1 hcu1 hco1 hB (by decide) (by decide)).mono ?_
  rintro e w2 ⟨t, rfl, ht, hcu2, hg2⟩
  have hgw2 := grownBy_trans hgw1 hg2
  have hre2 : w2.heap[r]? = some (.cells #[.string ⟨#[]⟩, .string ⟨#[]⟩] 74) := by rw [hg2.block _ hs1 (fun e => by cases e; omega)]; exact hre1
  have hc0 : w2.cell? ⟨r, 0, none⟩ = some (.string ⟨#[]⟩) := by simp [World.cell?, hre2]
  have hc1 : w2.cell? ⟨r, 1, none⟩ = some (.string ⟨#[]⟩) := by simp [World.cell?, hre2]
  have hf0 : w2.frozen? ⟨r, 0, none⟩ = false := by simp [World.frozen?, hre2]
  have hf1 : w2.frozen? ⟨r, 1, none⟩ = false := by simp [World.frozen?, hre2]
  clear hcu1 hco1 hre1 hgw1 hg2
  have hre3 := twoSet_heap ⟨#[101, 116, 97, 103]⟩ t hre2
  have k0 : (twoSet w2 r ⟨#[101, 116, 97, 103]⟩ t).cell? ⟨r, 0, none⟩ = some (.string ⟨#[101, 116, 97, 103]⟩) := by simp [World.cell?, hre3]
  have k1 : (twoSet w2 r ⟨#[101, 116, 97, 103]⟩ t).cell? ⟨r, 1, none⟩ = some (.string t) := by simp [World.cell?, hre3]
  unfold twoSet at k0 k1
  clear hre3
  go_wp2
  exact bodyPost_ret (v := .agg #[.string ⟨#[101, 116, 97, 103]⟩, .string t]) (by simp [results, Tryz.results121, go_sem, k0, k1]) rfl (FieldDrawn.of (by decide) ht hcu2 hgw2 hrc hrw)
 ·
  go_wp2_with fail
  refine (pick_new c B [⟨#[108, 97, 110, 103]⟩, ⟨#[108, 97, 110, 103, 44, 32, 107, 105, 110, 100]⟩, ⟨#[42]⟩] 64 (by decide) a len cap zs w1 hcu1 hco1 hB (by decide) (by decide)).mono ?_
  rintro e w2 ⟨t, rfl, ht, hcu2, hg2⟩
  have hgw2 := grownBy_trans hgw1 hg2
  have hre2 : w2.heap[r]? = some (.cells #[.string ⟨#[]⟩, .string ⟨#[]⟩] 74) := by rw [hg2.block _ hs1 (fun e => by cases e; omega)]; exact hre1
  have hc0 : w2.cell? ⟨r, 0, none⟩ = some (.string ⟨#[]⟩) := by simp [World.cell?, hre2]
  have hc1 : w2.cell? ⟨r, 1, none⟩ = some (.string ⟨#[]⟩) := by simp [World.cell?, hre2]
  have hf0 : w2.frozen? ⟨r, 0, none⟩ = false := by simp [World.frozen?, hre2]
  have hf1 : w2.frozen? ⟨r, 1, none⟩ = false := by simp [World.frozen?, hre2]
  clear hcu1 hco1 hre1 hgw1 hg2
  have hre3 := twoSet_heap ⟨#[118, 97, 114, 121]⟩ t hre2
  have k0 : (twoSet w2 r ⟨#[118, 97, 114, 121]⟩ t).cell? ⟨r, 0, none⟩ = some (.string ⟨#[118, 97, 114, 121]⟩) := by simp [World.cell?, hre3]
  have k1 : (twoSet w2 r ⟨#[118, 97, 114, 121]⟩ t).cell? ⟨r, 1, none⟩ = some (.string t) := by simp [World.cell?, hre3]
  unfold twoSet at k0 k1
  clear hre3
  go_wp2
  exact bodyPost_ret (v := .agg #[.string ⟨#[118, 97, 114, 121]⟩, .string t]) (by simp [results, Tryz.results121, go_sem, k0, k1]) rfl (FieldDrawn.of (by decide) ht hcu2 hgw2 hrc hrw)
 ·
  go_wp2_with fail
  refine (pick_new c B [⟨#[100, 101]⟩, ⟨#[101, 110]⟩] 64 (by decide) a len cap zs w1 hcu1 hco1 hB (by decide) (by decide)).mono ?_
  rintro e w2 ⟨t, rfl, ht, hcu2, hg2⟩
  have hgw2 := grownBy_trans hgw1 hg2
  have hre2 : w2.heap[r]? = some (.cells #[.string ⟨#[]⟩, .string ⟨#[]⟩] 74) := by rw [hg2.block _ hs1 (fun e => by cases e; omega)]; exact hre1
  have hc0 : w2.cell? ⟨r, 0, none⟩ = some (.string ⟨#[]⟩) := by simp [World.cell?, hre2]
  have hc1 : w2.cell? ⟨r, 1, none⟩ = some (.string ⟨#[]⟩) := by simp [World.cell?, hre2]
  have hf0 : w2.frozen? ⟨r, 0, none⟩ = false := by simp [World.frozen?, hre2]
  have hf1 : w2.frozen? ⟨r, 1, none⟩ = false := by simp [World.frozen?, hre2]
  clear hcu1 hco1 hre1 hgw1 hg2
  have hre3 := twoSet_heap ⟨#[108, 97, 110, 103]⟩ t hre2
  have k0 : (twoSet w2 r ⟨#[108, 97, 110, 103]⟩ t).cell? ⟨r, 0, none⟩ = some (.string ⟨#[108, 97, 110, 103]⟩) := by simp [World.cell?, hre3]
  have k1 : (twoSet w2 r ⟨#[108, 97, 110, 103]⟩ t).cell? ⟨r, 1, none⟩ = some (.string t) := by simp [World.cell?, hre3]
  unfold twoSet at k0 k1
  clear hre3
  go_wp2
  exact bodyPost_ret (v := .agg #[.string ⟨#[108, 97, 110, 103]⟩, .string t]) (by simp [results, Tryz.results121, go_sem, k0, k1]) rfl (FieldDrawn.of (by decide) ht hcu2 hgw2 hrc hrw)
 ·
  go_wp2_with fail
  refine (pick_new c B [⟨#[120]⟩, ⟨#[121]⟩] 64 (by decide) a len cap zs w1 hcu1 hco1 hB (by decide) (by decide)).mono ?_
  rintro e w2 ⟨t, rfl, ht, hcu2, hg2⟩
  have hgw2 := grownBy_trans hgw1 hg2
  have hre2 : w2.heap[r]? = some (.cells #[.string ⟨#[]⟩, .string ⟨#[]⟩] 74) := by rw [hg2.block _ hs1 (fun e => by cases e; omega)]; exact hre1
  have hc0 : w2.cell? ⟨r, 0, none⟩ = some (.string ⟨#[]⟩) := by simp [World.cell?, hre2]
  have hc1 : w2.cell? ⟨r, 1, none⟩ = some (.string ⟨#[]⟩) := by simp [World.cell?, hre2]
  have hf0 : w2.frozen? ⟨r, 0, none⟩ = false := by simp [World.frozen?, hre2]
  have hf1 : w2.frozen? ⟨r, 1, none⟩ = false := by simp [World.frozen?, hre2]
  clear hcu1 hco1 hre1 hgw1 hg2
  have hre3 := twoSet_heap ⟨#[107, 105, 110, 100]⟩ t hre2
  have k0 : (twoSet w2 r ⟨#[107, 105, 110, 100]⟩ t).cell? ⟨r, 0, none⟩ = some (.string ⟨#[107, 105, 110, 100]⟩) := by simp [World.cell?, hre3]
  have k1 : (twoSet w2 r ⟨#[107, 105, 110, 100]⟩ t).cell? ⟨r, 1, none⟩ = some (.string t) := by simp [World.cell?, hre3]
  unfold twoSet at k0 k1
  clear hre3
  go_wp2
  exact bodyPost_ret (v := .agg #[.string ⟨#[107, 105, 110, 100]⟩, .string t]) (by simp [results, Tryz.results121, go_sem, k0, k1]) rfl (FieldDrawn.of (by decide) ht hcu2 hgw2 hrc hrw)
 ·
  go_wp2_with fail
  refine (pick_new c B [⟨#[48]⟩, ⟨#[51]⟩, ⟨#[57, 48]⟩, ⟨#[120]⟩] 64 (by decide) a len cap zs w1 hcu1 hco1 hB (by decide) (by decide)).mono ?_
  rintro e w2 ⟨t, rfl, ht, hcu2, hg2⟩
  have hgw2 := grownBy_trans hgw1 hg2
  have hre2 : w2.heap[r]? = some (.cells #[.string ⟨#[]⟩, .string ⟨#[]⟩] 74) := by rw [hg2.block _ hs1 (fun e => by cases e; omega)]; exact hre1
  have hc0 : w2.cell? ⟨r, 0, none⟩ = some (.string ⟨#[]⟩) := by simp [World.cell?, hre2]
  have hc1 : w2.cell? ⟨r, 1, none⟩ = some (.string ⟨#[]⟩) := by simp [World.cell?, hre2]
  have hf0 : w2.frozen? ⟨r, 0, none⟩ = false := by simp [World.frozen?, hre2]
  have hf1 : w2.frozen? ⟨r, 1, none⟩ = false := by simp [World.frozen?, hre2]
  clear hcu1 hco1 hre1 hgw1 hg2
  have hre3 := twoSet_heap ⟨#[97, 103, 101]⟩ t hre2
  have k0 : (twoSet w2 r ⟨#[97, 103, 101]⟩ t).cell? ⟨r, 0, none⟩ = some (.string ⟨#[97, 103, 101]⟩) := by simp [World.cell?, hre3]
  have k1 : (twoSet w2 r ⟨#[97, 103, 101]⟩ t).cell? ⟨r, 1, none⟩ = some (.string t) := by simp [World.cell?, hre3]
  unfold twoSet at k0 k1
  clear hre3
  go_wp2
  exact bodyPost_ret (v := .agg #[.string ⟨#[97, 103, 101]⟩, .string t]) (by simp [results, Tryz.results121, go_sem, k0, k1]) rfl (FieldDrawn.of (by decide) ht hcu2 hgw2 hrc hrw)
 ·
  go_wp2_with fail
  refine (pick_new c B [⟨#[97]⟩, ⟨#[98]⟩] 64 (by decide) a len cap zs w1 hcu1 hco1 hB (by decide) (by decide)).mono ?_
  rintro e w2 ⟨t, rfl, ht, hcu2, hg2⟩
  have hgw2 := grownBy_trans hgw1 hg2
  have hre2 : w2.heap[r]? = some (.cells #[.string ⟨#[]⟩, .string ⟨#[]⟩] 74) := by rw [hg2.block _ hs1 (fun e => by cases e; omega)]; exact hre1
  have hc0 : w2.cell? ⟨r, 0, none⟩ = some (.string ⟨#[]⟩) := by simp [World.cell?, hre2]
  have hc1 : w2.cell? ⟨r, 1, none⟩ = some (.string ⟨#[]⟩) := by simp [World.cell?, hre2]
  have hf0 : w2.frozen? ⟨r, 0, none⟩ = false := by simp [World.frozen?, hre2]
  have hf1 : w2.frozen? ⟨r, 1, none⟩ = false := by simp [World.frozen?, hre2]
  clear hcu1 hco1 hre1 hgw1 hg2
  have hre3 := twoSet_heap ⟨#[105, 102, 45, 110, 111, 110, 101, 45, 109, 97, 116, 99, 104]⟩ t hre2
  have k0 : (twoSet w2 r ⟨#[105, 102, 45, 110, 111, 110, 101, 45, 109, 97, 116, 99, 104]⟩ t).cell? ⟨r, 0, none⟩ = some (.string ⟨#[105, 102, 45, 110, 111, 110, 101, 45, 109, 97, 116, 99, 104]⟩) := by simp [World.cell?, hre3]
  have k1 : (twoSet w2 r ⟨#[105, 102, 45, 110, 111, 110, 101, 45, 109, 97, 116, 99, 104]⟩ t).cell? ⟨r, 1, none⟩ = some (.string t) := by simp [World.cell?, hre3]
  unfold twoSet at k0 k1
  clear hre3
  go_wp2
  exact bodyPost_ret (v := .agg #[.string ⟨#[105, 102, 45, 110, 111, 110, 101, 45, 109, 97, 116, 99, 104]⟩, .string t]) (by simp [results, Tryz.results121, go_sem, k0, k1]) rfl (FieldDrawn.of (by decide) ht hcu2 hgw2 hrc hrw)
 ·
  go_wp2_with fail
  refine (pick_new c B [⟨#[120, 45, 97]⟩, ⟨#[120, 45, 98]⟩, ⟨#[100, 97, 116, 101]⟩] 64 (by decide) a len cap zs w1 hcu1 hco1 hB (by decide) (by decide)).mono ?_
  rintro e w2 ⟨t, rfl, ht, hcu2, hg2⟩
  have hco2 := hco1.grown hg2 hB
  have hgw2 := grownBy_trans hgw1 hg2
  have hs2 : r < w2.heap.size := by have := hg2.size; omega
  have hre2 : w2.heap[r]? = some (.cells #[.string ⟨#[]⟩, .string ⟨#[]⟩] 74) := by rw [hg2.block _ hs1 (fun e => by cases e; omega)]; exact hre1
  clear hcu1 hco1 hre1 hgw1 hg2
  go_wp2_with fail
  refine (pick_new c B [⟨#[49]⟩, ⟨#[116, 119, 111, 32, 119, 111, 114, 100, 115]⟩, ⟨#[113]⟩] 64 (by decide) a len cap zs w2 hcu2 hco2 hB (by decide) (by decide)).mono ?_
  rintro e w3 ⟨u, rfl, hu, hcu3, hg3⟩
  have hgw3 := grownBy_trans hgw2 hg3
  have hre3 : w3.heap[r]? = some (.cells #[.string ⟨#[]⟩, .string ⟨#[]⟩] 74) := by rw [hg3.block _ hs2 (fun e => by cases e; omega)]; exact hre2
  have hc0 : w3.cell? ⟨r, 0, none⟩ = some (.string ⟨#[]⟩) := by simp [World.cell?, hre3]
  have hc1 : w3.cell? ⟨r, 1, none⟩ = some (.string ⟨#[]⟩) := by simp [World.cell?, hre3]
  have hf0 : w3.frozen? ⟨r, 0, none⟩ = false := by simp [World.frozen?, hre3]
  have hf1 : w3.frozen? ⟨r, 1, none⟩ = false := by simp [World.frozen?, hre3]
  have hre4 := twoSet_heap t u hre3
  have k0 : (twoSet w3 r t u).cell? ⟨r, 0, none⟩ = some (.string t) := by simp [World.cell?, hre4]
  have k1 : (twoSet w3 r t u).cell? ⟨r, 1, none⟩ = some (.string u) := by simp [World.cell?, hre4]
  unfold twoSet at k0 k1
  clear hcu2 hco2 hre2 hgw2 hg3 hre4
  go_wp2
  exact bodyPost_ret (v := .agg #[.string t, .string u]) (by simp [results, Tryz.results121, go_sem, k0, k1]) rfl (FieldDrawn.of ht hu hcu3 hgw3 hrc hrw)
 ·
  go_wp2_with fail
  refine (pick_new c B [⟨#[120, 45, 97]⟩, ⟨#[120, 45, 98]⟩, ⟨#[100, 97, 116, 101]⟩] 64 (by decide) a len cap zs w1 hcu1 hco1 hB (by decide) (by decide)).mono ?_
  rintro e w2 ⟨t, rfl, ht, hcu2, hg2⟩
  have hco2 := hco1.grown hg2 hB
  have hgw2 := grownBy_trans hgw1 hg2
  have hs2 : r < w2.heap.size := by have := hg2.size; omega
  have hre2 : w2.heap[r]? = some (.cells #[.string ⟨#[]⟩, .string ⟨#[]⟩] 74) := by rw [hg2.block _ hs1 (fun e => by cases e; omega)]; exact hre1
  clear hcu1 hco1 hre1 hgw1 hg2
  go_wp2_with fail
  refine (pick_new c B [⟨#[49]⟩, ⟨#[116, 119, 111, 32, 119, 111, 114, 100, 115]⟩, ⟨#[113]⟩] 64 (by decide) a len cap zs w2 hcu2 hco2 hB (by decide) (by decide)).mono ?_
  rintro e w3 ⟨u, rfl, hu, hcu3, hg3⟩
  have hgw3 := grownBy_trans hgw2 hg3
  have hre3 : w3.heap[r]? = some (.cells #[.string ⟨#[]⟩, .string ⟨#[]⟩] 74) := by rw [hg3.block _ hs2 (fun e => by cases e; omega)]; exact hre2
  have hc0 : w3.cell? ⟨r, 0, none⟩ = some (.string ⟨#[]⟩) := by simp [World.cell?, hre3]
  have hc1 : w3.cell? ⟨r, 1, none⟩ = some (.string ⟨#[]⟩) := by simp [World.cell?, hre3]
  have hf0 : w3.frozen? ⟨r, 0, none⟩ = false := by simp [World.frozen?, hre3]
  have hf1 : w3.frozen? ⟨r, 1, none⟩ = false := by simp [World.frozen?, hre3]
  have hre4 := twoSet_heap t u hre3
  have k0 : (twoSet w3 r t u).cell? ⟨r, 0, none⟩ = some (.string t) := by simp [World.cell?, hre4]
  have k1 : (twoSet w3 r t u).cell? ⟨r, 1, none⟩ = some (.string u) := by simp [World.cell?, hre4]
  unfold twoSet at k0 k1
  clear hcu2 hco2 hre2 hgw2 hg3 hre4
  go_wp2
  exact bodyPost_ret (v := .agg #[.string t, .string u]) (by simp [results, Tryz.results121, go_sem, k0, k1]) rfl (FieldDrawn.of ht hu hcu3 hgw3 hrc hrw)
end Go.Proofs.YtmcmeeibogkpaaaGreatDoorR
namespace Go.Proofs.YtmcmeeibogkpaaaGreatDoorR
open Go.RowKit
open Go.Lib hiding intOf
/-- Fields of short texts. -/
def ShortF (fs : List (ByteArray × ByteArray)) : Prop := ∀ f ∈ fs, f.1.size ≤ 64 ∧ f.2.size ≤ 64
theorem ShortF.snoc {fs : List (ByteArray × ByteArray)} {nm vl : ByteArray} (h : ShortF fs) (h1 : nm.size ≤ 64) (h2 : vl.size ≤ 64) : ShortF (fs ++ [(nm, vl)]) := by
 intro f hf
 rcases List.mem_append.1 hf with hf | hf
 · exact h f hf
 · simp at hf; subst hf; exact ⟨h1, h2⟩
/-- A call on the cursor answers a list of at most m fields of short texts, in memory of its own, and turns the cursor alone of what was there. -/
def FieldsDrawn (m : Nat) (w : World) (c : Nat) (a : Option Addr) (len cap : Nat) (e : Ending) (w' : World) : Prop :=
 ∃ (v : Value) (fs : List (ByteArray × ByteArray)), e = .returned v ∧ w'.ownsRow w.heap.size 74 2 v fs.length (flatF fs) ∧ fs.length ≤ m ∧ ShortF fs ∧ CurAt w' c a len cap ∧ w.grownBy w' (some c)
theorem l2DrawRight_any (c B : Nat) (a : Option Addr) (len cap : Nat) (zs : List Int) (w : World) (hcur : CurAt w c a len cap) (hcode : CodeAt w B a len zs) (hB : B ≤ c) :
  Calls Tryz.prog 120 #[.pointer (some ⟨c, 0, none⟩)] w fun e w' => FieldsDrawn 5 w c a len cap e w' := by
 obtain ⟨i0, hi, hz0, hz1, hz2⟩ := info_parts info33
 have hcw := hcur.lt
 go_enter Tryz.func120, Tryz.ntmps120
 go_wp2
 go_loopw [3, 4] (fun v i wr => ∃ (k : Nat) (fs : List (ByteArray × ByteArray)), k ≤ 5 ∧ i = .int .i64 (k : Int) ∧ wr.ownsRow w.heap.size 74 2 v fs.length (flatF fs) ∧ fs.length ≤ k ∧ Hid (ShortF fs) ∧ CurAt wr c a len cap ∧ w.grownBy wr (some c)) (fun _ i _ => 5 - (intOf i).toNat)
 case atStart => exact ⟨0, [], Nat.zero_le _, rfl, ⟨rfl, .inr ⟨w.heap.size, 0, #[], rfl, Nat.le_refl _, heap_alloc_new w _, Nat.le_refl _, Nat.zero_le _, rfl, rfl⟩⟩, Nat.le_refl _, (fun f hf => by simp at hf), hcur.below ((Below.refl _ _).alloc (Nat.le_refl _) _) hcw, World.grownBy_alloc w _ _⟩
 case round =>
  obtain ⟨k, fs, hk, rfl, hown, hfl, hsh, hcu, hgw⟩ := hrel
  go_wp2_with fail
  refine (l1Below_any c B 5 a len cap zs _ hcu (hcode.grown hgw hB) hB (by omega) (by omega)).mono ?_
  rintro e w1 ⟨x, rfl, hx0, hx1, hcu1, hg1⟩
  have hown1 := owns_grown hown hg1 hcw
  have hgw1 := grownBy_trans hgw hg1
  clear hcu hown hg1 hgw
  by_cases hkx : (k : Int) < x
  ·
   go_wp2_with fail
   refine (l2DrawField_any c B a len cap zs _ hcu1 (hcode.grown hgw1 hB) hB).mono ?_
   rintro e w2 ⟨nm, vl, rfl, hnm, hvl, hcu2, hg2⟩
   have hown2 := owns_grown hown1 hg2 hcw
   have hgw2 := grownBy_trans hgw1 hg2
   clear hcu1 hown1 hg2 hgw1
   go_wp2_with fail
   have hown3 := hown2.alloc (.cells #[.string nm, .string vl] 74)
   have hgw3 := grownBy_allocR hgw2 (.cells #[.string nm, .string vl] 74)
   have hcl2 := hcu2.lt
   have hcu3 := hcu2.below ((Below.refl _ _).alloc (Nat.le_refl _) (.cells #[.string nm, .string vl] 74)) hcl2
   have hc0 : (w2.alloc (.cells #[.string nm, .string vl] 74)).cell? ⟨w2.heap.size, 0, none⟩ = some (.string nm) := by rw [World.cell?_alloc_new]; rfl
   have hc1 : (w2.alloc (.cells #[.string nm, .string vl] 74)).cell? ⟨w2.heap.size, 1, none⟩ = some (.string vl) := by rw [World.cell?_alloc_new]; rfl
   have hs3 : w2.heap.size < (w2.alloc (.cells #[.string nm, .string vl] 74)).heap.size := by simp
   obtain ⟨r, hr⟩ := exq (w2.heap.size)
   refine (l2At_any u3 fs.length w.heap.size fs nm _ (FieldsV.of_owns hown3) (by omega)).mono ?_
   rintro e w3 ⟨rfl, hw3⟩
   rw [← hw3] at hown3 hgw3 hcu3 hc0 hc1 hs3
   rw [← hr] at hc0 hc1 hs3
   rw [← hr]
   clear hown2 hgw2 hcu2 hw3 hr hcl2
   by_cases hin : atF fs nm < fs.length
   ·
    have hI : Hid (atI fs nm = (atF fs nm : Int)) := by show _ = _; unfold atI; rw [if_pos hin]
    rw [hI.out]
    obtain ⟨p, hp⟩ := exq (atF fs nm)
    rw [← hp]
    have hp0 : ¬ (p : Int) < 0 := by omega
    clear hI hin hp
    go_wp2
    go_roundw
    case rel => exact ⟨k + 1, fs, by omega, by go_num, hown3, by omega, hsh, hcu3, hgw3⟩
    case measure => simp [intOf]; omega
   ·
    have hI : Hid (atI fs nm = -1) := by show _ = _; unfold atI; rw [if_neg hin]
    rw [hI.out]
    clear hI hin
    have h63 : fs.length + 1 ≤ maxLen := by unfold maxLen; omega
    have h47 : (fs.length + 1) * 32 ≤ 140737488355328 := by omega
    have hsw3 := hgw3.size
    have hcl3 := hcu3.lt
    have HBS : ∀ o, w.heap.size ≤ (w3.alloc o).heap.size := fun o => by simp; omega
    go_wp2_with (at_builtin; refine wpList_append_own _ rfl _ _ 24 rfl w.heap.size 74 i0 (.agg #[.string ⟨#[]⟩, .string ⟨#[]⟩]) 2 32 Tryz.underlying24 hi hz0 hz1 hz2 rfl (by decide) _ _ _ rfl (hown3.alloc _) ⟨w3.heap.size, 0, none⟩ 1 1 [.string nm, .string vl] rfl rfl (cell_two_new _ _ _ _) (two_text _ _) h63 h47 (HBS _) ?_)
    intro v1 w5 hown5 hgrow _
    have hgw5 : w.grownBy w5 (some c) := grown_later (grownBy_allocR hgw3 _) hgrow (fun g hg => owns_ge hown3 hg)
    have hcu5 : CurAt w5 c a len cap := (hcu3.below ((Below.refl _ _).alloc (Nat.le_refl _) _) hcl3).grown hgrow (fun e => by have := owns_ge hown3 e; omega)
    have hsh5 : Hid (ShortF (fs ++ [(nm, vl)])) := hsh.out.snoc hnm hvl
    clear hgrow hown3 hcu3 hgw3 HBS hc0 hc1
    go_wp2
    go_roundw
    case rel => exact ⟨k + 1, fs ++ [(nm, vl)], by omega, by go_num, by rw [flatF_append, flatF_one]; simpa using hown5, by simp; omega, hsh5, hcu5, hgw5⟩
    case measure => simp [intOf]; omega
  ·
   go_wp2
   go_ret
   exact ⟨_, fs, rfl, hown1, by omega, hsh.out, hcu1, hgw1⟩
theorem owns_slice {w : World} {base : Nat} {t : TypeId} {size : Nat} {v : Value} {n : Nat} {xs : List Value} (h : w.ownsRow base t size v n xs) : ∃ oa cp, v = .slice oa n cp := by
 rcases h.2 with ⟨rfl, rfl⟩ | ⟨g, cap, cur, rfl, _⟩
 · exact ⟨none, 0, rfl⟩
 · exact ⟨_, _, rfl⟩
theorem grown_of_below {w w' : World} (hb : Below w.heap.size w w') : w.grownBy w' none := ⟨hb.os, hb.tape, hb.output, hb.size, fun k hk _ => hb.block k hk⟩
theorem numText_short : ∀ k, k ≤ 9 → (numText k).size ≤ 20 := by decide
def lenOf : Value → Nat
 | .slice _ n _ => n
 | _ => 0
theorem cell_four_new (w : World) (a b c d : Value) (t : TypeId) : ∀ j u, [a, b, c, d][j]? = some u → (w.alloc (.cells #[a, b, c, d] t)).cell? ((⟨w.heap.size, 0, none⟩ : Addr).add j) = some u := by
 intro j u h
 have e : (⟨w.heap.size, 0, none⟩ : Addr).add j = ⟨w.heap.size, j, none⟩ := by
  unfold Addr.add; split <;> simp_all
 rw [e, World.cell?_alloc_new]
 match j, h with
 | 0, h => simpa using h
 | 1, h => simpa using h
 | 2, h => simpa using h
 | 3, h => simpa using h
 | k + 4, h => simp at h
theorem four_text (a b c d : ByteArray) : ∀ u ∈ [Value.string a, Value.string b, Value.string c, Value.string d], u.oneCell' = true := by
 intro u hu
 simp at hu
 rcases hu with rfl | rfl | rfl | rfl <;> rfl
theorem l2Draw_any (c B : Nat) (a : Option Addr) (len cap : Nat) (zs : List Int) (w : World) (hcur : CurAt w c a len cap) (hcode : CodeAt w B a len zs) (hB : B ≤ c) :
  Calls Tryz.prog 85 #[.pointer (some ⟨c, 0, none⟩)] w fun e w' => FieldsDrawn 40 w c a len cap e w' := by
 obtain ⟨i0, hi, hz0, hz1, hz2⟩ := info_parts info33
 have hcw := hcur.lt
 go_enter Tryz.func85, Tryz.ntmps85
 go_wp2_with fail
 refine (l2DrawRight_any c B a len cap zs _ hcur hcode hB).mono ?_
 rintro e w1 ⟨v, fs, rfl, hown1, hfl, hsh, hcu1, hgw1⟩
 have HSH : Hid (ShortF fs) := hsh
 clear hsh
 go_wp2_with fail
 refine (l1Below_any c B 15 a len cap zs _ hcu1 (hcode.grown hgw1 hB) hB (by omega) (by omega)).mono ?_
 rintro e w2 ⟨x, rfl, hx0, hx1, hcu2, hg2⟩
 have hown2 := owns_grown hown1 hg2 hcw
 have hgw2 := grownBy_trans hgw1 hg2
 clear hcu1 hown1 hg2 hgw1
 by_cases h0 : x = 0
 ·
  subst h0
  go_wp2_with fail
  refine (l2DrawField_any c B a len cap zs _ hcu2 (hcode.grown hgw2 hB) hB).mono ?_
  rintro e w3 ⟨nm, vl, rfl, hnm, hvl, hcu3, hg3⟩
  have hown3 := owns_grown hown2 hg3 hcw
  have hgw3 := grownBy_trans hgw2 hg3
  clear hcu2 hown2 hg3 hgw2
  go_wp2_with fail
  refine (l2DrawField_any c B a len cap zs _ hcu3 (hcode.grown hgw3 hB) hB).mono ?_
  rintro e w4 ⟨nm2, vl2, rfl, hnm2, hvl2, hcu4, hg4⟩
  have hown4 := owns_grown hown3 hg4 hcw
  have hgw4 := grownBy_trans hgw3 hg4
  clear hcu3 hown3 hg4 hgw3
  have h63 : fs.length + 2 ≤ maxLen := by unfold maxLen; omega
  have h47 : (fs.length + 2) * 32 ≤ 140737488355328 := by omega
  have hsw4 := hgw4.size
  have hcl4 := hcu4.lt
  have HBS : ∀ o, w.heap.size ≤ (w4.alloc o).heap.size := fun o => by simp; omega
  go_wp2_with (at_builtin; refine wpList_append_own _ rfl _ _ 24 rfl w.heap.size 74 i0 (.agg #[.string ⟨#[]⟩, .string ⟨#[]⟩]) 2 32 Tryz.underlying24 hi hz0 hz1 hz2 rfl (by decide) _ _ _ rfl (hown4.alloc _) ⟨w4.heap.size, 0, none⟩ 2 2 [.string nm, .string vl, .string nm2, .string vl2] rfl rfl (cell_four_new _ _ _ _ _ _) (four_text _ _ _ _) h63 h47 (HBS _) ?_)
  intro v1 w5 hown5 hgrow _
  have hgw5 : w.grownBy w5 (some c) := grown_later (grownBy_allocR hgw4 _) hgrow (fun g hg => owns_ge hown4 hg)
  have hcu5 : CurAt w5 c a len cap := (hcu4.below ((Below.refl _ _).alloc (Nat.le_refl _) _) hcl4).grown hgrow (fun e => by have := owns_ge hown4 e; omega)
  clear hgrow hown4 hcu4 hgw4 HBS
  go_wp2
  go_ret
  exact ⟨_, (fs ++ [(nm, vl)]) ++ [(nm2, vl2)], rfl, by rw [flatF_append, flatF_append, flatF_one, flatF_one]; simpa using hown5, by simp; omega, (HSH.out.snoc hnm hvl).snoc hnm2 hvl2, hcu5, hgw5⟩
 by_cases h1 : x = 1
 ·
  subst h1
  go_wp2_with fail
  refine (pick_new c B [⟨#[]⟩, ⟨#[65]⟩, ⟨#[99, 111, 110, 116, 101, 110, 116, 45, 108, 101, 110, 103, 116, 104]⟩] 64 (by decide) a len cap zs w2 hcu2 (hcode.grown hgw2 hB) hB (by decide) (by decide)).mono ?_
  rintro e w3 ⟨nm, rfl, hnm, hcu3, hg3⟩
  have hown3 := owns_grown hown2 hg3 hcw
  have hgw3 := grownBy_trans hgw2 hg3
  clear hcu2 hown2 hg3 hgw2
  go_wp2_with fail
  refine (pick_new c B [⟨#[]⟩, ⟨#[32, 97]⟩, ⟨#[49]⟩] 64 (by decide) a len cap zs w3 hcu3 (hcode.grown hgw3 hB) hB (by decide) (by decide)).mono ?_
  rintro e w4 ⟨vl, rfl, hvl, hcu4, hg4⟩
  have hown4 := owns_grown hown3 hg4 hcw
  have hgw4 := grownBy_trans hgw3 hg4
  clear hcu3 hown3 hg4 hgw3
  have h63 : fs.length + 1 ≤ maxLen := by unfold maxLen; omega
  have h47 : (fs.length + 1) * 32 ≤ 140737488355328 := by omega
  have hsw4 := hgw4.size
  have hcl4 := hcu4.lt
  have HBS : ∀ o, w.heap.size ≤ (w4.alloc o).heap.size := fun o => by simp; omega
  go_wp2_with (at_builtin; refine wpList_append_own _ rfl _ _ 24 rfl w.heap.size 74 i0 (.agg #[.string ⟨#[]⟩, .string ⟨#[]⟩]) 2 32 Tryz.underlying24 hi hz0 hz1 hz2 rfl (by decide) _ _ _ rfl (hown4.alloc _) ⟨w4.heap.size, 0, none⟩ 1 1 [.string nm, .string vl] rfl rfl (cell_two_new _ _ _ _) (two_text _ _) h63 h47 (HBS _) ?_)
  intro v1 w5 hown5 hgrow _
  have hgw5 : w.grownBy w5 (some c) := grown_later (grownBy_allocR hgw4 _) hgrow (fun g hg => owns_ge hown4 hg)
  have hcu5 : CurAt w5 c a len cap := (hcu4.below ((Below.refl _ _).alloc (Nat.le_refl _) _) hcl4).grown hgrow (fun e => by have := owns_ge hown4 e; omega)
  clear hgrow hown4 hcu4 hgw4 HBS
  go_wp2
  go_ret
  exact ⟨_, fs ++ [(nm, vl)], rfl, by rw [flatF_append, flatF_one]; simpa using hown5, by simp; omega, HSH.out.snoc hnm hvl, hcu5, hgw5⟩
 by_cases h2 : x = 2
 ·
  subst h2
  clear h0 h1
  go_wp2
  obtain ⟨oa, cp, rfl⟩ := owns_slice hown2
  go_loopw [3] (fun v wr => ∃ (oa : Option Addr) (cp : Nat) (fs : List (ByteArray × ByteArray)), v = .slice oa fs.length cp ∧ wr.ownsRow w.heap.size 74 2 (.slice oa fs.length cp) fs.length (flatF fs) ∧ fs.length ≤ 9 ∧ Hid (ShortF fs) ∧ CurAt wr c a len cap ∧ w.grownBy wr (some c)) (fun v _ => 9 - lenOf v)
  case atStart => exact ⟨oa, cp, fs, rfl, hown2, by omega, HSH, hcu2, hgw2⟩
  case round =>
   obtain ⟨oa, cp, fs, rfl, hown, hfl, hsh, hcu, hgw⟩ := hrel
   go_wp2_with fail
   refine (l1Below_any c B 2 a len cap zs _ hcu (hcode.grown hgw hB) hB (by omega) (by omega)).mono ?_
   rintro e w3 ⟨x, rfl, hx0, hx1, hcu3, hg3⟩
   have hown3 := owns_grown hown hg3 hcw
   have hgw3 := grownBy_trans hgw hg3
   clear hcu hown hg3 hgw
   by_cases hlt : (fs.length : Int) < 8 + x
   ·
    go_wp2_with fail
    refine (specNumText_any fs.length _ (by omega)).mono ?_
    rintro e w4 ⟨rfl, hb4⟩
    obtain ⟨nt, hnt⟩ := exq (numText fs.length)
    have hns : nt.size ≤ 20 := by rw [hnt]; exact numText_short _ (by omega)
    rw [← hnt]
    clear hnt
    have hown4 := owns_below hown3 hb4 (fun g hg => owns_lt hown3 hg)
    have hgw4 : w.grownBy w4 (some c) := grown_later hgw3 (grown_of_below hb4) (fun g e => by cases e)
    have hcu4 := hcu3.below hb4 hcu3.lt
    clear hown3 hgw3 hcu3 hb4
    obtain ⟨nm, hnm⟩ : ∃ nm, nm = (⟨#[110]⟩ : ByteArray) ++ nt := ⟨_, rfl⟩
    have hnz : nm.size ≤ 64 := by rw [hnm, ByteArray.size_append]; show 1 + nt.size ≤ 64; omega
    have hbig : ¬ 9223372036854775807 < 1 + nt.size := by omega
    have h63 : fs.length + 1 ≤ maxLen := by unfold maxLen; omega
    have h47 : (fs.length + 1) * 32 ≤ 140737488355328 := by omega
    have hsw4 := hgw4.size
    have hcl4 := hcu4.lt
    have HBS : ∀ o, w.heap.size ≤ (w4.alloc o).heap.size := fun o => by simp; omega
    have HNM : Hid (nm = (⟨#[110]⟩ : ByteArray) ++ nt) := hnm
    clear hnm
    go_wp2_with (at_builtin; rw [← HNM.out]; refine wpList_append_own _ rfl _ _ 24 rfl w.heap.size 74 i0 (.agg #[.string ⟨#[]⟩, .string ⟨#[]⟩]) 2 32 Tryz.underlying24 hi hz0 hz1 hz2 rfl (by decide) _ _ _ rfl (hown4.alloc _) ⟨w4.heap.size, 0, none⟩ 1 1 [.string nm, .string ⟨#[118]⟩] rfl rfl (cell_two_new _ _ _ _) (two_text _ _) h63 h47 (HBS _) ?_)
    intro v1 w5 hown5 hgrow _
    have hgw5 : w.grownBy w5 (some c) := grown_later (grownBy_allocR hgw4 _) hgrow (fun g hg => owns_ge hown4 hg)
    have hcu5 : CurAt w5 c a len cap := (hcu4.below ((Below.refl _ _).alloc (Nat.le_refl _) _) hcl4).grown hgrow (fun e => by have := owns_ge hown4 e; omega)
    clear hgrow hown4 hcu4 hgw4 HBS
    obtain ⟨oa1, cp1, rfl⟩ := owns_slice hown5
    go_wp2
    go_roundw
    case rel => exact ⟨oa1, cp1, fs ++ [(nm, ⟨#[118]⟩)], by simp, by rw [flatF_append, flatF_one]; simpa using hown5, by simp; omega, hsh.out.snoc hnz (by decide), hcu5, hgw5⟩
    case measure => simp [lenOf]; omega
   ·
    go_wp2
    go_ret
    exact ⟨_, fs, rfl, hown3, by omega, hsh.out, hcu3, hgw3⟩
 ·
  have e0 : (x == 0) = false := by simpa using h0
  have e1 : (x == 1) = false := by simpa using h1
  have e2 : (x == 2) = false := by simpa using h2
  clear h0 h1 h2
  go_wp2
  go_ret
  exact ⟨_, fs, rfl, hown2, by omega, HSH.out, hcu2, hgw2⟩
end Go.Proofs.YtmcmeeibogkpaaaGreatDoorR
namespace Go.Proofs.YtmcmeeibogkpaaaGreatDoorR
open Go.RowKit
open Go.Lib hiding intOf
def bodyL : List ByteArray := [⟨#[]⟩, ⟨#[104, 101, 108, 108, 111]⟩, ⟨#[13, 10, 13, 10]⟩, ⟨#[97, 0, 98]⟩, ⟨#[111, 110, 101, 32, 116, 119, 111]⟩]
theorem l3DrawBody_any (c B : Nat) (a : Option Addr) (len cap : Nat) (zs : List Int) (w : World) (hcur : CurAt w c a len cap) (hcode : CodeAt w B a len zs) (hB : B ≤ c) :
  Calls Tryz.prog 100 #[.pointer (some ⟨c, 0, none⟩)] w fun e w' => TextDrawn 14 w c a len cap e w' := by
 go_enter Tryz.func100, Tryz.ntmps100
 go_wp2_with fail
 refine (l1Once_any c B 2 a len cap zs _ hcur hcode hB (by omega) (by omega)).mono ?_
 rintro e w1 ⟨⟨b, rfl⟩, hcu1, hg1⟩
 have hco1 := hcode.grown hg1 hB
 clear hcur hcode
 cases b
 ·
  go_wp2_with fail
  refine (l1DrawText_any c B a len cap zs _ hcu1 hco1 hB).mono ?_
  rintro e w2 ⟨t, rfl, ht, hcu2, hg2⟩
  have hg3 := grownBy_trans hg1 hg2
  clear hg1 hg2 hcu1 hco1
  go_wp2
  go_ret
  exact ⟨t, rfl, ht, hcu2, hg3⟩
 ·
  go_wp2_with fail
  refine (pick_new c B bodyL 14 (by decide) a len cap zs w1 hcu1 hco1 hB (by decide) (by decide)).mono ?_
  rintro e w2 ⟨t, rfl, ht, hcu2, hg2⟩
  have hg3 := grownBy_trans hg1 hg2
  clear hg1 hg2 hcu1 hco1
  go_wp2
  go_ret
  exact ⟨t, rfl, ht, hcu2, hg3⟩
theorem ints_at (w : World) (xs : List Int) (j : Nat) (hj : j < xs.length) : (w.alloc (.cells (xs.map (Value.int .i64)).toArray 3)).cell? ⟨w.heap.size, j, none⟩ = some (.int .i64 (xs.getD j 0)) := by
 rw [World.cell?_alloc_new]
 simp [List.getD_eq_getElem?_getD, hj]
theorem pickInt_new (c B : Nat) (xs : List Int) (lo hi : Int) (hm : ∀ j, j < xs.length → lo ≤ xs.getD j 0 ∧ xs.getD j 0 ≤ hi) (a : Option Addr) (len cap : Nat) (zs : List Int) (w : World) (hcur : CurAt w c a len cap) (hcode : CodeAt w B a len zs) (hB : B ≤ c) (hn : 1 ≤ xs.length) (hn2 : xs.length ≤ 256) :
  Calls Tryz.prog 88 #[.pointer (some ⟨c, 0, none⟩), .slice (some ⟨w.heap.size, 0, none⟩) xs.length xs.length] (w.alloc (.cells (xs.map (Value.int .i64)).toArray 3)) fun e w' => ∃ n : Int, e = .returned (.int .i64 n) ∧ lo ≤ n ∧ n ≤ hi ∧ CurAt w' c a len cap ∧ w.grownBy w' (some c) := by
 have hc := hcur.lt
 have HL : Hid (∀ j, j < xs.length → (w.alloc (.cells (xs.map (Value.int .i64)).toArray 3)).cell? ⟨w.heap.size, j, none⟩ = some (.int .i64 (xs.getD j 0))) := ints_at w xs
 have HM : Hid (∀ j, j < xs.length → lo ≤ xs.getD j 0 ∧ xs.getD j 0 ≤ hi) := hm
 have hcu0 := hcur.below ((Below.refl _ w).alloc (Nat.le_refl _) (.cells (xs.map (Value.int .i64)).toArray 3)) hc
 have hg0 : w.grownBy (w.alloc (.cells (xs.map (Value.int .i64)).toArray 3)) (some c) := World.grownBy_alloc w _ _
 have hco0 := hcode.grown hg0 hB
 clear hm hcur hcode
 obtain ⟨w0, hw0⟩ := exq (w.alloc (.cells (xs.map (Value.int .i64)).toArray 3))
 rw [← hw0] at HL hcu0 hg0 hco0 ⊢
 obtain ⟨n, hnn⟩ := exq xs.length
 rw [← hnn] at HL HM hn hn2 ⊢
 obtain ⟨g, hg⟩ := exq (w.heap.size)
 have hgc : g ≠ c := by omega
 rw [← hg] at HL ⊢
 clear hw0 hnn hg
 go_enter Tryz.func88, Tryz.ntmps88
 go_wp2_with fail
 refine (l1Below_any c B n a len cap zs _ hcu0 hco0 hB (by omega) (by omega)).mono ?_
 rintro e w1 ⟨x, rfl, hx0, hx1, hcur1, hg1⟩
 obtain ⟨j, rfl⟩ := Int.eq_ofNat_of_zero_le hx0
 have hj : j < n := by omega
 have hcell : w1.cell? ⟨g, j, none⟩ = some (.int .i64 (xs.getD j 0)) := grown_cell hg1 (HL.out j hj) hgc
 have hjr := HM.out j hj
 have hg2 := grownBy_trans hg0 hg1
 clear hg0 hg1 hcu0 hco0
 go_wp2
 go_ret
 exact ⟨_, rfl, hjr.1, hjr.2, hcur1, hg2⟩
/-- A call on the cursor answers a request of short texts, in memory of its own, and turns the cursor alone of what was there. -/
def ReqDrawn (bmax : Nat) (w : World) (c : Nat) (a : Option Addr) (len cap : Nat) (e : Ending) (w' : World) : Prop :=
 ∃ (m : Int) (p : ByteArray) (v : Value) (fs : List (ByteArray × ByteArray)) (b : ByteArray), e = .returned (.agg #[.int .i64 m, .string p, v, .string b]) ∧ (-1000 ≤ m ∧ m ≤ 1000) ∧ p.size ≤ 64 ∧ w'.ownsRow w.heap.size 74 2 v fs.length (flatF fs) ∧ fs.length ≤ 40 ∧ ShortF fs ∧ b.size ≤ bmax ∧ CurAt w' c a len cap ∧ w.grownBy w' (some c)
theorem kind_list : (⟨#[107, 105, 110, 100]⟩ : ByteArray).toList = [107, 105, 110, 100] := by rw [ByteArray.toList_eq]
theorem cacheC_list : (⟨#[99, 97, 99, 104, 101, 45, 99, 111, 110, 116, 114, 111, 108]⟩ : ByteArray).toList = [99, 97, 99, 104, 101, 45, 99, 111, 110, 116, 114, 111, 108] := by rw [ByteArray.toList_eq]
theorem ifNone_list : (⟨#[105, 102, 45, 110, 111, 110, 101, 45, 109, 97, 116, 99, 104]⟩ : ByteArray).toList = [105, 102, 45, 110, 111, 110, 101, 45, 109, 97, 116, 99, 104] := by rw [ByteArray.toList_eq]
/-- A request that is being drawn: its memory, its fields, the cursor. -/
structure DReq (w : World) (c R r : Nat) (m : Int) (p : ByteArray) (fv : Value) (fs : List (ByteArray × ByteArray)) (b : ByteArray) (a : Option Addr) (len cap : Nat) (W : World) : Prop where
 hR : W.heap[R]? = some (.cells #[.int .i64 0, .string ⟨#[]⟩, .slice none 0 0, .string ⟨#[]⟩] 26)
 hr : W.heap[r]? = some (.cells #[.int .i64 m, .string p, fv, .string b] 26)
 own : W.ownsRow w.heap.size 74 2 fv fs.length (flatF fs)
 cur : CurAt W c a len cap
 grow : w.grownBy W (some c)
 apart : ∀ j, fv.ownBlock = some j → j ≠ R ∧ j ≠ r
theorem DReq.later {w : World} {c R r : Nat} {m : Int} {p : ByteArray} {fv : Value} {fs : List (ByteArray × ByteArray)} {b : ByteArray} {a : Option Addr} {len cap : Nat} {W W' : World} (h : DReq w c R r m p fv fs b a len cap W) (hcw : c < w.heap.size) (hRw : w.heap.size ≤ R) (hrw : w.heap.size ≤ r) (hcu : CurAt W' c a len cap) (hg : W.grownBy W' (some c)) : DReq w c R r m p fv fs b a len cap W' := by
 refine ⟨?_, ?_, ?_, hcu, grownBy_trans h.grow hg, h.apart⟩
 · rw [hg.block R ((Array.getElem?_eq_some_iff.1 h.hR).1) (fun e => by have := Option.some.inj e; omega)]; exact h.hR
 · rw [hg.block r ((Array.getElem?_eq_some_iff.1 h.hr).1) (fun e => by have := Option.some.inj e; omega)]; exact h.hr
 · exact h.own.kept hg (by cases h2 : fv.ownBlock <;> simp; exact fun e => by have h7 := owns_ge h.own h2; omega)
theorem owns_heap {w : World} {base : Nat} {t : TypeId} {size : Nat} {v : Value} {n : Nat} {xs : List Value} {j : Nat} (h : w.ownsRow base t size v n xs) (hj : v.ownBlock = some j) : ∃ cur, w.heap[j]? = some (.cells cur t (0, 0)) := by
 rcases h.2 with ⟨rfl, rfl⟩ | ⟨g, cap, cur, rfl, _, h1, _⟩
 · cases hj
 · cases hj; exact ⟨cur, h1⟩
/-- One field more. -/
theorem DReq.more {w : World} {c R r : Nat} {m : Int} {p : ByteArray} {fv : Value} {fs : List (ByteArray × ByteArray)} {b f v : ByteArray} {a : Option Addr} {len cap : Nat} {W W5 : World} {o : Obj} {v1 : Value} (h : DReq w c R r m p fv fs b a len cap W) (hcw : c < w.heap.size) (hRw : w.heap.size ≤ R) (hrw : w.heap.size ≤ r) (hrR : R ≠ r) (hg : (W.alloc o).grownBy W5 fv.ownBlock) (hown : W5.ownsRow w.heap.size 74 2 v1 (fs.length + 1) (flatF fs ++ [.string f, .string v])) :
  (W5.heap[r]? = some (.cells #[.int .i64 m, .string p, fv, .string b] 26)) ∧ DReq w c R r m p v1 (fs ++ [(f, v)]) b a len cap (W5.setCell ⟨r, 2, none⟩ v1) := by
 have hs : (W.alloc o).heap.size = W.heap.size + 1 := by simp
 have hRl := (Array.getElem?_eq_some_iff.1 h.hR).1
 have hrl := (Array.getElem?_eq_some_iff.1 h.hr).1
 have hcl := h.cur.lt
 have hR5 : W5.heap[R]? = some (.cells #[.int .i64 0, .string ⟨#[]⟩, .slice none 0 0, .string ⟨#[]⟩] 26) := by
  rw [hg.block R (by omega) (fun e => (h.apart R e.symm).1 rfl), heap_alloc_old _ _ hRl]; exact h.hR
 have hr5 : W5.heap[r]? = some (.cells #[.int .i64 m, .string p, fv, .string b] 26) := by
  rw [hg.block r (by omega) (fun e => (h.apart r e.symm).2 rfl), heap_alloc_old _ _ hrl]; exact h.hr
 have hap : ∀ j, v1.ownBlock = some j → j ≠ R ∧ j ≠ r := fun j hj => by
  obtain ⟨cur, hcj⟩ := owns_heap hown hj
  refine ⟨fun e => ?_, fun e => ?_⟩
  ·
   rw [e, hR5] at hcj
   simp at hcj
  ·
   rw [e, hr5] at hcj
   simp at hcj
 have hg5 : w.grownBy W5 (some c) := by
  have h1 := grownBy_trans h.grow (World.grownBy_alloc W o (some c))
  refine ⟨hg.os.trans h1.os, hg.tape.trans h1.tape, hg.output.trans h1.output, Nat.le_trans h1.size hg.size, fun i hi hne => ?_⟩
  rw [hg.block i (by have := h1.size; omega) (fun e => by have := owns_ge h.own e.symm; omega)]
  exact h1.block i hi hne
 refine ⟨hr5, ?_, ?_, ?_, ?_, grown_later hg5 (grown_set W5 r 2 v1) (fun g e => by cases e; exact hrw), hap⟩
 · rw [heap_setCell_other _ _ R _ (fun e => hrR e)]; exact hR5
 ·
  have := heap_set W5 r 2 _ _ _ v1 hr5
  simpa using this
 ·
  have h2 : (W5.setCell ⟨r, 2, none⟩ v1).ownsRow w.heap.size 74 2 v1 (fs.length + 1) (flatF fs ++ [.string f, .string v]) := hown.kept (grown_set W5 r 2 v1) (by cases h3 : v1.ownBlock <;> simp; exact (hap _ h3).2)
  rw [flatF_append, flatF_one]; simpa using h2
 ·
  obtain ⟨i, hh, hi, h4⟩ := h.cur
  refine ⟨i, hh, hi, ?_⟩
  rw [heap_setCell_other _ _ c _ (fun e => by have e2 : c = r := e; omega), hg.block c (by omega) (fun e => by have := owns_ge h.own e.symm; omega), heap_alloc_old _ _ hcl]
  exact h4
/-- The body set. -/
theorem DReq.setBody {w : World} {c R r : Nat} {m : Int} {p : ByteArray} {fv : Value} {fs : List (ByteArray × ByteArray)} {b : ByteArray} {a : Option Addr} {len cap : Nat} {W : World} (h : DReq w c R r m p fv fs b a len cap W) (hcw : c < w.heap.size) (hrw : w.heap.size ≤ r) (hrR : R ≠ r) (b' : ByteArray) : DReq w c R r m p fv fs b' a len cap (W.setCell ⟨r, 3, none⟩ (.string b')) := by
 refine ⟨?_, ?_, ?_, ?_, grown_later h.grow (grown_set W r 3 _) (fun g e => by cases e; exact hrw), h.apart⟩
 · rw [heap_setCell_other _ _ R _ (fun e => hrR e)]; exact h.hR
 ·
  have := heap_set W r 3 _ _ _ (.string b') h.hr
  simpa using this
 · exact h.own.kept (grown_set W r 3 _) (by cases h3 : fv.ownBlock <;> simp; exact (h.apart _ h3).2)
 ·
  obtain ⟨i, hh, hi, h4⟩ := h.cur
  refine ⟨i, hh, hi, ?_⟩
  rw [heap_setCell_other _ _ c _ (fun e => by have e2 : c = r := e; omega)]
  exact h4
/-- The request handed back. -/
theorem DReq.fin {w : World} {c R r : Nat} {m : Int} {p : ByteArray} {fv : Value} {fs : List (ByteArray × ByteArray)} {b : ByteArray} {a : Option Addr} {len cap : Nat} {W : World} (h : DReq w c R r m p fv fs b a len cap W) (hcw : c < w.heap.size) (hRw : w.heap.size ≤ R) (hm : -1000 ≤ m ∧ m ≤ 1000) (hp : p.size ≤ 64) (hf : fs.length ≤ 40) (hsh : ShortF fs) {bmax : Nat} (hb : b.size ≤ bmax) :
  (fourSet W R (.int .i64 m) (.string p) fv (.string b)).heap[R]? = some (.cells #[.int .i64 m, .string p, fv, .string b] 26) ∧ ReqDrawn bmax w c a len cap (.returned (.agg #[.int .i64 m, .string p, fv, .string b])) (fourSet W R (.int .i64 m) (.string p) fv (.string b)) := by
 have hg : W.grownBy (fourSet W R (.int .i64 m) (.string p) fv (.string b)) (some R) := by
  unfold fourSet
  exact grown_then (grown_then (grown_then (grown_set _ _ _ _) (grown_set _ _ _ _)) (grown_set _ _ _ _)) (grown_set _ _ _ _)
 refine ⟨four_set h.hR _ _ _ _, m, p, fv, fs, b, rfl, hm, hp, ?_, hf, hsh, hb, ?_, grown_later h.grow hg (fun g e => by cases e; exact hRw)⟩
 · exact h.own.kept hg (by cases h3 : fv.ownBlock <;> simp; exact (h.apart _ h3).1)
 ·
  obtain ⟨i, hh, hi, h4⟩ := h.cur
  refine ⟨i, hh, hi, ?_⟩
  rw [hg.block c (Array.getElem?_eq_some_iff.1 h4).1 (fun e => by have := Option.some.inj e; omega)]
  exact h4
theorem l3DrawReq_any (c B : Nat) (a : Option Addr) (len cap : Nat) (zs : List Int) (w : World) (hcur : CurAt w c a len cap) (hcode : CodeAt w B a len zs) (hB : B ≤ c) :
  Calls Tryz.prog 51 #[.pointer (some ⟨c, 0, none⟩)] w fun e w' => ReqDrawn 14 w c a len cap e w' := by
 obtain ⟨i0, hi, hz0, hz1, hz2⟩ := info_parts info33
 have hcw := hcur.lt
 have HCO : Hid (∀ W, w.grownBy W (some c) → CodeAt W B a len zs) := fun W h => hcode.grown h hB
 obtain ⟨R, hR⟩ := exq (w.heap.size)
 have hg0 : w.grownBy (w.alloc (.cells #[.int .i64 0, .string ⟨#[]⟩, .slice none 0 0, .string ⟨#[]⟩] 26)) (some c) := World.grownBy_alloc w _ _
 have hcu0 := hcur.below ((Below.refl _ w).alloc (Nat.le_refl _) (.cells #[.int .i64 0, .string ⟨#[]⟩, .slice none 0 0, .string ⟨#[]⟩] 26)) hcw
 have hco0 := HCO.out _ hg0
 have hz0' : (w.alloc (.cells #[.int .i64 0, .string ⟨#[]⟩, .slice none 0 0, .string ⟨#[]⟩] 26)).heap[R]? = some (.cells #[.int .i64 0, .string ⟨#[]⟩, .slice none 0 0, .string ⟨#[]⟩] 26) := by rw [hR]; exact heap_alloc_new w _
 have hRlt : R < (w.alloc (.cells #[.int .i64 0, .string ⟨#[]⟩, .slice none 0 0, .string ⟨#[]⟩] 26)).heap.size := by rw [hR]; simp
 have hRc : R ≠ c := by omega
 have hRw : w.heap.size ≤ R := by omega
 have HRE : Hid (R = w.heap.size) := hR
 obtain ⟨w0, hw0⟩ := exq (w.alloc (.cells #[.int .i64 0, .string ⟨#[]⟩, .slice none 0 0, .string ⟨#[]⟩] 26))
 have HS0 : Hid (w0.heap.size = w.heap.size + 1) := by show _ = _; rw [hw0]; simp
 have HW0 : Hid (w0 = w.alloc (.cells #[.int .i64 0, .string ⟨#[]⟩, .slice none 0 0, .string ⟨#[]⟩] 26)) := hw0
 rw [← hw0] at hg0 hcu0 hco0 hz0' hRlt
 clear hcur hcode hR hw0
 go_enter Tryz.func51, Tryz.ntmps51
 go_wp2_with fail
 rw [← HW0.out, ← HS0.out]
 refine (pickInt_new c B [1, 1, 1, 1, 2, 3, 4] 1 4 (by decide) a len cap zs w0 hcu0 hco0 hB (by decide) (by decide)).mono ?_
 rintro e w1 ⟨m, rfl, hm1, hm2, hcu1, hg1⟩
 have hga1 := grownBy_trans hg0 hg1
 have hz1' : w1.heap[R]? = some (.cells #[.int .i64 0, .string ⟨#[]⟩, .slice none 0 0, .string ⟨#[]⟩] 26) := by rw [hg1.block R hRlt (fun e => hRc (Option.some.inj e))]; exact hz0'
 have hR1 : R < w1.heap.size := (Array.getElem?_eq_some_iff.1 hz1').1
 clear hg0 hg1 hcu0 hco0 hz0' hRlt
 go_wp2_with fail
 refine (pick_new c B [⟨#[47]⟩, ⟨#[47, 97]⟩, ⟨#[47, 97, 47, 98]⟩, ⟨#[47, 98]⟩] 64 (by decide) a len cap zs w1 hcu1 (HCO.out _ hga1) hB (by decide) (by decide)).mono ?_
 rintro e w2 ⟨p, rfl, hp, hcu2, hg2⟩
 have hga2 := grownBy_trans hga1 hg2
 have hz2' : w2.heap[R]? = some (.cells #[.int .i64 0, .string ⟨#[]⟩, .slice none 0 0, .string ⟨#[]⟩] 26) := by rw [hg2.block R hR1 (fun e => hRc (Option.some.inj e))]; exact hz1'
 have hR2 : R < w2.heap.size := (Array.getElem?_eq_some_iff.1 hz2').1
 rw [← HRE.out]
 clear hg2 hga1 hcu1 hz1' hR1
 obtain ⟨r, hr⟩ := exq (w2.heap.size)
 have hrw : w.heap.size ≤ r := by rw [hr]; exact hga2.size
 have hrR : R ≠ r := by omega
 have HD0 : Hid (DReq w c R r m p (.slice none 0 0) [] ⟨#[]⟩ a len cap (w2.alloc (.cells #[.int .i64 m, .string p, .slice none 0 0, .string ⟨#[]⟩] 26))) := by
  have hgal : w2.grownBy (w2.alloc (.cells #[.int .i64 m, .string p, .slice none 0 0, .string ⟨#[]⟩] 26)) (some c) := World.grownBy_alloc w2 _ _
  refine ⟨?_, by rw [hr]; exact heap_alloc_new w2 _, ⟨rfl, .inl ⟨rfl, rfl⟩⟩, hcu2.below ((Below.refl _ w2).alloc (Nat.le_refl _) _) hcu2.lt, grownBy_trans hga2 hgal, fun j h => by cases h⟩
  rw [hgal.block R hR2 (fun e => hRc (Option.some.inj e))]; exact hz2'
 have HR' : Hid (r = w2.heap.size) := hr
 clear hr hz2' hR2 hcu2 hga2
 go_wp2_with fail
 rw [← HR'.out]
 go_loopw [4] (fun i wr => ∃ (k : Nat) (fs : List (ByteArray × ByteArray)) (fv : Value), k ≤ 4 ∧ fs.length ≤ k ∧ i = .int .i64 (k : Int) ∧ Hid (ShortF fs) ∧ Hid (DReq w c R r m p fv fs ⟨#[]⟩ a len cap wr)) (fun i _ => 4 - (intOf i).toNat)
 case atStart => exact ⟨0, [], _, by omega, Nat.le_refl _, rfl, (fun f hf => by cases hf), HD0⟩
 case round =>
  obtain ⟨k, fs, fv, hk, hfl, rfl, hsh, hd⟩ := hrel
  obtain ⟨fo, fc, rfl⟩ := slice_of_owns hd.out.own
  go_wp2_with fail
  refine (l1Below_any c B 4 a len cap zs _ hd.out.cur (HCO.out _ hd.out.grow) hB (by omega) (by omega)).mono ?_
  rintro e wa ⟨x, rfl, hx0, hx1, hcua, hgaa⟩
  have hda : Hid (DReq w c R r m p (.slice fo fs.length fc) fs ⟨#[]⟩ a len cap wa) := hd.out.later hcw hRw hrw hcua hgaa
  clear hcua hgaa hd
  by_cases hkx : (k : Int) < x
  ·
   go_wp2_with fail
   refine (pick_new c B [⟨#[108, 97, 110, 103]⟩, ⟨#[107, 105, 110, 100]⟩, ⟨#[99, 97, 99, 104, 101, 45, 99, 111, 110, 116, 114, 111, 108]⟩, ⟨#[105, 102, 45, 110, 111, 110, 101, 45, 109, 97, 116, 99, 104]⟩, ⟨#[120, 45, 97]⟩] 64 (by decide) a len cap zs wa hda.out.cur (HCO.out _ hda.out.grow) hB (by decide) (by decide)).mono ?_
   rintro e wb ⟨f, rfl, hf, hcub, hgb⟩
   have hdb : Hid (DReq w c R r m p (.slice fo fs.length fc) fs ⟨#[]⟩ a len cap wb) := hda.out.later hcw hRw hrw hcub hgb
   obtain ⟨⟨c0, c1, c2, c3⟩, f0, f1, f2, f3⟩ := four_facts hdb.out.hr
   clear hcub hgb hda
   go_wp2_with fail
   refine (l2At_any _ fs.length _ fs f _ (FieldsV.of_owns hdb.out.own) (by omega)).mono ?_
   rintro e wc ⟨rfl, rfl⟩
   by_cases hat : atI fs f < 0
   ·
    skip
    go_wp2_with fail
    refine (pick_new c B [⟨#[100, 101]⟩, ⟨#[101, 110]⟩] 64 (by decide) a len cap zs wc hdb.out.cur (HCO.out _ hdb.out.grow) hB (by decide) (by decide)).mono ?_
    rintro e wd ⟨v, rfl, hv, hcud, hgd⟩
    have hdd : Hid (DReq w c R r m p (.slice fo fs.length fc) fs ⟨#[]⟩ a len cap wd) := hdb.out.later hcw hRw hrw hcud hgd
    clear hcud hgd
    clear c0 c1 c2 c3 f0 f1 f2 f3
    by_cases e1 : f = ⟨#[107, 105, 110, 100]⟩
    ·
     have ht := (text_beq _ _).2 e1
     rw [kind_list] at ht
     clear e1
     go_wp2_with fail
     refine (pick_new c B [⟨#[120]⟩, ⟨#[121]⟩] 64 (by decide) a len cap zs wd hdd.out.cur (HCO.out _ hdd.out.grow) hB (by decide) (by decide)).mono ?_
     rintro e we ⟨v2, rfl, hv2, hcue, hge⟩
     have hde : Hid (DReq w c R r m p (.slice fo fs.length fc) fs ⟨#[]⟩ a len cap we) := hdd.out.later hcw hRw hrw hcue hge
     clear hcue hge
     have h63 : fs.length + 1 ≤ maxLen := by unfold maxLen; omega
     have h47 : (fs.length + 1) * 32 ≤ 140737488355328 := by omega
     have HBS : ∀ o, w.heap.size ≤ (we.alloc o).heap.size := fun o => by have := hde.out.grow.size; simp; omega
     obtain ⟨⟨c0, c1, c2, c3⟩, f0, f1, f2, f3⟩ := four_facts hde.out.hr
     go_wp2_with (at_builtin; refine wpList_append_own _ rfl _ _ 24 rfl w.heap.size 74 i0 (.agg #[.string ⟨#[]⟩, .string ⟨#[]⟩]) 2 32 Tryz.underlying24 hi hz0 hz1 hz2 rfl (by decide) _ _ _ rfl (hde.out.own.alloc _) ⟨we.heap.size, 0, none⟩ 1 1 [.string f, .string v2] rfl rfl (cell_two_new _ _ _ _) (two_text _ _) h63 h47 (HBS _) ?_)
     intro v1 w5 hown5 hgrow _
     obtain ⟨fo1, fc1, rfl⟩ := slice_of_owns hown5
     obtain ⟨hr5, hd5⟩ := hde.out.more hcw hRw hrw hrR hgrow hown5
     have HD5 : Hid (DReq w c R r m p (.slice fo1 (fs.length + 1) fc1) (fs ++ [(f, v2)]) ⟨#[]⟩ a len cap (w5.setCell ⟨r, 2, none⟩ (.slice fo1 (fs.length + 1) fc1))) := hd5
     have HSH : Hid (ShortF (fs ++ [(f, v2)])) := hsh.out.snoc hf hv2
     clear c0 c1 c2 c3 f0 f1 f2 f3
     obtain ⟨⟨c0, c1, c2, c3⟩, f0, f1, f2, f3⟩ := four_facts hr5
     clear hr5 hd5 hgrow hown5 HBS
     go_wp2
     go_roundw
     case rel => exact ⟨k + 1, _, _, by omega, by simp; omega, by go_num, HSH, HD5⟩
     case measure => simp [intOf]; omega
    ·
     have ht := text_beq_no e1
     rw [kind_list] at ht
     by_cases e2 : f = ⟨#[99, 97, 99, 104, 101, 45, 99, 111, 110, 116, 114, 111, 108]⟩
     ·
      have ht2 := (text_beq _ _).2 e2
      rw [cacheC_list] at ht2
      clear e1 e2
      go_wp2_with fail
      refine (pick_new c B [⟨#[110, 111, 45, 99, 97, 99, 104, 101]⟩, ⟨#[110, 111, 45, 115, 116, 111, 114, 101]⟩, ⟨#[109, 97, 120, 45, 97, 103, 101, 61, 51]⟩] 64 (by decide) a len cap zs wd hdd.out.cur (HCO.out _ hdd.out.grow) hB (by decide) (by decide)).mono ?_
      rintro e we ⟨v2, rfl, hv2, hcue, hge⟩
      have hde : Hid (DReq w c R r m p (.slice fo fs.length fc) fs ⟨#[]⟩ a len cap we) := hdd.out.later hcw hRw hrw hcue hge
      clear hcue hge
      have h63 : fs.length + 1 ≤ maxLen := by unfold maxLen; omega
      have h47 : (fs.length + 1) * 32 ≤ 140737488355328 := by omega
      have HBS : ∀ o, w.heap.size ≤ (we.alloc o).heap.size := fun o => by have := hde.out.grow.size; simp; omega
      obtain ⟨⟨c0, c1, c2, c3⟩, f0, f1, f2, f3⟩ := four_facts hde.out.hr
      go_wp2_with (at_builtin; refine wpList_append_own _ rfl _ _ 24 rfl w.heap.size 74 i0 (.agg #[.string ⟨#[]⟩, .string ⟨#[]⟩]) 2 32 Tryz.underlying24 hi hz0 hz1 hz2 rfl (by decide) _ _ _ rfl (hde.out.own.alloc _) ⟨we.heap.size, 0, none⟩ 1 1 [.string f, .string v2] rfl rfl (cell_two_new _ _ _ _) (two_text _ _) h63 h47 (HBS _) ?_)
      intro v1 w5 hown5 hgrow _
      obtain ⟨fo1, fc1, rfl⟩ := slice_of_owns hown5
      obtain ⟨hr5, hd5⟩ := hde.out.more hcw hRw hrw hrR hgrow hown5
      have HD5 : Hid (DReq w c R r m p (.slice fo1 (fs.length + 1) fc1) (fs ++ [(f, v2)]) ⟨#[]⟩ a len cap (w5.setCell ⟨r, 2, none⟩ (.slice fo1 (fs.length + 1) fc1))) := hd5
      have HSH : Hid (ShortF (fs ++ [(f, v2)])) := hsh.out.snoc hf hv2
      clear c0 c1 c2 c3 f0 f1 f2 f3
      obtain ⟨⟨c0, c1, c2, c3⟩, f0, f1, f2, f3⟩ := four_facts hr5
      clear hr5 hd5 hgrow hown5 HBS
      go_wp2
      go_roundw
      case rel => exact ⟨k + 1, _, _, by omega, by simp; omega, by go_num, HSH, HD5⟩
      case measure => simp [intOf]; omega
     ·
      have ht2 := text_beq_no e2
      rw [cacheC_list] at ht2
      by_cases e3 : f = ⟨#[105, 102, 45, 110, 111, 110, 101, 45, 109, 97, 116, 99, 104]⟩
      ·
       have ht3 := (text_beq _ _).2 e3
       rw [ifNone_list] at ht3
       clear e1 e2 e3
       go_wp2_with fail
       refine (pick_new c B [⟨#[97]⟩, ⟨#[98]⟩] 64 (by decide) a len cap zs wd hdd.out.cur (HCO.out _ hdd.out.grow) hB (by decide) (by decide)).mono ?_
       rintro e we ⟨v2, rfl, hv2, hcue, hge⟩
       have hde : Hid (DReq w c R r m p (.slice fo fs.length fc) fs ⟨#[]⟩ a len cap we) := hdd.out.later hcw hRw hrw hcue hge
       clear hcue hge
       have h63 : fs.length + 1 ≤ maxLen := by unfold maxLen; omega
       have h47 : (fs.length + 1) * 32 ≤ 140737488355328 := by omega
       have HBS : ∀ o, w.heap.size ≤ (we.alloc o).heap.size := fun o => by have := hde.out.grow.size; simp; omega
       obtain ⟨⟨c0, c1, c2, c3⟩, f0, f1, f2, f3⟩ := four_facts hde.out.hr
       go_wp2_with (at_builtin; refine wpList_append_own _ rfl _ _ 24 rfl w.heap.size 74 i0 (.agg #[.string ⟨#[]⟩, .string ⟨#[]⟩]) 2 32 Tryz.underlying24 hi hz0 hz1 hz2 rfl (by decide) _ _ _ rfl (hde.out.own.alloc _) ⟨we.heap.size, 0, none⟩ 1 1 [.string f, .string v2] rfl rfl (cell_two_new _ _ _ _) (two_text _ _) h63 h47 (HBS _) ?_)
       intro v1 w5 hown5 hgrow _
       obtain ⟨fo1, fc1, rfl⟩ := slice_of_owns hown5
       obtain ⟨hr5, hd5⟩ := hde.out.more hcw hRw hrw hrR hgrow hown5
       have HD5 : Hid (DReq w c R r m p (.slice fo1 (fs.length + 1) fc1) (fs ++ [(f, v2)]) ⟨#[]⟩ a len cap (w5.setCell ⟨r, 2, none⟩ (.slice fo1 (fs.length + 1) fc1))) := hd5
       have HSH : Hid (ShortF (fs ++ [(f, v2)])) := hsh.out.snoc hf hv2
       clear c0 c1 c2 c3 f0 f1 f2 f3
       obtain ⟨⟨c0, c1, c2, c3⟩, f0, f1, f2, f3⟩ := four_facts hr5
       clear hr5 hd5 hgrow hown5 HBS
       go_wp2
       go_roundw
       case rel => exact ⟨k + 1, _, _, by omega, by simp; omega, by go_num, HSH, HD5⟩
       case measure => simp [intOf]; omega
      ·
       have ht3 := text_beq_no e3
       rw [ifNone_list] at ht3
       clear e1 e2 e3
       have h63 : fs.length + 1 ≤ maxLen := by unfold maxLen; omega
       have h47 : (fs.length + 1) * 32 ≤ 140737488355328 := by omega
       have HBS : ∀ o, w.heap.size ≤ (wd.alloc o).heap.size := fun o => by have := hdd.out.grow.size; simp; omega
       obtain ⟨⟨c0, c1, c2, c3⟩, f0, f1, f2, f3⟩ := four_facts hdd.out.hr
       go_wp2_with (at_builtin; refine wpList_append_own _ rfl _ _ 24 rfl w.heap.size 74 i0 (.agg #[.string ⟨#[]⟩, .string ⟨#[]⟩]) 2 32 Tryz.underlying24 hi hz0 hz1 hz2 rfl (by decide) _ _ _ rfl (hdd.out.own.alloc _) ⟨wd.heap.size, 0, none⟩ 1 1 [.string f, .string v] rfl rfl (cell_two_new _ _ _ _) (two_text _ _) h63 h47 (HBS _) ?_)
       intro v1 w5 hown5 hgrow _
       obtain ⟨fo1, fc1, rfl⟩ := slice_of_owns hown5
       obtain ⟨hr5, hd5⟩ := hdd.out.more hcw hRw hrw hrR hgrow hown5
       have HD5 : Hid (DReq w c R r m p (.slice fo1 (fs.length + 1) fc1) (fs ++ [(f, v)]) ⟨#[]⟩ a len cap (w5.setCell ⟨r, 2, none⟩ (.slice fo1 (fs.length + 1) fc1))) := hd5
       have HSH : Hid (ShortF (fs ++ [(f, v)])) := hsh.out.snoc hf hv
       clear c0 c1 c2 c3 f0 f1 f2 f3
       obtain ⟨⟨c0, c1, c2, c3⟩, f0, f1, f2, f3⟩ := four_facts hr5
       clear hr5 hd5 hgrow hown5 HBS
       go_wp2
       go_roundw
       case rel => exact ⟨k + 1, _, _, by omega, by simp; omega, by go_num, HSH, HD5⟩
       case measure => simp [intOf]; omega
   ·
    go_wp2
    go_roundw
    case rel => exact ⟨k + 1, fs, _, by omega, by omega, by go_num, hsh, hdb⟩
    case measure => simp [intOf]; omega
  ·
   skip
   obtain ⟨⟨c0, c1, c2, c3⟩, f0, f1, f2, f3⟩ := four_facts hda.out.hr
   obtain ⟨⟨d0, d1, d2, d3⟩, g0, g1, g2, g3⟩ := four_facts hda.out.hR
   by_cases hm3 : m = 3
   ·
    have hme : (m == 3) = true := by rw [beq_iff_eq]; exact hm3
    clear hm3
    go_wp2_with fail
    refine (l3DrawBody_any c B a len cap zs _ hda.out.cur (HCO.out _ hda.out.grow) hB).mono ?_
    rintro e wb ⟨b, rfl, hb, hcub, hgb⟩
    have hdb : Hid (DReq w c R r m p (.slice fo fs.length fc) fs ⟨#[]⟩ a len cap wb) := hda.out.later hcw hRw hrw hcub hgb
    clear c0 c1 c2 c3 f0 f1 f2 f3 d0 d1 d2 d3 g0 g1 g2 g3 hcub hgb hda
    obtain ⟨⟨c0, c1, c2, c3⟩, f0, f1, f2, f3⟩ := four_facts hdb.out.hr
    have hdc : Hid (DReq w c R r m p (.slice fo fs.length fc) fs b a len cap (wb.setCell ⟨r, 3, none⟩ (.string b))) := hdb.out.setBody hcw hrw hrR b
    obtain ⟨⟨i0', i1, i2, i3⟩, j0, j1, j2, j3⟩ := four_facts hdc.out.hr
    obtain ⟨⟨d0, d1, d2, d3⟩, g0, g1, g2, g3⟩ := four_facts hdc.out.hR
    obtain ⟨hh, hfin⟩ := hdc.out.fin (bmax := 14) hcw hRw ⟨by omega, by omega⟩ hp (by omega) hsh.out hb
    obtain ⟨⟨k0, k1, k2, k3⟩, _⟩ := four_facts hh
    have HFIN : Hid _ := hfin
    unfold fourSet at k0 k1 k2 k3
    clear hh hfin
    go_wp2_with fail
    exact bodyPost_ret (v := .agg #[.int .i64 m, .string p, .slice fo fs.length fc, .string b]) (by simp [results, Tryz.results51, go_sem, k0, k1, k2, k3]) rfl HFIN.out
   ·
    have hme : (m == 3) = false := by rw [beq_eq_false_iff_ne]; exact hm3
    obtain ⟨hh, hfin⟩ := hda.out.fin (bmax := 14) hcw hRw ⟨by omega, by omega⟩ hp (by omega) hsh.out (by decide)
    obtain ⟨⟨k0, k1, k2, k3⟩, _⟩ := four_facts hh
    have HFIN : Hid _ := hfin
    unfold fourSet at k0 k1 k2 k3
    clear hh hfin
    go_wp2_with fail
    exact bodyPost_ret (v := .agg #[.int .i64 m, .string p, .slice fo fs.length fc, .string ⟨#[]⟩]) (by simp [results, Tryz.results51, go_sem, k0, k1, k2, k3]) rfl HFIN.out
end Go.Proofs.YtmcmeeibogkpaaaGreatDoorR
namespace Go.Proofs.YtmcmeeibogkpaaaGreatDoorR
open Go.RowKit
open Go.Lib hiding intOf
theorem DReq.setMethod {w : World} {c R r : Nat} {m : Int} {p : ByteArray} {fv : Value} {fs : List (ByteArray × ByteArray)} {b : ByteArray} {a : Option Addr} {len cap : Nat} {W : World} (h : DReq w c R r m p fv fs b a len cap W) (hcw : c < w.heap.size) (hrw : w.heap.size ≤ r) (hrR : R ≠ r) (m' : Int) : DReq w c R r m' p fv fs b a len cap (W.setCell ⟨r, 0, none⟩ (.int .i64 m')) := by
 refine ⟨?_, ?_, ?_, ?_, grown_later h.grow (grown_set W r 0 _) (fun g e => by cases e; exact hrw), h.apart⟩
 · rw [heap_setCell_other _ _ R _ (fun e => hrR e)]; exact h.hR
 ·
  have := heap_set W r 0 _ _ _ (.int .i64 m') h.hr
  simpa using this
 · exact h.own.kept (grown_set W r 0 _) (by cases h3 : fv.ownBlock <;> simp; exact (h.apart _ h3).2)
 ·
  obtain ⟨i, hh, hi, h4⟩ := h.cur
  refine ⟨i, hh, hi, ?_⟩
  rw [heap_setCell_other _ _ c _ (fun e => by have e2 : c = r := e; omega)]
  exact h4
theorem DReq.setPath {w : World} {c R r : Nat} {m : Int} {p : ByteArray} {fv : Value} {fs : List (ByteArray × ByteArray)} {b : ByteArray} {a : Option Addr} {len cap : Nat} {W : World} (h : DReq w c R r m p fv fs b a len cap W) (hcw : c < w.heap.size) (hrw : w.heap.size ≤ r) (hrR : R ≠ r) (p' : ByteArray) : DReq w c R r m p' fv fs b a len cap (W.setCell ⟨r, 1, none⟩ (.string p')) := by
 refine ⟨?_, ?_, ?_, ?_, grown_later h.grow (grown_set W r 1 _) (fun g e => by cases e; exact hrw), h.apart⟩
 · rw [heap_setCell_other _ _ R _ (fun e => hrR e)]; exact h.hR
 ·
  have := heap_set W r 1 _ _ _ (.string p') h.hr
  simpa using this
 · exact h.own.kept (grown_set W r 1 _) (by cases h3 : fv.ownBlock <;> simp; exact (h.apart _ h3).2)
 ·
  obtain ⟨i, hh, hi, h4⟩ := h.cur
  refine ⟨i, hh, hi, ?_⟩
  rw [heap_setCell_other _ _ c _ (fun e => by have e2 : c = r := e; omega)]
  exact h4
theorem DReq.setFields {w : World} {c R r : Nat} {m : Int} {p : ByteArray} {fv : Value} {fs : List (ByteArray × ByteArray)} {b : ByteArray} {a : Option Addr} {len cap : Nat} {W : World} {gv : Value} {gs : List (ByteArray × ByteArray)} (h : DReq w c R r m p fv fs b a len cap W) (hcw : c < w.heap.size) (hrw : w.heap.size ≤ r) (hrR : R ≠ r) (hown : W.ownsRow w.heap.size 74 2 gv gs.length (flatF gs)) : DReq w c R r m p gv gs b a len cap (W.setCell ⟨r, 2, none⟩ gv) := by
 have hap : ∀ j, gv.ownBlock = some j → j ≠ R ∧ j ≠ r := fun j hj => by
  obtain ⟨cur, hcj⟩ := owns_heap hown hj
  refine ⟨fun e => ?_, fun e => ?_⟩
  ·
   rw [e, h.hR] at hcj
   simp at hcj
  ·
   rw [e, h.hr] at hcj
   simp at hcj
 refine ⟨?_, ?_, ?_, ?_, grown_later h.grow (grown_set W r 2 _) (fun g e => by cases e; exact hrw), hap⟩
 · rw [heap_setCell_other _ _ R _ (fun e => hrR e)]; exact h.hR
 ·
  have := heap_set W r 2 _ _ _ gv h.hr
  simpa using this
 · exact hown.kept (grown_set W r 2 _) (by cases h3 : gv.ownBlock <;> simp; exact (hap _ h3).2)
 ·
  obtain ⟨i, hh, hi, h4⟩ := h.cur
  refine ⟨i, hh, hi, ?_⟩
  rw [heap_setCell_other _ _ c _ (fun e => by have e2 : c = r := e; omega)]
  exact h4
/-- How long the body is that lies there. -/
def bodyLen (r : Nat) (W : World) : Nat := match W.cell? ⟨r, 3, none⟩ with | some (.string t) => t.size | _ => 0
theorem l3DrawBadReq_any (c B : Nat) (a : Option Addr) (len cap : Nat) (zs : List Int) (w : World) (hcur : CurAt w c a len cap) (hcode : CodeAt w B a len zs) (hB : B ≤ c) :
  Calls Tryz.prog 33 #[.pointer (some ⟨c, 0, none⟩)] w fun e w' => ReqDrawn 140 w c a len cap e w' := by
 have hcw := hcur.lt
 have HCO : Hid (∀ W, w.grownBy W (some c) → CodeAt W B a len zs) := fun W h => hcode.grown h hB
 obtain ⟨R, hR⟩ := exq (w.heap.size)
 have hg0 : w.grownBy (w.alloc (.cells #[.int .i64 0, .string ⟨#[]⟩, .slice none 0 0, .string ⟨#[]⟩] 26)) (some c) := World.grownBy_alloc w _ _
 have hcu0 := hcur.below ((Below.refl _ w).alloc (Nat.le_refl _) (.cells #[.int .i64 0, .string ⟨#[]⟩, .slice none 0 0, .string ⟨#[]⟩] 26)) hcw
 have hco0 := HCO.out _ hg0
 have hz0' : (w.alloc (.cells #[.int .i64 0, .string ⟨#[]⟩, .slice none 0 0, .string ⟨#[]⟩] 26)).heap[R]? = some (.cells #[.int .i64 0, .string ⟨#[]⟩, .slice none 0 0, .string ⟨#[]⟩] 26) := by rw [hR]; exact heap_alloc_new w _
 have hRlt : R < (w.alloc (.cells #[.int .i64 0, .string ⟨#[]⟩, .slice none 0 0, .string ⟨#[]⟩] 26)).heap.size := by rw [hR]; simp
 have hRc : R ≠ c := by omega
 have hRw : w.heap.size ≤ R := by omega
 have HRE : Hid (R = w.heap.size) := hR
 obtain ⟨w0, hw0⟩ := exq (w.alloc (.cells #[.int .i64 0, .string ⟨#[]⟩, .slice none 0 0, .string ⟨#[]⟩] 26))
 have HW0 : Hid (w0 = w.alloc (.cells #[.int .i64 0, .string ⟨#[]⟩, .slice none 0 0, .string ⟨#[]⟩] 26)) := hw0
 rw [← hw0] at hg0 hcu0 hco0 hz0' hRlt
 clear hcur hcode hR hw0
 go_enter Tryz.func33, Tryz.ntmps33
 go_wp2_with fail
 rw [← HW0.out]
 refine (l3DrawReq_any c B a len cap zs _ hcu0 hco0 hB).mono ?_
 rintro e w1 ⟨m, p, fv, fs, b, rfl, hm, hp, hown, hfl, hsh, hb, hcu1, hg1⟩
 obtain ⟨fo, fc, rfl⟩ := slice_of_owns hown
 have hz1' : w1.heap[R]? = some (.cells #[.int .i64 0, .string ⟨#[]⟩, .slice none 0 0, .string ⟨#[]⟩] 26) := by rw [hg1.block R hRlt (fun e => hRc (Option.some.inj e))]; exact hz0'
 have hR1 : R < w1.heap.size := (Array.getElem?_eq_some_iff.1 hz1').1
 obtain ⟨r, hr⟩ := exq (w1.heap.size)
 have hga1 := grownBy_trans hg0 hg1
 have hrw : w.heap.size ≤ r := by rw [hr]; exact hga1.size
 have hrR : R ≠ r := by omega
 have HD0 : Hid (DReq w c R r m p (.slice fo fs.length fc) fs b a len cap (w1.alloc (.cells #[.int .i64 m, .string p, .slice fo fs.length fc, .string b] 26))) := by
  have hgal : w1.grownBy (w1.alloc (.cells #[.int .i64 m, .string p, .slice fo fs.length fc, .string b] 26)) (some c) := World.grownBy_alloc w1 _ _
  have how : w1.ownsRow w.heap.size 74 2 (.slice fo fs.length fc) fs.length (flatF fs) := by
   refine ⟨hown.1, ?_⟩
   rcases hown.2 with h6 | ⟨g6, cap6, cur6, h7, h8, h9⟩
   · exact .inl h6
   · exact .inr ⟨g6, cap6, cur6, h7, by have := hg0.size; omega, h9⟩
  refine ⟨?_, by rw [hr]; exact heap_alloc_new w1 _, how.alloc _, hcu1.below ((Below.refl _ w1).alloc (Nat.le_refl _) _) hcu1.lt, grownBy_trans hga1 hgal, fun j hj => ⟨by have := owns_ge hown hj; omega, by have := owns_lt hown hj; omega⟩⟩
  rw [hgal.block R hR1 (fun e => hRc (Option.some.inj e))]; exact hz1'
 have HR' : Hid (r = w1.heap.size) := hr
 obtain ⟨w2, hw2⟩ := exq (w1.alloc (.cells #[.int .i64 m, .string p, .slice fo fs.length fc, .string b] 26))
 have HW2 : Hid (w2 = w1.alloc (.cells #[.int .i64 m, .string p, .slice fo fs.length fc, .string b] 26)) := hw2
 rw [← hw2] at HD0
 rw [← HRE.out]
 clear hr hz1' hR1 hcu1 hga1 hw2 hown hg1 hg0 hcu0 hco0 hz0' hRlt
 go_wp2_with fail
 rw [← HR'.out, ← HW2.out]
 refine (l1Below_any c B 20 a len cap zs _ HD0.out.cur (HCO.out _ HD0.out.grow) hB (by omega) (by omega)).mono ?_
 rintro e wa ⟨x, rfl, hx0, hx1, hcua, hgaa⟩
 have hda : Hid (DReq w c R r m p (.slice fo fs.length fc) fs b a len cap wa) := HD0.out.later hcw hRw hrw hcua hgaa
 clear hcua hgaa HD0
 obtain ⟨⟨c0, c1, c2, c3⟩, f0, f1, f2, f3⟩ := four_facts hda.out.hr
 obtain ⟨⟨d0, d1, d2, d3⟩, g0, g1, g2, g3⟩ := four_facts hda.out.hR
 by_cases x0 : x = 0
 ·
  subst x0
  go_wp2_with fail
  refine (l1Below_any c B 7 a len cap zs _ hda.out.cur (HCO.out _ hda.out.grow) hB (by omega) (by omega)).mono ?_
  rintro e wb ⟨y, rfl, hy0, hy1, hcub, hgb⟩
  have hdb : Hid (DReq w c R r m p (.slice fo fs.length fc) fs b a len cap wb) := hda.out.later hcw hRw hrw hcub hgb
  have hdc : Hid (DReq w c R r (y - 1) p (.slice fo fs.length fc) fs b a len cap (wb.setCell ⟨r, 0, none⟩ (.int .i64 (y - 1)))) := hdb.out.setMethod hcw hrw hrR (y - 1)
  clear c0 c1 c2 c3 f0 f1 f2 f3 d0 d1 d2 d3 g0 g1 g2 g3 hcub hgb hda
  obtain ⟨⟨c0, c1, c2, c3⟩, f0, f1, f2, f3⟩ := four_facts hdb.out.hr
  obtain ⟨⟨i0, i1, i2, i3⟩, j0, j1, j2, j3⟩ := four_facts hdc.out.hr
  obtain ⟨⟨d0, d1, d2, d3⟩, g0, g1, g2, g3⟩ := four_facts hdc.out.hR
  obtain ⟨hh, hfin⟩ := hdc.out.fin (bmax := 140) hcw hRw ⟨by omega, by omega⟩ hp hfl hsh (by omega)
  obtain ⟨⟨k0, k1, k2, k3⟩, _⟩ := four_facts hh
  have HFIN : Hid _ := hfin
  unfold fourSet at k0 k1 k2 k3
  clear hh hfin
  go_wp2_with fail
  exact bodyPost_ret (v := .agg #[.int .i64 (y - 1), .string p, (.slice fo fs.length fc), .string b]) (by simp [results, Tryz.results33, go_sem, k0, k1, k2, k3]) rfl HFIN.out
 ·
  by_cases x1 : x = 1
  ·
   subst x1
   go_wp2_with fail
   refine (pick_new c B [⟨#[]⟩, ⟨#[97]⟩, ⟨#[47, 32, 98]⟩, ⟨#[47, 127]⟩, ⟨#[47, 48, 49, 50, 51, 52, 53, 54, 55, 56, 57, 48, 49, 50, 51, 52, 53, 54, 55, 56, 57, 48, 49, 50, 51, 52, 53, 54, 55, 56, 57, 48, 49, 50, 51, 52, 53, 54, 55, 56, 57, 48, 49, 50, 51, 52, 53, 54, 55, 56, 57, 48, 49, 50, 51, 52, 53, 54, 55, 56, 57]⟩] 64 (by decide) a len cap zs wa hda.out.cur (HCO.out _ hda.out.grow) hB (by decide) (by decide)).mono ?_
   rintro e wb ⟨q, rfl, hq, hcub, hgb⟩
   have hdb : Hid (DReq w c R r m p (.slice fo fs.length fc) fs b a len cap wb) := hda.out.later hcw hRw hrw hcub hgb
   have hdc : Hid (DReq w c R r m q (.slice fo fs.length fc) fs b a len cap (wb.setCell ⟨r, 1, none⟩ (.string q))) := hdb.out.setPath hcw hrw hrR q
   clear c0 c1 c2 c3 f0 f1 f2 f3 d0 d1 d2 d3 g0 g1 g2 g3 hcub hgb hda
   obtain ⟨⟨c0, c1, c2, c3⟩, f0, f1, f2, f3⟩ := four_facts hdb.out.hr
   obtain ⟨⟨i0, i1, i2, i3⟩, j0, j1, j2, j3⟩ := four_facts hdc.out.hr
   obtain ⟨⟨d0, d1, d2, d3⟩, g0, g1, g2, g3⟩ := four_facts hdc.out.hR
   obtain ⟨hh, hfin⟩ := hdc.out.fin (bmax := 140) hcw hRw hm hq hfl hsh (by omega)
   obtain ⟨⟨k0, k1, k2, k3⟩, _⟩ := four_facts hh
   have HFIN : Hid _ := hfin
   unfold fourSet at k0 k1 k2 k3
   clear hh hfin
   go_wp2_with fail
   exact bodyPost_ret (v := .agg #[.int .i64 m, .string q, (.slice fo fs.length fc), .string b]) (by simp [results, Tryz.results33, go_sem, k0, k1, k2, k3]) rfl HFIN.out
  ·
   by_cases x2 : x = 2
   ·
    subst x2
    go_wp2_with fail
    refine (l2Draw_any c B a len cap zs _ hda.out.cur (HCO.out _ hda.out.grow) hB).mono ?_
    rintro e wb ⟨gv, gs, rfl, howng, hgl, hgsh, hcub, hgb⟩
    obtain ⟨go, gc, rfl⟩ := slice_of_owns howng
    have hdb : Hid (DReq w c R r m p (.slice fo fs.length fc) fs b a len cap wb) := hda.out.later hcw hRw hrw hcub hgb
    have hwid : wb.ownsRow w.heap.size 74 2 (.slice go gs.length gc) gs.length (flatF gs) := by
     refine ⟨howng.1, ?_⟩
     rcases howng.2 with h6 | ⟨g6, cap6, cur6, h7, h8, h9⟩
     · exact .inl h6
     · exact .inr ⟨g6, cap6, cur6, h7, by have := hda.out.grow.size; omega, h9⟩
    have hdc : Hid (DReq w c R r m p (.slice go gs.length gc) gs b a len cap (wb.setCell ⟨r, 2, none⟩ (.slice go gs.length gc))) := hdb.out.setFields hcw hrw hrR hwid
    clear c0 c1 c2 c3 f0 f1 f2 f3 d0 d1 d2 d3 g0 g1 g2 g3 hcub hgb hda howng hwid
    obtain ⟨⟨c0, c1, c2, c3⟩, f0, f1, f2, f3⟩ := four_facts hdb.out.hr
    obtain ⟨⟨i0, i1, i2, i3⟩, j0, j1, j2, j3⟩ := four_facts hdc.out.hr
    obtain ⟨⟨d0, d1, d2, d3⟩, g0, g1, g2, g3⟩ := four_facts hdc.out.hR
    obtain ⟨hh, hfin⟩ := hdc.out.fin (bmax := 140) hcw hRw hm hp hgl hgsh (by omega)
    obtain ⟨⟨k0, k1, k2, k3⟩, _⟩ := four_facts hh
    have HFIN : Hid _ := hfin
    unfold fourSet at k0 k1 k2 k3
    clear hh hfin
    go_wp2_with fail
    exact bodyPost_ret (v := .agg #[.int .i64 m, .string p, .slice go gs.length gc, .string b]) (by simp [results, Tryz.results33, go_sem, k0, k1, k2, k3]) rfl HFIN.out
   ·
    by_cases x3 : x = 3
    ·
     subst x3
     clear c0 c1 c2 c3 f0 f1 f2 f3 d0 d1 d2 d3 g0 g1 g2 g3
     go_wp2_with fail
     go_loopw [] (fun wr => ∃ b2 : ByteArray, b2.size ≤ 121 ∧ Hid (DReq w c R r m p (.slice fo fs.length fc) fs b2 a len cap wr)) (fun wr => 122 - bodyLen r wr)
     case atStart => exact ⟨b, by omega, hda⟩
     case round =>
      obtain ⟨b2, hb2, hdr⟩ := hrel
      have hdw : Hid (DReq w c R r m p (.slice fo fs.length fc) fs b2 a len cap wr.drew) := hdr.out.later hcw hRw hrw hdr.out.cur (grown_below ((Below.refl _ wr).drew) _)
      obtain ⟨⟨c0, c1, c2, c3⟩, f0, f1, f2, f3⟩ := four_facts hdr.out.hr
      have HL0 : Hid (bodyLen r wr = b2.size) := by show _ = _; unfold bodyLen; rw [c3]
      have HA : Hid (∀ wb, CurAt wb c a len cap → wr.drew.grownBy wb (some c) → wb.cell? ⟨r, 3, none⟩ = some (.string b2) ∧ Hid (DReq w c R r m p (.slice fo fs.length fc) fs b2 a len cap wb)) := fun wb h1 h2 => by
       have h3 := hdw.out.later hcw hRw hrw h1 h2
       exact ⟨(four_facts h3.hr).1.2.2.2, h3⟩
      clear c0 c1 c2 f0 f1 f2 f3
      go_wp2_with fail
      go_region_held3 (fun W => W.cell? ⟨r, 3, none⟩ = some (.string b2)) (first | assumption | go_keep) (first | (go_at_call 83; refine (l1Below_any c B 2 a len cap zs _ hdw.out.cur (HCO.out _ hdw.out.grow) hB (by omega) (by omega)).mono ?_; rintro e wb ⟨y, rfl, hy0, hy1, hcub, hgb⟩; obtain ⟨hcb, hdb⟩ := HA.out wb hcub hgb; have hwy : IntKind.i64.wrap (120 + y) = 120 + y := by rw [IntKind.wrap_i64]; omega))
      clear hcub hgb hdw HA c3
      have hdc : Hid (DReq w c R r m p (.slice fo fs.length fc) fs (b2 ++ ⟨#[98]⟩) a len cap (wb.setCell ⟨r, 3, none⟩ (.string (b2 ++ ⟨#[98]⟩)))) := hdb.out.setBody hcw hrw hrR _
      obtain ⟨⟨c0, c1, c2, c3⟩, f0, f1, f2, f3⟩ := four_facts hdb.out.hr
      obtain ⟨⟨d0, d1, d2, d3⟩, g0, g1, g2, g3⟩ := four_facts hdb.out.hR
      have e98 : (⟨#[98]⟩ : ByteArray).size = 1 := rfl
      by_cases hlt : (b2.size : Int) < 120 + y
      ·
       have HL1 : Hid (bodyLen r (wb.setCell ⟨r, 3, none⟩ (.string (b2 ++ ⟨#[98]⟩))) = b2.size + 1) := by
        show _ = _
        have := (four_facts hdc.out.hr).1.2.2.2
        unfold bodyLen; rw [this]; simp only [ByteArray.size_append]; omega
       have q1 : ¬ 9223372036854775807 < b2.size + 1 := by omega
       clear d0 d1 d2 d3 g0 g1 g2 g3
       go_wp2
       go_roundw
       case rel => exact ⟨_, by simp only [ByteArray.size_append]; omega, hdc⟩
       case measure => rw [HL1.out, HL0.out]; omega
      ·
       have hdec : decide ((b2.size : Int) < 120 + y) = false := by simpa using hlt
       clear hdc hdr hda HL0
       obtain ⟨hh, hfin⟩ := hdb.out.fin (bmax := 140) hcw hRw hm hp hfl hsh (by omega)
       obtain ⟨⟨k0, k1, k2, k3⟩, _⟩ := four_facts hh
       have HFIN : Hid _ := hfin
       unfold fourSet at k0 k1 k2 k3
       clear hh hfin
       go_wp2_with fail
       exact bodyPost_ret (v := .agg #[.int .i64 m, .string p, (.slice fo fs.length fc), .string b2]) (by simp [results, Tryz.results33, go_sem, k0, k1, k2, k3]) rfl HFIN.out
    ·
     have e0 : (x == 0) = false := by rw [beq_eq_false_iff_ne]; exact x0
     have e1 : (x == 1) = false := by rw [beq_eq_false_iff_ne]; exact x1
     have e2 : (x == 2) = false := by rw [beq_eq_false_iff_ne]; exact x2
     have e3 : (x == 3) = false := by rw [beq_eq_false_iff_ne]; exact x3
     obtain ⟨hh, hfin⟩ := hda.out.fin (bmax := 140) hcw hRw hm hp hfl hsh (by omega)
     obtain ⟨⟨k0, k1, k2, k3⟩, _⟩ := four_facts hh
     have HFIN : Hid _ := hfin
     unfold fourSet at k0 k1 k2 k3
     clear hh hfin
     go_wp2_with fail
     exact bodyPost_ret (v := .agg #[.int .i64 m, .string p, (.slice fo fs.length fc), .string b]) (by simp [results, Tryz.results33, go_sem, k0, k1, k2, k3]) rfl HFIN.out
end Go.Proofs.YtmcmeeibogkpaaaGreatDoorR
namespace Go.Proofs.YtmcmeeibogkpaaaGreatDoorR
open Go.RowKit
open Go.Lib hiding intOf
theorem three_facts {W : World} {R : Nat} {a b c : Value} {t : TypeId} (h : W.heap[R]? = some (.cells #[a, b, c] t)) :
  (W.cell? ⟨R, 0, none⟩ = some a ∧ W.cell? ⟨R, 1, none⟩ = some b ∧ W.cell? ⟨R, 2, none⟩ = some c) ∧ W.frozen? ⟨R, 0, none⟩ = false ∧ W.frozen? ⟨R, 1, none⟩ = false ∧ W.frozen? ⟨R, 2, none⟩ = false := by
 refine ⟨⟨?_, ?_, ?_⟩, ?_, ?_, ?_⟩ <;> simp [World.cell?, World.frozen?, h]
/-- The three cells of an answer's memory, written. -/
def threeSet (w : World) (r : Nat) (a b c : Value) : World := ((w.setCell ⟨r, 0, none⟩ a).setCell ⟨r, 1, none⟩ b).setCell ⟨r, 2, none⟩ c
theorem three_set {W : World} {R : Nat} {a b c : Value} {t : TypeId} (h : W.heap[R]? = some (.cells #[a, b, c] t)) (a' b' c' : Value) : (threeSet W R a' b' c').heap[R]? = some (.cells #[a', b', c'] t) := by
 have := heap_set _ R 2 _ _ _ c' (heap_set _ R 1 _ _ _ b' (heap_set W R 0 _ _ _ a' h))
 simpa [threeSet] using this
theorem below_three {w W : World} {B R : Nat} {a b c : Value} (h : Below B w W) (hR : B ≤ R) : Below B w (threeSet W R a b c) :=
 ((h.setCell (p := ⟨R, 0, none⟩) hR _).setCell (p := ⟨R, 1, none⟩) hR _).setCell (p := ⟨R, 2, none⟩) hR _
end Go.Proofs.YtmcmeeibogkpaaaGreatDoorR
namespace Go.Proofs.YtmcmeeibogkpaaaGreatDoorR
open Go.RowKit
open Go.Lib hiding intOf
/-- The text of whatever int: that of a number from 0 to 1000000, else the empty one. -/
def numTextI (n : Int) : ByteArray := if n < 0 then ⟨#[]⟩ else numText n.toNat
theorem decDigits_zero : Lib.decDigits 0 = [48] := by rw [Lib.decDigits, dif_pos (by omega)]; rfl
theorem dg_dec : ∀ (f n : Nat), n < 10 ^ f → n ≠ 0 → dgF f n = Lib.decDigits n := by
 intro f
 induction f with
 | zero => intro n h h0; simp at h; omega
 | succ f ih =>
  intro n h h0
  rw [dgF_pos f n h0]
  rw [Nat.pow_succ] at h
  by_cases hs : n < 10
  ·
   rw [Lib.decDigits, dif_pos hs]
   have e1 : n / 10 = 0 := by omega
   have e2 : n % 10 = n := by omega
   rw [e1, dgF_zero, e2]; rfl
  · rw [Lib.decDigits, dif_neg hs, ih (n / 10) (by omega) (by omega)]
theorem itoa_num (n : Int) (h0 : 0 ≤ n) (h1 : n ≤ 1000000) : (⟨(Lib.itoa n).toArray⟩ : ByteArray) = numTextI n := by
 unfold numTextI
 rw [if_neg (by omega)]
 unfold numText numL Lib.itoa
 rw [if_neg (by omega), if_neg (by omega)]
 by_cases h : n.toNat = 0
 · rw [if_pos h, h, decDigits_zero]
 · rw [if_neg h, dg_dec 8 n.toNat (by omega) h]
/-- The table that strconv.Itoa reads holds what the program's text lays. -/
def TabOk (w : World) : Prop := Lib.TabIs Tryz.prog w "internal/strconv.uint64pow10" .u64 Lib.pow10Tab
theorem gTab : Tryz.prog.globalNamed "internal/strconv.uint64pow10" = some 0 := by kernel_rfl
theorem TabOk.lt {w : World} (h : TabOk w) : 0 < w.heap.size := by
 unfold TabOk Lib.TabIs World.var? at h
 rw [gTab] at h
 rcases Nat.lt_or_ge 0 w.heap.size with hl | hl
 · exact hl
 · simp [Array.getElem?_eq_none hl] at h
theorem TabOk.below {w w' : World} (h : TabOk w) (hb : Below w.heap.size w w') : TabOk w' := var?_below hb gTab h.lt h
theorem implNumText_any (n : Int) (w : World) (h0 : -9223372036854775808 ≤ n) (h1 : n ≤ 9223372036854775807) (htab : TabOk w) :
  Calls Tryz.prog 37 #[.int .i64 n] w fun e w' => TextIs (numTextI n) w e w' := by
 by_cases hn : n < 0
 ·
  have hT : Hid (⟨#[]⟩ = numTextI n) := by show _ = _; unfold numTextI; rw [if_pos hn]
  go_enter Tryz.func37, Tryz.ntmps37
  go_wp2_with fail
  go_ret
  exact TextIs.of hT.out (Below.refl _ _)
 ·
  by_cases hb : 1000000 < n
  ·
   have hT : Hid (⟨#[]⟩ = numTextI n) := by
    show _ = _
    unfold numTextI numText numL; rw [if_neg hn, if_pos (by omega)]
   go_enter Tryz.func37, Tryz.ntmps37
   go_wp2_with fail
   go_ret
   exact TextIs.of hT.out (Below.refl _ _)
  ·
   have hT : Hid _ := itoa_num n (by omega) (by omega)
   have HT : Hid (TabOk w) := htab
   clear htab
   go_enter Tryz.func37, Tryz.ntmps37
   go_wp2_with fail
   refine (Tryz.strconv_Itoa n h0 h1 w HT.out).mono ?_
   rintro e w1 ⟨rfl, k, os, rfl⟩
   rw [hT.out]
   have hb1 := Lib.below_grow w.heap.size w (Nat.le_refl _) k os
   obtain ⟨w1, hw1⟩ := exq (Sort.grow (w.drewN k) os)
   rw [← hw1] at hb1 ⊢
   clear hw1
   go_wp2_with fail
   go_ret
   exact TextIs.of rfl hb1
theorem specNumText_int (n : Int) (w : World) (h0 : -9223372036854775808 ≤ n) (h1 : n ≤ 9223372036854775807) :
  Calls Tryz.prog 42 #[.int .i64 n] w fun e w' => TextIs (numTextI n) w e w' := by
 by_cases hn : n < 0
 ·
  have hT : Hid (⟨#[]⟩ = numTextI n) := by show _ = _; unfold numTextI; rw [if_pos hn]
  have hn2 : ¬ 0 ≤ n := by omega
  go_enter Tryz.func42, Tryz.ntmps42
  go_wp2
  go_ret
  exact TextIs.of hT.out (Below.refl _ _)
 ·
  by_cases hb : 1000000 < n
  ·
   have hT : Hid (⟨#[]⟩ = numTextI n) := by
    show _ = _
    unfold numTextI numText numL; rw [if_neg hn, if_pos (by omega)]
   have hp : 0 ≤ n := by omega
   have hb2 : ¬ n ≤ 1000000 := by omega
   have hd : decide (n ≤ 1000000) = false := by simp; omega
   go_enter Tryz.func42, Tryz.ntmps42
   go_wp2
   go_ret
   exact TextIs.of hT.out (Below.refl _ _)
  ·
   obtain ⟨m, rfl⟩ := Int.eq_ofNat_of_zero_le (Int.not_lt.1 hn)
   have hT : numTextI (m : Int) = numText m := by unfold numTextI; rw [if_neg hn]; simp
   rw [hT]
   exact specNumText_any m w (by omega)
end Go.Proofs.YtmcmeeibogkpaaaGreatDoorR
namespace Go.Proofs.YtmcmeeibogkpaaaGreatDoorR
open Go.RowKit
theorem ccNum_data (n : Nat) : (numText n).data.toList = numL n := by simp [numText]
theorem ccNum_size (n : Nat) : (numText n).size = (numL n).length := by
 rw [← ccNum_data]; simp
theorem ccNum_ok (n : Nat) (h : n ≤ 1000000) : NumOk (numText n) ∧ valL (numText n).data.toList = n := by
 rw [ccNum_data]
 by_cases h0 : n = 0
 ·
  subst h0
  have e : numL 0 = [48] := by unfold numL; rw [if_neg (by omega), if_pos rfl]
  refine ⟨⟨by rw [ccNum_size, e]; simp, ?_, ?_, ?_⟩, by rw [e]; rfl⟩
  · rw [ccNum_data, e]; intro b hb; simp at hb; subst hb; exact ⟨by decide, by decide⟩
  · intro hs; rw [ccNum_size, e] at hs; simp at hs
  · rw [ccNum_data, e]; show 0 ≤ 1000000; omega
 ·
  have e : numL n = dgF 8 n := by unfold numL; rw [if_neg (by omega), if_neg h0]
  obtain ⟨h1, h2, h3⟩ := dg_facts 8 n (by omega)
  have hne : dgF 8 n ≠ [] := by rw [dgF_pos 7 n h0]; simp
  have hsz : 1 ≤ (numText n).size := by
   rw [ccNum_size, e]
   cases hd : dgF 8 n with
   | nil => exact absurd hd hne
   | cons _ _ => simp
  refine ⟨⟨hsz, by rw [ccNum_data, e]; exact h3, ?_, by rw [ccNum_data, e, h2]; exact h⟩, by rw [e, h2]⟩
  intro _ hp
  apply h1
  rw [← e, ← ccNum_data, head_byte _ hp]
theorem ccNum_in (n : Int) (h0 : 0 ≤ n) (h1 : n ≤ 1000000) : NumOk (numTextI n) ∧ ((valL (numTextI n).data.toList : Nat) : Int) = n := by
 have h := ccNum_ok n.toNat (by omega)
 unfold numTextI
 rw [if_neg (by omega)]
 exact ⟨h.1, by rw [h.2]; omega⟩
/-- A part of a split text. -/
def partL (cur : List UInt8) : List ByteArray := if trimL cur = [] then [] else [⟨(trimL cur).toArray⟩]
/-- Split, byte by byte: 'cur': what stands of this part. -/
def spA (cur : List UInt8) : List UInt8 → List ByteArray
 | [] => partL cur
 | c :: r => if c = 44 then partL cur ++ spA [] r else spA (cur ++ [c]) r
theorem add_part (l : List ByteArray) (s : ByteArray) : addPart l (trimOf s) = l ++ partL (bs s) := by
 have hs : (trimOf s).size = (trimL (bs s)).length := by
  show (trimL s.data.toList).toArray.size = _
  simp [bs]
 unfold addPart partL
 rw [hs]
 by_cases h : trimL (bs s) = []
 · rw [if_pos h, if_pos (by rw [h]; rfl), List.append_nil]
 ·
  rw [if_neg h, if_neg (fun e => h (List.length_eq_zero_iff.1 e))]
  rfl
theorem ext_part (s : ByteArray) (a k : Nat) : bs (s.extract a k) = ((bs s).take k).drop a := by rw [bs_extract]
theorem split_from (s : ByteArray) : ∀ k, k ≤ s.size → (splitTo s k).1 ++ spA (((bs s).take k).drop (splitTo s k).2) ((bs s).drop k) = spA [] (bs s) := by
 intro k
 induction k with
 | zero => intro _; simp [splitTo]
 | succ k ih =>
  intro hk
  have hlt : k < s.size := by omega
  have h := ih (by omega)
  have hle := (splitTo_le s k).1
  have hd : (bs s).drop k = s[k]'hlt :: (bs s).drop (k + 1) := by
   have hl : k < (bs s).length := by rw [bs_len]; exact hlt
   rw [List.drop_eq_getElem_cons hl]
   congr 1
  have ht : (bs s).take (k + 1) = (bs s).take k ++ [s[k]'hlt] := by
   have hl : k < (bs s).length := by rw [bs_len]; exact hlt
   rw [List.take_succ_eq_append_getElem hl]
   congr 1
  rw [hd] at h
  by_cases hc : (s[k]'hlt).toNat = 44
  ·
   have hc8 : s[k]'hlt = 44 := UInt8.toNat_inj.1 hc
   rw [splitTo_comma s k hlt hc]
   dsimp only
   rw [add_part, ext_part]
   rw [spA, if_pos hc8] at h
   have hn : ((bs s).take (k + 1)).drop (k + 1) = [] := List.drop_of_length_le (by rw [List.length_take]; omega)
   rw [hn, List.append_assoc]
   exact h
  ·
   have hc8 : s[k]'hlt ≠ 44 := fun e => hc (by rw [e]; rfl)
   rw [splitTo_other s k hlt hc]
   rw [spA, if_neg hc8] at h
   have hn : ((bs s).take (k + 1)).drop (splitTo s k).2 = ((bs s).take k).drop (splitTo s k).2 ++ [s[k]'hlt] := by
    rw [ht, List.drop_append_of_le_length (by rw [List.length_take, bs_len]; omega)]
   rw [hn]
   exact h
theorem splitL_sp (s : ByteArray) : splitL s = spA [] (bs s) := by
 have h := split_from s s.size (Nat.le_refl _)
 have hd : (bs s).drop s.size = [] := List.drop_of_length_le (by rw [bs_len]; exact Nat.le_refl _)
 rw [hd] at h
 unfold splitL
 rw [add_part, ext_part]
 exact h
theorem dropB_len : ∀ l : List UInt8, (dropB l).length ≤ l.length := by
 intro l
 induction l with
 | nil => simp [dropB]
 | cons c l ih =>
  unfold dropB
  split
  · simp; omega
  · exact Nat.le_refl _
theorem trimL_len (l : List UInt8) : (trimL l).length ≤ l.length := by
 have h1 := dropB_len l
 have h2 := dropB_len (dropB l).reverse
 unfold trimL
 rw [List.length_reverse]
 rw [List.length_reverse] at h2
 omega
theorem partL_le (cur : List UInt8) : (partL cur).length ≤ 1 ∧ ∀ x ∈ partL cur, x.size ≤ cur.length := by
 unfold partL
 split
 · exact ⟨by simp, fun x hx => nomatch hx⟩
 ·
  refine ⟨by simp, fun x hx => ?_⟩
  obtain rfl := List.mem_singleton.1 hx
  exact trimL_len cur
theorem spA_le : ∀ (l cur : List UInt8), (spA cur l).length ≤ l.length + 1 ∧ ∀ x ∈ spA cur l, x.size ≤ cur.length + l.length := by
 intro l
 induction l with
 | nil => intro cur; exact ⟨(partL_le cur).1, fun x hx => (partL_le cur).2 x hx⟩
 | cons c l ih =>
  intro cur
  unfold spA
  split
  ·
   have h1 := partL_le cur
   have h2 := ih []
   refine ⟨by rw [List.length_append, List.length_cons]; omega, fun x hx => ?_⟩
   rw [List.mem_append] at hx
   rw [List.length_cons]
   rcases hx with hx | hx
   · have := h1.2 x hx; omega
   · have := h2.2 x hx; rw [List.length_nil] at this; omega
  ·
   have h2 := ih (cur ++ [c])
   refine ⟨by rw [List.length_cons]; omega, fun x hx => ?_⟩
   have := h2.2 x hx
   rw [List.length_append, List.length_singleton] at this
   rw [List.length_cons]
   omega
theorem splitL_le (s : ByteArray) : (splitL s).length ≤ s.size + 1 ∧ ∀ x ∈ splitL s, x.size ≤ s.size := by
 have h := spA_le (bs s) []
 rw [← splitL_sp, bs_len, List.length_nil, Nat.zero_add] at h
 exact h
/-- What is said of keeping. -/
structure CcD where
 ns : Bool
 nc : Bool
 pr : Bool
 mu : Bool
 ha : Bool
 age : Int
def cc0 : CcD := ⟨false, false, false, false, false, 0⟩
def CcD.v (c : CcD) : Value := .agg #[.bool c.ns, .bool c.nc, .bool c.pr, .bool c.mu, .bool c.ha, .int .i64 c.age]
def nsW : ByteArray := ⟨#[110, 111, 45, 115, 116, 111, 114, 101]⟩
def ncW : ByteArray := ⟨#[110, 111, 45, 99, 97, 99, 104, 101]⟩
def prW : ByteArray := ⟨#[112, 114, 105, 118, 97, 116, 101]⟩
def muW : ByteArray := ⟨#[109, 117, 115, 116, 45, 114, 101, 118, 97, 108, 105, 100, 97, 116, 101]⟩
def maW : ByteArray := ⟨#[109, 97, 120, 45, 97, 103, 101, 61]⟩
open Classical in
/-- The number that a text is; 0: it is none. -/
noncomputable def numV (s : ByteArray) : Int := if NumOk s then (valL s.data.toList : Int) else 0
open Classical in
/-- What stands behind the word of ages; none: it is another word. -/
noncomputable def ageOf (w : ByteArray) : Option Int := if (bs w).take 8 = bs maW then some (numV ⟨((bs w).drop 8).toArray⟩) else none
/-- One word more. -/
noncomputable def ccStep (c : CcD) (w : ByteArray) : CcD :=
 if w = nsW then { c with ns := true } else if w = ncW then { c with nc := true } else if w = prW then { c with pr := true } else if w = muW then { c with mu := true }
 else match ageOf w with
  | none => c
  | some n => if c.ha = true then { c with age := min c.age n } else { c with ha := true, age := n }
/-- So many of the words. -/
noncomputable def ccTo (l : List ByteArray) : CcD := l.foldl (fun c x => ccStep c (lowerOf x)) cc0
noncomputable def ccR (s : ByteArray) : CcD := ccTo (splitL s)
theorem ccTo_snoc (l : List ByteArray) (x : ByteArray) : ccTo (l ++ [x]) = ccStep (ccTo l) (lowerOf x) := by simp [ccTo]
theorem numV_in (s : ByteArray) : 0 ≤ numV s ∧ numV s ≤ 1000000 := by
 unfold numV
 split
 ·
  rename_i h
  have := h.2.2.2
  omega
 · omega
theorem ageOf_in {w : ByteArray} {n : Int} (h : ageOf w = some n) : 0 ≤ n ∧ n ≤ 1000000 := by
 unfold ageOf at h
 split at h
 ·
  obtain rfl := Option.some.inj h
  exact numV_in _
 · cases h
/-- Ages are in their bounds, and 0 where none is told. -/
def CcD.fit (c : CcD) : Prop := 0 ≤ c.age ∧ c.age ≤ 1000000 ∧ (c.ha = false → c.age = 0)
theorem ccStep_fit {c : CcD} (h : c.fit) (w : ByteArray) : (ccStep c w).fit := by
 obtain ⟨h1, h2, h3⟩ := h
 unfold ccStep
 split
 · exact ⟨h1, h2, h3⟩
 split
 · exact ⟨h1, h2, h3⟩
 split
 · exact ⟨h1, h2, h3⟩
 split
 · exact ⟨h1, h2, h3⟩
 cases hn : ageOf w with
 | none => exact ⟨h1, h2, h3⟩
 | some n =>
  have := ageOf_in hn
  dsimp only
  split
  ·
   rename_i ha
   exact ⟨by dsimp only; omega, by dsimp only; omega, fun e => by dsimp only at e; rw [ha] at e; cases e⟩
  · exact ⟨by dsimp only; omega, by dsimp only; omega, fun e => by cases e⟩
theorem ccTo_fit (l : List ByteArray) : (ccTo l).fit := by
 unfold ccTo
 have : ∀ (l : List ByteArray) (c : CcD), c.fit → (l.foldl (fun c x => ccStep c (lowerOf x)) c).fit := by
  intro l
  induction l with
  | nil => intro c h; exact h
  | cons x l ih => intro c h; exact ih _ (ccStep_fit h _)
 exact this l cc0 ⟨by decide, by decide, fun _ => rfl⟩
theorem text_bs (x : ByteArray) : (⟨(bs x).toArray⟩ : ByteArray) = x := by
 apply ByteArray.ext
 simp [bs]
end Go.Proofs.YtmcmeeibogkpaaaGreatDoorR
namespace Go.Proofs.YtmcmeeibogkpaaaGreatDoorR
open Go.RowKit
open Go.Lib hiding intOf
theorem l1Min_any (a b : Int) (w : World) :
  Calls Tryz.prog 130 #[.int .i64 a, .int .i64 b] w fun e w' => e = .returned (.int .i64 (min a b)) ∧ w' = w := by
 by_cases h : a < b
 ·
  have HE : Hid (min a b = a) := by show _ = _; omega
  go_enter Tryz.func130, Tryz.ntmps130
  go_wp2
  go_ret
  exact ⟨by rw [HE.out]; rfl, rfl⟩
 ·
  have HE : Hid (min a b = b) := by show _ = _; omega
  go_enter Tryz.func130, Tryz.ntmps130
  go_wp2
  go_ret
  exact ⟨by rw [HE.out]; rfl, rfl⟩
theorem l1Max_any (a b : Int) (w : World) :
  Calls Tryz.prog 131 #[.int .i64 a, .int .i64 b] w fun e w' => e = .returned (.int .i64 (max a b)) ∧ w' = w := by
 by_cases h : b < a
 ·
  have HE : Hid (max a b = a) := by show _ = _; omega
  go_enter Tryz.func131, Tryz.ntmps131
  go_wp2
  go_ret
  exact ⟨by rw [HE.out]; rfl, rfl⟩
 ·
  have HE : Hid (max a b = b) := by show _ = _; omega
  go_enter Tryz.func131, Tryz.ntmps131
  go_wp2
  go_ret
  exact ⟨by rw [HE.out]; rfl, rfl⟩
end Go.Proofs.YtmcmeeibogkpaaaGreatDoorR
namespace Go.Proofs.YtmcmeeibogkpaaaGreatDoorR
open Go.RowKit
open Go.Lib hiding intOf
theorem owns_wide {w : World} {B base : Nat} {e : TypeId} {size : Nat} {v : Value} {n : Nat} {xs : List Value} (h : w.ownsRow base e size v n xs) (hB : B ≤ base) : w.ownsRow B e size v n xs := by
 obtain ⟨hl, hv⟩ := h
 refine ⟨hl, ?_⟩
 rcases hv with h0 | ⟨g, cap, cur, h1, h2, h3⟩
 · exact .inl h0
 · exact .inr ⟨g, cap, cur, h1, Nat.le_trans hB h2, h3⟩
theorem owns_same {w w' : World} {base : Nat} {e : TypeId} {size : Nat} {v : Value} {n : Nat} {xs : List Value} (h : w.ownsRow base e size v n xs) (hs : ∀ j, v.ownBlock = some j → w'.heap[j]? = w.heap[j]?) : w'.ownsRow base e size v n xs := by
 obtain ⟨hl, hv⟩ := h
 refine ⟨hl, ?_⟩
 rcases hv with h0 | ⟨g, cap, cur, rfl, h2, h3, h4⟩
 · exact .inl h0
 · exact .inr ⟨g, cap, cur, rfl, h2, by rw [hs g rfl]; exact h3, h4⟩
end Go.Proofs.YtmcmeeibogkpaaaGreatDoorR
namespace Go.Proofs.YtmcmeeibogkpaaaGreatDoorR
open Go.RowKit
open Go.Lib hiding intOf
theorem owns_cellC {w : World} {base : Nat} {t : TypeId} {size g n cap : Nat} {xs : List Value} (h : w.ownsRow base t size (.slice (some ⟨g, 0, none⟩) n cap) n xs) (o : Nat) (u : Value) (ho : xs[o]? = some u) : w.cell? ⟨g, o, none⟩ = some u ∧ w.frozen? ⟨g, o, none⟩ = false := by
 obtain ⟨hl, hv⟩ := h
 rcases hv with ⟨e, _⟩ | ⟨g', cap', cur, e, h1, h2, h3, h4, h5, h6⟩
 · cases e
 ·
  cases e
  refine ⟨?_, by simp [World.frozen?, h2]⟩
  rw [← h6, List.getElem?_take] at ho
  split at ho
  · simpa [World.cell?, h2] using ho
  · cases ho
theorem own_ltR {w : World} {base : Nat} {t : TypeId} {size : Nat} {v : Value} {n : Nat} {xs : List Value} {j : Nat} (h : w.ownsRow base t size v n xs) (hj : v.ownBlock = some j) : base ≤ j ∧ j < w.heap.size := by
 rcases h.2 with ⟨rfl, _⟩ | ⟨g, cap, cur, rfl, h0, h1, _⟩
 · cases hj
 ·
  cases hj
  exact ⟨h0, (Array.getElem?_eq_some_iff.1 h1).1⟩
end Go.Proofs.YtmcmeeibogkpaaaGreatDoorR
