/- What the proof of FnHits leans on: contracts of the program's and the specification's functions, and plain facts (part 5 of 9). -/
import Derived.Test.YtlmenolcgaakeaaGreatFnHitsD
namespace Go.Proofs.YtlmenolcgaakeaaGreat
open Go.RowKit
open Go.Lib hiding intOf

theorem path_cls (n : Int) : PathB n ↔ (cls n ≠ 4 ∧ cls n ≠ 7) := by
  have := cls_spec n
  unfold PathB
  constructor
  · intro h; omega
  · intro h; omega
theorem path_small {n : Int} (h : PathB n) : n < 128 := by unfold PathB at h; omega

set_option maxHeartbeats 400000 in
theorem isPathRune_any (r : Int) (w : World) :
    Calls Tryz.prog 46 #[.int .i32 r] w fun e w' => BoolIs (PathB r) w e w' := by
  have HP : Hid (PathB r ↔ (cls r ≠ 4 ∧ cls r ≠ 7)) := path_cls r
  go_enter Tryz.func46, Tryz.ntmps46
  go_wp2_with fail
  refine (classOf_any r _).mono ?_
  rintro e w1 ⟨rfl, hb⟩
  generalize cls r = c at HP ⊢
  by_cases h4 : c = 4
  · have HN : Hid (¬ PathB r) := fun h => (HP.out.1 h).1 h4
    subst h4
    go_wp2_with fail
    go_ret
    exact BoolIs.no HN.out hb
  · have h5 : (c != 4) = true := by rw [bne_iff_ne]; exact h4
    by_cases h7 : c = 7
    · have HN : Hid (¬ PathB r) := fun h => (HP.out.1 h).2 h7
      subst h7
      go_wp2_with fail
      go_ret
      exact BoolIs.no HN.out hb
    · have h8 : (c != 7) = true := by rw [bne_iff_ne]; exact h7
      have HY : Hid (PathB r) := HP.out.2 ⟨h4, h7⟩
      go_wp2_with fail
      go_ret
      exact BoolIs.yes HY.out hb

set_option maxHeartbeats 1000000 in
theorem allRunes_path (s : ByteArray) (w : World) :
    Calls Tryz.prog 45 #[.string s, .func (.func 46) #[] #[]] w fun e w' => BoolIs (AllB PathB s) w e w' := by
  go_enter Tryz.func45, Tryz.ntmps45
  go_wp2
  go_loopw [6] (fun _ wr => ∃ pos : Nat, wr.heap[w.heap.size]? = some (.stringIter s pos) ∧ Below w.heap.size w wr ∧ Hid (AllTo PathB s pos)) (fun _ wr => s.size - wr.iterPos w.heap.size)
  case atStart => exact ⟨0, World.iter_heap _ _ _, (Below.refl _ _).alloc (Nat.le_refl _) _, allTo_zero _ _⟩
  case round =>
    obtain ⟨pos, hh, hbw, hall⟩ := hrel
    by_cases hp : pos < s.size
    · have hnx := fun ty => run_next_any_at (P := Tryz.prog) wr w.heap.size s pos ty hh hp
      go_wp2_with (go_at_call 46; refine (isPathRune_any _ _).mono ?_; rintro e w1 ⟨b, rfl, hbt, hb1⟩)
      · have hbf : b = false := by simpa using ‹(!b) = true›
        have hno : ¬ PathB ((Utf8.decode s pos).1 : Int) := fun h => by rw [hbt.2 h] at hbf; cases hbf
        go_ret
        exact BoolIs.no (rune_no (fun _ => path_small) s pos hp hno) (iter_step hh hbw hb1).2
      · have hbf : b = true := by simpa using ‹(!b) = false›
        obtain ⟨hv, hone⟩ := rune_ok (fun _ => path_small) s pos hp (hbt.1 hbf)
        rw [hone] at hb1
        obtain ⟨h1, h2⟩ := iter_step hh hbw hb1
        exact ⟨⟨pos + 1, h1, h2, allTo_succ hall.out hp hv⟩, by rw [iterPos_of h1, iterPos_of hh]; omega⟩
    · have hnx := fun ty => run_next_end_at (P := Tryz.prog) wr w.heap.size s pos ty hh hp
      go_wp2
      go_ret
      exact BoolIs.yes (allTo_end hall.out hp) hbw

set_option maxHeartbeats 1000000 in
theorem pathOk_any (s : ByteArray) (w : World) (hs : s.size ≤ maxLen) :
    Calls Tryz.prog 23 #[.string s] w fun e w' => BoolIs (PathOk s) w e w' := by
  unfold maxLen at hs
  by_cases h1 : (1 : Int) ≤ (s.size : Int)
  · have h0 : 0 < s.size := by omega
    by_cases h2 : (s.size : Int) ≤ 60
    · by_cases h3 : ((s[0]'h0).toNat : Int) = 47
      · have h4 : (((s[0]'h0).toNat : Int) == 47) = true := by rw [beq_iff_eq]; exact h3
        have H3 : Hid ((s[0]'h0).toNat = 47) := by show _ = _; omega
        clear h3
        go_enter Tryz.func23, Tryz.ntmps23
        go_wp2_with fail
        refine (allRunes_path s _).mono ?_
        rintro e w1 ⟨b, rfl, hbt, hb1⟩
        cases b
        · have HN : Hid (¬ PathOk s) := fun h => by have := hbt.2 h.1; cases this
          clear hbt
          go_wp2_with fail
          go_ret
          exact BoolIs.no HN.out hb1
        · have HY : Hid (PathOk s) := ⟨hbt.1 rfl, by omega, by omega, h0, H3.out⟩
          clear hbt
          go_wp2_with fail
          go_ret
          exact BoolIs.yes HY.out hb1
      · have h4 : (((s[0]'h0).toNat : Int) == 47) = false := by rw [beq_eq_false_iff_ne]; exact h3
        have HN : Hid (¬ PathOk s) := fun h => by obtain ⟨_, _, _, _, h5⟩ := h; omega
        clear h3
        go_enter Tryz.func23, Tryz.ntmps23
        go_wp2_with fail
        go_ret
        exact BoolIs.no HN.out (Below.refl _ _)
    · have HN : Hid (¬ PathOk s) := fun h => by obtain ⟨_, _, h5, _⟩ := h; omega
      have hd : decide ((s.size : Int) ≤ 60) = false := by simpa using h2
      go_enter Tryz.func23, Tryz.ntmps23
      go_wp2_with fail
      go_ret
      exact BoolIs.no HN.out (Below.refl _ _)
  · have HN : Hid (¬ PathOk s) := fun h => by obtain ⟨_, h5, _⟩ := h; omega
    have hd : decide ((1 : Int) ≤ (s.size : Int)) = false := by simpa using h1
    go_enter Tryz.func23, Tryz.ntmps23
    go_wp2_with fail
    go_ret
    exact BoolIs.no HN.out (Below.refl _ _)

/-- What is right of what stands behind the first line. -/
def RestP (fs : List (ByteArray × ByteArray)) (b : ByteArray) : Prop := FldsOk fs ∧ b.size ≤ 120
set_option maxHeartbeats 1000000 in
theorem restOk_any (v : Value) (b : ByteArray) (n base : Nat) (fs : List (ByteArray × ByteArray)) (w : World) (hv : FieldsV w base v n fs) (hn : n ≤ 1073741824) (hsz : WalkF n fs) (hb : b.size ≤ maxLen) :
    Calls Tryz.prog 65 #[.agg #[v, .string b]] w fun e w' => BoolIs (RestP fs b) w e w' := by
  obtain ⟨oa, cap, rfl, _⟩ := hv.slice
  obtain ⟨r, hr⟩ : ∃ r, r = w.heap.size := ⟨_, rfl⟩
  have HR : Hid (∀ W, Below (w.alloc (.cells #[.slice oa n cap, .string b] 78)).heap.size (w.alloc (.cells #[.slice oa n cap, .string b] 78)) W → (W.cell? ⟨r, 0, none⟩ = some (.slice oa n cap) ∧ W.cell? ⟨r, 1, none⟩ = some (.string b)) ∧ FieldsV W base (.slice oa n cap) n fs ∧ Below w.heap.size w W) := fun W h => by
    have hh := kept_new h
    rw [← hr] at hh
    exact ⟨⟨by simp [World.cell?, hh], by simp [World.cell?, hh]⟩, hv.below (below_new h), below_new h⟩
  obtain ⟨_, hv0, _⟩ := HR.out _ (Below.refl _ _)
  unfold maxLen at hb
  go_enter Tryz.func65, Tryz.ntmps65
  go_wp2_with fail
  refine (ok_any _ n base fs _ hv0 hn hsz).mono ?_
  rintro e w1 ⟨b1, rfl, kb1, bb1⟩
  rw [← hr]
  obtain ⟨⟨c0, c1⟩, _, hbw1⟩ := HR.out w1 bb1
  clear hv hv0 hsz bb1 hr
  cases b1
  · have HF : Hid (¬ RestP fs b) := fun h => by have := kb1.2 h.1; cases this
    clear kb1
    go_wp2_with fail
    go_ret
    exact BoolIs.no HF.out hbw1
  · have HT : Hid (FldsOk fs) := kb1.1 rfl
    clear kb1
    by_cases h120 : (b.size : Int) ≤ 120
    · have HY : Hid (RestP fs b) := ⟨HT.out, by omega⟩
      go_wp2_with fail
      go_ret
      exact BoolIs.yes HY.out hbw1
    · have HF : Hid (¬ RestP fs b) := fun h => by have := h.2; omega
      have hd : decide ((b.size : Int) ≤ 120) = false := by simpa using h120
      go_wp2_with fail
      go_ret
      exact BoolIs.no HF.out hbw1

set_option maxHeartbeats 1000000 in
theorem respOk_any (st : Int) (v : Value) (b : ByteArray) (n base : Nat) (fs : List (ByteArray × ByteArray)) (w : World) (hv : FieldsV w base v n fs) (hn : n ≤ 1073741824) (hsz : WalkF n fs) (hb : b.size ≤ maxLen) :
    Calls Tryz.prog 44 #[.agg #[v, .string b, .int .i64 st]] w fun e w' => BoolIs (RespP st fs b) w e w' := by
  obtain ⟨oa, cap, rfl, _⟩ := hv.slice
  obtain ⟨r, hr⟩ : ∃ r, r = w.heap.size := ⟨_, rfl⟩
  have HR : Hid (∀ W, Below (w.alloc (.cells #[.slice oa n cap, .string b, .int .i64 st] 80)).heap.size (w.alloc (.cells #[.slice oa n cap, .string b, .int .i64 st] 80)) W → (W.cell? ⟨r, 0, none⟩ = some (.slice oa n cap) ∧ W.cell? ⟨r, 1, none⟩ = some (.string b) ∧ W.cell? ⟨r, 2, none⟩ = some (.int .i64 st)) ∧ FieldsV W base (.slice oa n cap) n fs ∧ Below w.heap.size w W) := fun W h => by
    have hh := kept_new h
    rw [← hr] at hh
    exact ⟨⟨by simp [World.cell?, hh], by simp [World.cell?, hh], by simp [World.cell?, hh]⟩, hv.below (below_new h), below_new h⟩
  obtain ⟨_, hv0, hbw0⟩ := HR.out _ (Below.refl _ _)
  have HV0 : Hid (FieldsV (w.alloc (.cells #[.slice oa n cap, .string b, .int .i64 st] 80)) base (.slice oa n cap) n fs) := hv0
  have HSZ : Hid (WalkF n fs) := hsz
  have HBS : Hid (b.size ≤ maxLen) := hb
  clear hv hv0 hsz hb
  by_cases h1 : 100 ≤ st
  · by_cases h2 : st ≤ 599
    · go_enter Tryz.func44, Tryz.ntmps44
      go_wp2_with fail
      refine (restOk_any _ b n base fs _ HV0.out hn HSZ.out HBS.out).mono ?_
      rintro e w3 ⟨b2, rfl, kb2, bb3⟩
      obtain ⟨_, _, hbw3⟩ := HR.out w3 bb3
      clear bb3 hbw0
      cases b2
      · have HF : Hid (¬ RespP st fs b) := fun h => by have := kb2.2 h.2; cases this
        clear kb2
        go_wp2_with fail
        go_ret
        exact BoolIs.no HF.out hbw3
      · have HY : Hid (RespP st fs b) := ⟨⟨h1, h2⟩, kb2.1 rfl⟩
        clear kb2
        go_wp2_with fail
        go_ret
        exact BoolIs.yes HY.out hbw3
    · have HF : Hid (¬ RespP st fs b) := fun h => h2 h.1.2
      have hd : decide (st ≤ 599) = false := by simpa using h2
      go_enter Tryz.func44, Tryz.ntmps44
      go_wp2_with fail
      go_ret
      exact BoolIs.no HF.out hbw0
  · have HF : Hid (¬ RespP st fs b) := fun h => h1 h.1.1
    have hd : decide (100 ≤ st) = false := by simpa using h1
    go_enter Tryz.func44, Tryz.ntmps44
    go_wp2_with fail
    go_ret
    exact BoolIs.no HF.out hbw0

set_option maxHeartbeats 400000 in
theorem answerOf_any (m : Int) (oa : Option Addr) (n cap : Nat) (b : ByteArray) (w : World) :
    Calls Tryz.prog 43 #[.agg #[.int .i64 m, .slice oa n cap, .string b]] w fun e w' => e = .returned (.agg #[.slice oa n cap, .string b, .int .i64 m]) ∧ Below w.heap.size w w' := by
  go_enter Tryz.func43, Tryz.ntmps43
  go_wp2
  exact bodyPost_ret (v := .agg #[.slice oa n cap, .string b, .int .i64 m]) (by simp [results, Tryz.results43, go_sem]) rfl ⟨rfl, ((Below.refl _ _).alloc (Nat.le_refl _) _).alloc (by simp) _⟩
set_option maxHeartbeats 400000 in
theorem implRespOk_any (m : Int) (v : Value) (b : ByteArray) (n base : Nat) (fs : List (ByteArray × ByteArray)) (w : World) (hv : FieldsV w base v n fs) (hn : n ≤ 1073741824) (hsz : WalkF n fs) (hb : b.size ≤ maxLen) :
    Calls Tryz.prog 22 #[.agg #[.int .i64 m, v, .string b]] w fun e w' => BoolIs (RespP m fs b) w e w' := by
  obtain ⟨oa, cap, rfl, _⟩ := hv.slice
  have hb0 : Below w.heap.size w (w.alloc (.cells #[.int .i64 m, .slice oa n cap, .string b] 29)) := (Below.refl _ _).alloc (Nat.le_refl _) _
  go_enter Tryz.func22, Tryz.ntmps22
  go_wp2_with fail
  refine (answerOf_any m oa n cap b _).mono ?_
  rintro e w1 ⟨rfl, bb1⟩
  have hb1 : Below w.heap.size w w1 := hb0.trans (bb1.mono hb0.size)
  have hv1 := hv.below hb1
  clear bb1 hb0 hv
  go_wp2_with fail
  refine (respOk_any m _ b n base fs _ hv1 hn hsz hb).mono ?_
  rintro e w2 ⟨b1, rfl, kb, bb2⟩
  have hb2 : Below w.heap.size w w2 := hb1.trans (bb2.mono hb1.size)
  have HK : Hid (b1 = true ↔ RespP m fs b) := kb
  clear hv1 hsz hb bb2 hb1 kb
  go_wp2_with fail
  go_ret
  exact ⟨b1, rfl, HK.out, hb2⟩

end Go.Proofs.YtlmenolcgaakeaaGreat

namespace Go.Proofs.YtlmenolcgaakeaaGreat
open Go.RowKit
open Go.Lib hiding intOf

attribute [local go_sem] Oper.semAt_some

set_option maxHeartbeats 1000000 in
set_option maxRecDepth 100000 in
theorem implVaryOf_any (v : Value) (n base : Nat) (fs : List (ByteArray × ByteArray)) (w : World) (hv : FieldsV w base v n fs) (hn : n ≤ 1073741824) (hcp : CopyF fs) (hsz : (getV fs varyName).size ≤ 1048576) :
    Calls Tryz.prog 25 #[v] w fun e w' => RowIs w.heap.size (varyP fs) w e w' := by
  obtain ⟨s, hs⟩ : ∃ s, s = getV fs varyName := ⟨_, rfl⟩
  have HS : Hid (getV fs varyName = s) := hs.symm
  have HE : Hid (varyP fs = (splitL s).map lowerOf) := by show _ = _; unfold varyP; rw [HS.out]
  rw [← hs] at hsz
  have hl1 := (splitL_le s).1
  clear hs
  go_enter Tryz.func25, Tryz.ntmps25
  go_wp2_with fail
  refine (implGet_any v n base fs varyName _ hv hn hcp).mono ?_
  rintro e w1 ⟨rfl, b1⟩
  rw [HS.out]
  clear hv
  go_wp2_with fail
  refine (implSplit_any s _ hsz).mono ?_
  rintro e w2 ⟨V, rfl, O, b2⟩
  obtain ⟨xs, hxs⟩ : ∃ xs, xs = splitL s := ⟨_, rfl⟩
  rw [← hxs] at hl1 O HE
  obtain ⟨m, hm⟩ : ∃ m, m = xs.length := ⟨_, rfl⟩
  rw [← hm] at hl1 O
  have HM : Hid (xs.length = m) := hm.symm
  have O := owns_base O b1.size
  have b2 : Below w.heap.size w w2 := b1.trans (b2.mono b1.size)
  clear hxs hm b1
  rcases row_form O with ⟨oa, ca, rfl, h0, h1⟩ | ⟨g, cap, rfl, hp, r1⟩
  · subst h0 h1
    go_wp2_with fail
    refine wp_loop_rounds 1 ?_
    rw [rounds_succ]
    go_wp2_with fail
    go_ret
    exact RowIs.of (by rw [HE.out]; rfl) rfl O b2
  · clear O
    have HB2 : Hid (Below w.heap.size w w2) := b2
    have HR1 : Hid (TextRow w.heap.size w2 g m cap (loTo xs 0)) := by show TextRow _ _ _ _ _ _; rw [loTo_zero]; exact r1
    clear b2 r1
    go_wp2_with fail
    go_loopw [17] (fun i wr => ∃ j : Nat, j ≤ m ∧ i = .int .i64 (j : Int) ∧ Hid (Below w.heap.size w wr) ∧ Hid (TextRow w.heap.size wr g m cap (loTo xs j))) (fun i _ => m - (intOf i).toNat)
    case atStart => exact ⟨0, Nat.zero_le _, rfl, HB2, HR1⟩
    case round =>
      obtain ⟨j, hj, rfl, HB, HR⟩ := hrel
      by_cases hlt : j < m
      · have hlt2 : (j : Int) < (m : Int) := by omega
        obtain ⟨x, hx⟩ : ∃ x, x = textAt xs j := ⟨_, rfl⟩
        have hc := HR.out.cell j hlt
        rw [loTo_at, ← hx] at hc
        have HST : Hid ((loTo xs j).set j (lowerOf x) = loTo xs (j + 1)) := by show _ = _; rw [hx]; exact loTo_step xs j (by rw [HM.out]; exact hlt)
        clear hx
        go_wp2_with fail
        refine (implLower_any x _).mono ?_
        rintro e w3 ⟨rfl, hb3⟩
        have hrow := HR.out.below hb3 HR.out.lt
        have hc3 := hrow.cell j hlt
        have hf3 := hrow.frozen j
        have HB3 : Hid (Below w.heap.size w (w3.setCell ⟨g, j, none⟩ (.string (lowerOf x)))) := (HB.out.trans (hb3.mono HB.out.size)).setCell HR.out.base _
        have HR3 : Hid (TextRow w.heap.size (w3.setCell ⟨g, j, none⟩ (.string (lowerOf x))) g m cap (loTo xs (j + 1))) := by
          show TextRow _ _ _ _ _ _
          rw [← HST.out]
          exact hrow.set j hlt _
        clear hb3 hrow HB HR HST hc
        go_wp2_with fail
        go_roundw
        case rel => exact ⟨j + 1, by omega, by go_num, HB3, HR3⟩
        case measure => simp [intOf]; omega
      · obtain rfl : j = m := by omega
        go_wp2_with fail
        go_ret
        exact RowIs.of (by rw [HE.out, loTo_all xs j (by rw [HM.out]; exact Nat.le_refl _)]) (by rw [loTo_all xs j (by rw [HM.out]; exact Nat.le_refl _), List.length_map, HM.out]) HR.out.owns HB.out

end Go.Proofs.YtlmenolcgaakeaaGreat

namespace Go.Proofs.YtlmenolcgaakeaaGreat
open Go.RowKit
open Go.Lib hiding intOf

theorem pair_at (fs : List (ByteArray × ByteArray)) (k : Nat) (h : k < fs.length) : (nameAt fs k, valAt fs k) = fs[k] := by
  unfold nameAt valAt
  rw [List.getD_eq_getElem?_getD, List.getElem?_eq_getElem h]
  rfl
theorem dropTo_none (fs : List (ByteArray × ByteArray)) : ∀ k, k ≤ fs.length → dropTo fs (-1) k = fs.take k := by
  intro k
  induction k with
  | zero => intro _; rfl
  | succ k ih =>
    intro hk
    rw [dropTo, if_neg (by omega), ih (by omega), pair_at fs k (by omega), List.take_append_getElem (by omega)]
theorem dropTo_at (fs : List (ByteArray × ByteArray)) (a : Nat) : ∀ k, k ≤ fs.length → dropTo fs (a : Int) k = (if a < k then (fs.take k).eraseIdx a else fs.take k) := by
  intro k
  induction k with
  | zero => intro _; rfl
  | succ k ih =>
    intro hk
    have ht : fs.take (k + 1) = fs.take k ++ [fs[k]] := (List.take_append_getElem (by omega)).symm
    have hl : (fs.take k).length = k := by rw [List.length_take]; omega
    rw [dropTo, ih (by omega), pair_at fs k (by omega), ht]
    by_cases e : k = a
    · subst e
      rw [if_pos rfl, if_neg (by omega), if_pos (by omega), List.eraseIdx_append_of_length_le (by omega), hl, Nat.sub_self]
      simp
    · rw [if_neg (by omega)]
      by_cases c : a < k
      · rw [if_pos c, if_pos (by omega), List.eraseIdx_append_of_lt_length (by omega)]
      · rw [if_neg c, if_neg (by omega)]
theorem dropF_eq (fs : List (ByteArray × ByteArray)) (name : ByteArray) : dropF fs name = (if atF fs name < fs.length then fs.eraseIdx (atF fs name) else fs) := by
  unfold dropF atI
  by_cases h : atF fs name < fs.length
  · rw [if_pos h, if_pos h, dropTo_at fs _ _ (Nat.le_refl _), if_pos h, List.take_length]
  · rw [if_neg h, if_neg h, dropTo_none fs _ (Nat.le_refl _), List.take_length]
theorem putF_eq (fs : List (ByteArray × ByteArray)) (name value : ByteArray) (h : atF fs name < fs.length) : putF fs name value = fs.set (atF fs name) (name, value) := by
  unfold putF
  rw [if_pos h, atF_here fs name h]

end Go.Proofs.YtlmenolcgaakeaaGreat

namespace Go.Proofs.YtlmenolcgaakeaaGreat
open Go.RowKit
open Go.Lib hiding intOf

theorem ShortF.name {fs : List (ByteArray × ByteArray)} (h : ShortF fs) (i : Nat) (hi : i < fs.length) : (nameAt fs i).size ≤ 64 ∧ (valAt fs i).size ≤ 64 := by
  have := h (nameAt fs i, valAt fs i) (by rw [pair_at fs i hi]; exact List.getElem_mem hi)
  exact this
theorem ShortF.put {fs : List (ByteArray × ByteArray)} (h : ShortF fs) {name value : ByteArray} (h1 : name.size ≤ 64) (h2 : value.size ≤ 64) : ShortF (putF fs name value) := by
  by_cases hin : atF fs name < fs.length
  · rw [putF_eq fs name value hin]
    intro f hf
    rcases List.mem_or_eq_of_mem_set hf with hf | hf
    · exact h f hf
    · subst hf; exact ⟨h1, h2⟩
  · have hp : putF fs name value = fs ++ [(name, value)] := by unfold putF; rw [if_neg hin]
    rw [hp]; exact h.snoc h1 h2
theorem ShortF.drop {fs : List (ByteArray × ByteArray)} (h : ShortF fs) (name : ByteArray) : ShortF (dropF fs name) := by
  rw [dropF_eq]
  split
  · intro f hf; exact h f (List.mem_of_mem_eraseIdx hf)
  · exact h
theorem ShortF.copy {fs : List (ByteArray × ByteArray)} (h : ShortF fs) : CopyF fs := fun i hi => by
  have := h.name i hi
  omega
theorem put_len (fs : List (ByteArray × ByteArray)) (name value : ByteArray) : (putF fs name value).length ≤ fs.length + 1 := by
  unfold putF
  split
  · rw [List.length_set]; omega
  · rw [List.length_append]; simp
theorem drop_len (fs : List (ByteArray × ByteArray)) (name : ByteArray) : (dropF fs name).length ≤ fs.length := by
  rw [dropF_eq]
  split
  · rw [List.length_eraseIdx]; split <;> omega
  · exact Nat.le_refl _

end Go.Proofs.YtlmenolcgaakeaaGreat

namespace Go.Proofs.YtlmenolcgaakeaaGreat
open Go.RowKit
open Go.Lib hiding intOf

theorem shortWalk {fs : List (ByteArray × ByteArray)} (h : ShortF fs) : WalkF fs.length fs := fun i hi => by
  have := h.name i hi
  unfold maxLen
  omega
theorem short_get2 {fs : List (ByteArray × ByteArray)} (h : ShortF fs) (x : ByteArray) : (getV fs x).size ≤ 64 := by
  unfold getV
  split
  · rename_i hin; exact (h.name _ hin).2
  · decide

end Go.Proofs.YtlmenolcgaakeaaGreat
