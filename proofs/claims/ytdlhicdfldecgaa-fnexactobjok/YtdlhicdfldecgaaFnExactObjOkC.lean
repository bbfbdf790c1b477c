/- What the proof of FnExactObjOk leans on: contracts of the program's and the specification's functions, and plain facts (part 3 of 3). -/
import Derived.Test.YtdlhicdfldecgaaFnExactObjOkB
namespace Go.Proofs.Ytdlhicdfldecgaa
open Go.RowKit
open Go.Lib hiding intOf

set_option maxHeartbeats 1000000 in
theorem fieldOk_any (v : Value) (n base : Nat) (fs : List (ByteArray × ByteArray)) (k : Nat) (w : World) (hv : FieldsV w base v n fs) (hn : n ≤ 1073741824) (hk : k < n) (hs1 : (nameAt fs k).size ≤ maxLen) (hs2 : (valAt fs k).size ≤ maxLen) :
    Calls Try.prog 62 #[v, .int .i64 (k : Int)] w fun e w' => BoolIs (FldOk fs k) w e w' := by
  have HV : Hid (∀ W, Below w.heap.size w W → FieldsV W base v n fs) := fun W h => hv.below h
  obtain ⟨oa, cap, rfl, hrow⟩ := hv.slice
  obtain ⟨g, rfl, row⟩ := hrow k hk
  have hlt2 : (k : Int) < (n : Int) := by omega
  have hc1 := row.name k hk
  have hc2 := row.val k hk
  obtain ⟨nm, hnm⟩ : ∃ x, x = nameAt fs k := ⟨_, rfl⟩
  obtain ⟨vl, hvl⟩ : ∃ x, x = valAt fs k := ⟨_, rfl⟩
  have HO : Hid (FldOk fs k ↔ TokOk nm ∧ ValOk vl ∧ atF fs nm = k ∧ nm ≠ clen) := by rw [hnm, hvl]; exact Iff.rfl
  rw [← hnm] at hc1 hs1
  rw [← hvl] at hc2 hs2
  clear hv hrow row hnm hvl
  obtain ⟨r, hr⟩ : ∃ r, r = w.heap.size := ⟨_, rfl⟩
  have h0 : (w.alloc (.cells #[.string nm, .string vl] 70)).heap.size = w.heap.size + 1 := by simp
  have HB0 : Hid (Below w.heap.size w (w.alloc (.cells #[.string nm, .string vl] 70)) ∧ w.heap.size ≤ (w.alloc (.cells #[.string nm, .string vl] 70)).heap.size) := ⟨(Below.refl _ w).alloc (Nat.le_refl _) _, by omega⟩
  have HR : Hid (∀ W, Below (w.alloc (.cells #[.string nm, .string vl] 70)).heap.size (w.alloc (.cells #[.string nm, .string vl] 70)) W → W.cell? ⟨r, 0, none⟩ = some (.string nm) ∧ W.cell? ⟨r, 1, none⟩ = some (.string vl)) := fun W h => by
    have hh : W.heap[r]? = some (.cells #[.string nm, .string vl] 70) := by rw [hr, h.block _ (by omega)]; exact heap_alloc_new w _
    exact ⟨by simp [World.cell?, hh], by simp [World.cell?, hh]⟩
  go_enter Try.func62, Try.ntmps62
  go_wp2_with fail
  refine (implTokenOk_any nm _ hs1).mono ?_
  rintro e w1 ⟨b1, rfl, kb1, bb1⟩
  rw [← hr]
  have hb1 : Below w.heap.size w w1 := HB0.out.1.trans (bb1.mono HB0.out.2)
  obtain ⟨d1, d2⟩ := HR.out w1 bb1
  clear h0
  cases b1
  · have HF : Hid (¬ FldOk fs k) := fun h => by have := kb1.2 (HO.out.1 h).1; cases this
    clear kb1 hc1 hc2 bb1 hr
    go_wp2_with fail
    go_ret
    exact BoolIs.no HF.out hb1
  · have HT : Hid (TokOk nm) := kb1.1 rfl
    clear kb1 hc1 hc2 hr
    go_wp2_with fail
    refine (implValueOk_any vl _ hs2).mono ?_
    rintro e w2 ⟨b2, rfl, kb2, bb2⟩
    have bb2' := bb1.trans (bb2.mono bb1.size)
    have hb2 : Below w.heap.size w w2 := HB0.out.1.trans (bb2'.mono HB0.out.2)
    obtain ⟨d3, d4⟩ := HR.out w2 bb2'
    cases b2
    · have HF : Hid (¬ FldOk fs k) := fun h => by have := kb2.2 (HO.out.1 h).2.1; cases this
      clear kb2 bb1 bb2 bb2' hb1 d1 d2
      go_wp2_with fail
      go_ret
      exact BoolIs.no HF.out hb2
    · have HT2 : Hid (ValOk vl) := kb2.1 rfl
      clear kb2 bb1 bb2 bb2' hb1 d1 d2
      by_cases hcl : nm = clen
      · have ht := (text_beq _ _).2 hcl
        rw [clen_list] at ht
        have HF : Hid (¬ FldOk fs k) := fun h => (HO.out.1 h).2.2.2 hcl
        clear hcl
        go_wp2_with fail
        go_ret
        exact BoolIs.no HF.out hb2
      · have ht := text_beq_no hcl
        rw [clen_list] at ht
        have HC : Hid (nm ≠ clen) := hcl
        clear hcl
        go_wp2_with fail
        refine (place_any _ n base fs nm _ (HV.out w2 hb2) hn).mono ?_
        rintro e w3 ⟨rfl, rfl⟩
        by_cases hat : atF fs nm = k
        · have HY : Hid (FldOk fs k) := HO.out.2 ⟨HT.out, HT2.out, hat, HC.out⟩
          rw [hat]
          clear hat
          go_wp2
          go_ret
          exact BoolIs.yes HY.out hb2
        · have HF : Hid (¬ FldOk fs k) := fun h => hat (HO.out.1 h).2.2.1
          have hne : ((atF fs nm : Int) == (k : Int)) = false := by rw [beq_eq_false_iff_ne]; omega
          clear hat
          go_wp2
          go_ret
          exact BoolIs.no HF.out hb2

set_option maxHeartbeats 1000000 in
theorem ok_any (v : Value) (n base : Nat) (fs : List (ByteArray × ByteArray)) (w : World) (hv : FieldsV w base v n fs) (hn : n ≤ 1073741824) (hsz : ∀ i, i < n → (nameAt fs i).size ≤ maxLen ∧ (valAt fs i).size ≤ maxLen) :
    Calls Try.prog 58 #[v] w fun e w' => BoolIs (FldsOk fs) w e w' := by
  have hl := hv.len
  have HV : Hid (∀ W, Below w.heap.size w W → FieldsV W base v n fs) := fun W h => hv.below h
  have HS : Hid (∀ i, i < n → (nameAt fs i).size ≤ maxLen ∧ (valAt fs i).size ≤ maxLen) := hsz
  obtain ⟨oa, cap, rfl, hrow⟩ := hv.slice
  clear hv hrow hsz
  by_cases h8 : (8 : Int) < (n : Int)
  · have HF : Hid (¬ FldsOk fs) := fun h => by have := h.1; omega
    go_enter Try.func58, Try.ntmps58
    go_wp2
    go_ret
    exact BoolIs.no HF.out (Below.refl _ _)
  · go_enter Try.func58, Try.ntmps58
    go_wp2
    go_loopw [9] (fun i wr => ∃ k : Nat, k ≤ n ∧ i = .int .i64 (k : Int) ∧ Hid (∀ j, j < k → FldOk fs j) ∧ Below w.heap.size w wr) (fun i _ => n - (intOf i).toNat)
    case atStart => exact ⟨0, Nat.zero_le _, rfl, fun j h => absurd h (by omega), Below.refl _ _⟩
    case round =>
      obtain ⟨k, hk, rfl, hall, hbw⟩ := hrel
      by_cases hlt : k < n
      · have hlt2 : (k : Int) < (n : Int) := by omega
        obtain ⟨hs1, hs2⟩ := HS.out k hlt
        go_wp2_with fail
        refine (fieldOk_any _ n base fs k _ (HV.out wr hbw) hn hlt hs1 hs2).mono ?_
        rintro e w1 ⟨b1, rfl, kb1, bb1⟩
        have hb1 : Below w.heap.size w w1 := hbw.trans (bb1.mono hbw.size)
        cases b1
        · have HF : Hid (¬ FldsOk fs) := fun h => by have := kb1.2 (h.2 k (by omega)); cases this
          clear kb1 bb1
          go_wp2
          go_ret
          exact BoolIs.no HF.out hb1
        · have HY : Hid (FldOk fs k) := kb1.1 rfl
          clear kb1 bb1
          go_wp2
          go_roundw
          case rel =>
            refine ⟨k + 1, by omega, by go_num, ?_, hb1⟩
            intro j hj
            by_cases e : j = k
            · subst e; exact HY.out
            · exact hall.out j (by omega)
          case measure => simp [intOf]; omega
      · have HF : Hid (FldsOk fs) := ⟨by omega, fun i hi => hall.out i (by omega)⟩
        go_wp2
        go_ret
        exact BoolIs.yes HF.out hbw

end Go.Proofs.Ytdlhicdfldecgaa

namespace Go.Proofs.Ytdlhicdfldecgaa
open Go.RowKit
open Go.Lib hiding intOf

theorem path_cls (n : Int) : PathB n ↔ (cls n ≠ 4 ∧ cls n ≠ 7) := by
  have := cls_spec n
  unfold PathB
  constructor
  · intro h; omega
  · intro h; omega
theorem path_small {n : Int} (h : PathB n) : n < 128 := by unfold PathB at h; omega

set_option maxHeartbeats 400000 in
theorem isPathRune_any (r : Int) (w : World) :
    Calls Try.prog 40 #[.int .i32 r] w fun e w' => BoolIs (PathB r) w e w' := by
  have HP : Hid (PathB r ↔ (cls r ≠ 4 ∧ cls r ≠ 7)) := path_cls r
  go_enter Try.func40, Try.ntmps40
  go_wp2_with fail
  refine (classOf_any r _).mono ?_
  rintro e w1 ⟨rfl, hb⟩
  generalize cls r = c at HP ⊢
  by_cases h4 : c = 4
  · have HN : Hid (¬ PathB r) := fun h => (HP.out.1 h).1 h4
    subst h4
    go_wp2_with fail
    go_ret
    exact BoolIs.no HN.out hb
  · have h5 : (c != 4) = true := by rw [bne_iff_ne]; exact h4
    by_cases h7 : c = 7
    · have HN : Hid (¬ PathB r) := fun h => (HP.out.1 h).2 h7
      subst h7
      go_wp2_with fail
      go_ret
      exact BoolIs.no HN.out hb
    · have h8 : (c != 7) = true := by rw [bne_iff_ne]; exact h7
      have HY : Hid (PathB r) := HP.out.2 ⟨h4, h7⟩
      go_wp2_with fail
      go_ret
      exact BoolIs.yes HY.out hb

set_option maxHeartbeats 1000000 in
theorem allRunes_path (s : ByteArray) (w : World) :
    Calls Try.prog 39 #[.string s, .func (.func 40) #[] #[]] w fun e w' => BoolIs (AllB PathB s) w e w' := by
  go_enter Try.func39, Try.ntmps39
  go_wp2
  go_loopw [6] (fun _ wr => ∃ pos : Nat, wr.heap[w.heap.size]? = some (.stringIter s pos) ∧ Below w.heap.size w wr ∧ Hid (AllTo PathB s pos)) (fun _ wr => s.size - wr.iterPos w.heap.size)
  case atStart => exact ⟨0, World.iter_heap _ _ _, (Below.refl _ _).alloc (Nat.le_refl _) _, allTo_zero _ _⟩
  case round =>
    obtain ⟨pos, hh, hbw, hall⟩ := hrel
    by_cases hp : pos < s.size
    · have hnx := fun ty => run_next_any_at (P := Try.prog) wr w.heap.size s pos ty hh hp
      go_wp2_with (go_at_call 40; refine (isPathRune_any _ _).mono ?_; rintro e w1 ⟨b, rfl, hbt, hb1⟩)
      · have hbf : b = false := by simpa using ‹(!b) = true›
        have hno : ¬ PathB ((Utf8.decode s pos).1 : Int) := fun h => by rw [hbt.2 h] at hbf; cases hbf
        go_ret
        exact BoolIs.no (rune_no (fun _ => path_small) s pos hp hno) (iter_step hh hbw hb1).2
      · have hbf : b = true := by simpa using ‹(!b) = false›
        obtain ⟨hv, hone⟩ := rune_ok (fun _ => path_small) s pos hp (hbt.1 hbf)
        rw [hone] at hb1
        obtain ⟨h1, h2⟩ := iter_step hh hbw hb1
        exact ⟨⟨pos + 1, h1, h2, allTo_succ hall.out hp hv⟩, by rw [iterPos_of h1, iterPos_of hh]; omega⟩
    · have hnx := fun ty => run_next_end_at (P := Try.prog) wr w.heap.size s pos ty hh hp
      go_wp2
      go_ret
      exact BoolIs.yes (allTo_end hall.out hp) hbw

set_option maxHeartbeats 1000000 in
theorem pathOk_any (s : ByteArray) (w : World) (hs : s.size ≤ maxLen) :
    Calls Try.prog 21 #[.string s] w fun e w' => BoolIs (PathOk s) w e w' := by
  unfold maxLen at hs
  by_cases h1 : (1 : Int) ≤ (s.size : Int)
  · have h0 : 0 < s.size := by omega
    by_cases h2 : (s.size : Int) ≤ 60
    · by_cases h3 : ((s[0]'h0).toNat : Int) = 47
      · have h4 : (((s[0]'h0).toNat : Int) == 47) = true := by rw [beq_iff_eq]; exact h3
        have H3 : Hid ((s[0]'h0).toNat = 47) := by show _ = _; omega
        clear h3
        go_enter Try.func21, Try.ntmps21
        go_wp2_with fail
        refine (allRunes_path s _).mono ?_
        rintro e w1 ⟨b, rfl, hbt, hb1⟩
        cases b
        · have HN : Hid (¬ PathOk s) := fun h => by have := hbt.2 h.1; cases this
          clear hbt
          go_wp2_with fail
          go_ret
          exact BoolIs.no HN.out hb1
        · have HY : Hid (PathOk s) := ⟨hbt.1 rfl, by omega, by omega, h0, H3.out⟩
          clear hbt
          go_wp2_with fail
          go_ret
          exact BoolIs.yes HY.out hb1
      · have h4 : (((s[0]'h0).toNat : Int) == 47) = false := by rw [beq_eq_false_iff_ne]; exact h3
        have HN : Hid (¬ PathOk s) := fun h => by obtain ⟨_, _, _, _, h5⟩ := h; omega
        clear h3
        go_enter Try.func21, Try.ntmps21
        go_wp2_with fail
        go_ret
        exact BoolIs.no HN.out (Below.refl _ _)
    · have HN : Hid (¬ PathOk s) := fun h => by obtain ⟨_, _, h5, _⟩ := h; omega
      have hd : decide ((s.size : Int) ≤ 60) = false := by simpa using h2
      go_enter Try.func21, Try.ntmps21
      go_wp2_with fail
      go_ret
      exact BoolIs.no HN.out (Below.refl _ _)
  · have HN : Hid (¬ PathOk s) := fun h => by obtain ⟨_, h5, _⟩ := h; omega
    have hd : decide ((1 : Int) ≤ (s.size : Int)) = false := by simpa using h1
    go_enter Try.func21, Try.ntmps21
    go_wp2_with fail
    go_ret
    exact BoolIs.no HN.out (Below.refl _ _)

/-- What is right of what stands behind the first line. -/
def RestP (fs : List (ByteArray × ByteArray)) (b : ByteArray) : Prop := FldsOk fs ∧ b.size ≤ 120
set_option maxHeartbeats 1000000 in
theorem restOk_any (v : Value) (b : ByteArray) (n base : Nat) (fs : List (ByteArray × ByteArray)) (w : World) (hv : FieldsV w base v n fs) (hn : n ≤ 1073741824) (hsz : WalkF n fs) (hb : b.size ≤ maxLen) :
    Calls Try.prog 50 #[.agg #[v, .string b]] w fun e w' => BoolIs (RestP fs b) w e w' := by
  obtain ⟨oa, cap, rfl, _⟩ := hv.slice
  obtain ⟨r, hr⟩ : ∃ r, r = w.heap.size := ⟨_, rfl⟩
  have HR : Hid (∀ W, Below (w.alloc (.cells #[.slice oa n cap, .string b] 59)).heap.size (w.alloc (.cells #[.slice oa n cap, .string b] 59)) W → (W.cell? ⟨r, 0, none⟩ = some (.slice oa n cap) ∧ W.cell? ⟨r, 1, none⟩ = some (.string b)) ∧ FieldsV W base (.slice oa n cap) n fs ∧ Below w.heap.size w W) := fun W h => by
    have hh := kept_new h
    rw [← hr] at hh
    exact ⟨⟨by simp [World.cell?, hh], by simp [World.cell?, hh]⟩, hv.below (below_new h), below_new h⟩
  obtain ⟨_, hv0, _⟩ := HR.out _ (Below.refl _ _)
  unfold maxLen at hb
  go_enter Try.func50, Try.ntmps50
  go_wp2_with fail
  refine (ok_any _ n base fs _ hv0 hn hsz).mono ?_
  rintro e w1 ⟨b1, rfl, kb1, bb1⟩
  rw [← hr]
  obtain ⟨⟨c0, c1⟩, _, hbw1⟩ := HR.out w1 bb1
  clear hv hv0 hsz bb1 hr
  cases b1
  · have HF : Hid (¬ RestP fs b) := fun h => by have := kb1.2 h.1; cases this
    clear kb1
    go_wp2_with fail
    go_ret
    exact BoolIs.no HF.out hbw1
  · have HT : Hid (FldsOk fs) := kb1.1 rfl
    clear kb1
    by_cases h120 : (b.size : Int) ≤ 120
    · have HY : Hid (RestP fs b) := ⟨HT.out, by omega⟩
      go_wp2_with fail
      go_ret
      exact BoolIs.yes HY.out hbw1
    · have HF : Hid (¬ RestP fs b) := fun h => by have := h.2; omega
      have hd : decide ((b.size : Int) ≤ 120) = false := by simpa using h120
      go_wp2_with fail
      go_ret
      exact BoolIs.no HF.out hbw1

set_option maxHeartbeats 1000000 in
theorem respOk_any (st : Int) (v : Value) (b : ByteArray) (n base : Nat) (fs : List (ByteArray × ByteArray)) (w : World) (hv : FieldsV w base v n fs) (hn : n ≤ 1073741824) (hsz : WalkF n fs) (hb : b.size ≤ maxLen) :
    Calls Try.prog 38 #[.agg #[v, .string b, .int .i64 st]] w fun e w' => BoolIs (RespP st fs b) w e w' := by
  obtain ⟨oa, cap, rfl, _⟩ := hv.slice
  obtain ⟨r, hr⟩ : ∃ r, r = w.heap.size := ⟨_, rfl⟩
  have HR : Hid (∀ W, Below (w.alloc (.cells #[.slice oa n cap, .string b, .int .i64 st] 61)).heap.size (w.alloc (.cells #[.slice oa n cap, .string b, .int .i64 st] 61)) W → (W.cell? ⟨r, 0, none⟩ = some (.slice oa n cap) ∧ W.cell? ⟨r, 1, none⟩ = some (.string b) ∧ W.cell? ⟨r, 2, none⟩ = some (.int .i64 st)) ∧ FieldsV W base (.slice oa n cap) n fs ∧ Below w.heap.size w W) := fun W h => by
    have hh := kept_new h
    rw [← hr] at hh
    exact ⟨⟨by simp [World.cell?, hh], by simp [World.cell?, hh], by simp [World.cell?, hh]⟩, hv.below (below_new h), below_new h⟩
  obtain ⟨_, hv0, hbw0⟩ := HR.out _ (Below.refl _ _)
  have HV0 : Hid (FieldsV (w.alloc (.cells #[.slice oa n cap, .string b, .int .i64 st] 61)) base (.slice oa n cap) n fs) := hv0
  have HSZ : Hid (WalkF n fs) := hsz
  have HBS : Hid (b.size ≤ maxLen) := hb
  clear hv hv0 hsz hb
  by_cases h1 : 100 ≤ st
  · by_cases h2 : st ≤ 599
    · go_enter Try.func38, Try.ntmps38
      go_wp2_with fail
      refine (restOk_any _ b n base fs _ HV0.out hn HSZ.out HBS.out).mono ?_
      rintro e w3 ⟨b2, rfl, kb2, bb3⟩
      obtain ⟨_, _, hbw3⟩ := HR.out w3 bb3
      clear bb3 hbw0
      cases b2
      · have HF : Hid (¬ RespP st fs b) := fun h => by have := kb2.2 h.2; cases this
        clear kb2
        go_wp2_with fail
        go_ret
        exact BoolIs.no HF.out hbw3
      · have HY : Hid (RespP st fs b) := ⟨⟨h1, h2⟩, kb2.1 rfl⟩
        clear kb2
        go_wp2_with fail
        go_ret
        exact BoolIs.yes HY.out hbw3
    · have HF : Hid (¬ RespP st fs b) := fun h => h2 h.1.2
      have hd : decide (st ≤ 599) = false := by simpa using h2
      go_enter Try.func38, Try.ntmps38
      go_wp2_with fail
      go_ret
      exact BoolIs.no HF.out hbw0
  · have HF : Hid (¬ RespP st fs b) := fun h => h1 h.1.1
    have hd : decide (100 ≤ st) = false := by simpa using h1
    go_enter Try.func38, Try.ntmps38
    go_wp2_with fail
    go_ret
    exact BoolIs.no HF.out hbw0

set_option maxHeartbeats 400000 in
theorem answerOf_any (m : Int) (oa : Option Addr) (n cap : Nat) (b : ByteArray) (w : World) :
    Calls Try.prog 37 #[.agg #[.int .i64 m, .slice oa n cap, .string b]] w fun e w' => e = .returned (.agg #[.slice oa n cap, .string b, .int .i64 m]) ∧ Below w.heap.size w w' := by
  go_enter Try.func37, Try.ntmps37
  go_wp2
  exact bodyPost_ret (v := .agg #[.slice oa n cap, .string b, .int .i64 m]) (by simp [results, Try.results37, go_sem]) rfl ⟨rfl, ((Below.refl _ _).alloc (Nat.le_refl _) _).alloc (by simp) _⟩
set_option maxHeartbeats 400000 in
theorem implRespOk_any (m : Int) (v : Value) (b : ByteArray) (n base : Nat) (fs : List (ByteArray × ByteArray)) (w : World) (hv : FieldsV w base v n fs) (hn : n ≤ 1073741824) (hsz : WalkF n fs) (hb : b.size ≤ maxLen) :
    Calls Try.prog 20 #[.agg #[.int .i64 m, v, .string b]] w fun e w' => BoolIs (RespP m fs b) w e w' := by
  obtain ⟨oa, cap, rfl, _⟩ := hv.slice
  have hb0 : Below w.heap.size w (w.alloc (.cells #[.int .i64 m, .slice oa n cap, .string b] 32)) := (Below.refl _ _).alloc (Nat.le_refl _) _
  go_enter Try.func20, Try.ntmps20
  go_wp2_with fail
  refine (answerOf_any m oa n cap b _).mono ?_
  rintro e w1 ⟨rfl, bb1⟩
  have hb1 : Below w.heap.size w w1 := hb0.trans (bb1.mono hb0.size)
  have hv1 := hv.below hb1
  clear bb1 hb0 hv
  go_wp2_with fail
  refine (respOk_any m _ b n base fs _ hv1 hn hsz hb).mono ?_
  rintro e w2 ⟨b1, rfl, kb, bb2⟩
  have hb2 : Below w.heap.size w w2 := hb1.trans (bb2.mono hb1.size)
  have HK : Hid (b1 = true ↔ RespP m fs b) := kb
  clear hv1 hsz hb bb2 hb1 kb
  go_wp2_with fail
  go_ret
  exact ⟨b1, rfl, HK.out, hb2⟩

end Go.Proofs.Ytdlhicdfldecgaa

namespace Go.Proofs.Ytdlhicdfldecgaa
open Go.RowKit
open Go.Lib hiding intOf

set_option maxHeartbeats 20000000 in
set_option maxRecDepth 100000 in
theorem implObjOk_any (p : ByteArray) (o1 : Option Addr) (n1 c1 : Nat) (xs : List ByteArray) (o2 : Option Addr) (n2 c2 : Nat) (ys : List ByteArray) (st : Int) (v3 : Value) (n3 base : Nat) (fs : List (ByteArray × ByteArray)) (b : ByteArray) (t : Int) (w : World) (h1 : TextsA w o1 n1 xs) (h2 : TextsA w o2 n2 ys) (h3 : FieldsV w base v3 n3 fs) (hn1 : n1 ≤ 2000000) (hn2 : n2 ≤ 2000000) (hn3 : n3 ≤ 2000000) (hs1 : ∀ i, i < n1 → (textAt xs i).size ≤ maxLen) (hs2 : ∀ i, i < n2 → (textAt ys i).size ≤ maxLen) (hs3 : WalkF n3 fs) (hc : CopyF fs) (hp : p.size ≤ maxLen) (hx : b.size ≤ maxLen) (hg : (getV fs varyName).size ≤ 1048576) :
    Calls Try.prog 7 #[.agg #[.string p, .slice o1 n1 c1, .slice o2 n2 c2, .int .i64 st, v3, .string b, .int .i64 t]] w fun e w' => BoolIs (ObjP p xs ys st fs b t) w e w' := by
  obtain ⟨o3, c3, rfl, _⟩ := h3.slice
  have HV1 : Hid (∀ W, Below w.heap.size w W → TextsA W o1 n1 xs) := fun W h => h1.below h
  have HV2 : Hid (∀ W, Below w.heap.size w W → TextsA W o2 n2 ys) := fun W h => h2.below h
  have HV3 : Hid (∀ W, Below w.heap.size w W → FieldsV W base (.slice o3 n3 c3) n3 fs) := fun W h => h3.below h
  have HL1 : Hid (xs.length = n1) := h1.1
  have HL2 : Hid (ys.length = n2) := h2.1
  have HS1 : Hid (∀ i, i < n1 → (textAt xs i).size ≤ maxLen) := hs1
  have HS2 : Hid (∀ i, i < n2 → (textAt ys i).size ≤ maxLen) := hs2
  have HS3 : Hid (WalkF n3 fs) := hs3
  have HC : Hid (CopyF fs) := hc
  have HPM : Hid (p.size ≤ maxLen) := hp
  have HX : Hid (b.size ≤ maxLen) := hx
  have HG : Hid ((getV fs varyName).size ≤ 1048576) := hg
  obtain ⟨vl, hvl⟩ : ∃ l, l = varyP fs := ⟨_, rfl⟩
  have HVL : Hid (varyP fs = vl) := hvl.symm
  have HVZ : Hid (vl.length ≤ 2000000) := by
    show _ ≤ _
    have hle := splitL_le (getV fs varyName)
    rw [hvl]
    unfold varyP
    rw [List.length_map]
    omega
  clear h1 h2 h3 hs1 hs2 hs3 hc hp hx hg hvl
  have hb0 : Below w.heap.size w w := Below.refl _ _
  go_enter Try.func7, Try.ntmps7
  go_upto_region 1 with fail
  obtain ⟨qv1, hqv1⟩ : ∃ q, q = (w).heap.size := ⟨_, rfl⟩
  obtain ⟨w1, hW1⟩ : ∃ W, W = (w).alloc (.cells #[.string p, .slice o1 n1 c1, .slice o2 n2 c2, .int .i64 st, .slice o3 n3 c3, .string b, .int .i64 t] 34) := ⟨_, rfl⟩
  have hz1 : (w).heap.size = qv1 := hqv1.symm
  first | rw [← hW1, ← hqv1] | rw [← hW1]
  have hs1 : w1.heap.size = qv1 + 1 := by rw [hW1, ← hz1]; simp
  have bw : Below (w).heap.size (w) w1 := by rw [hW1]; exact (Below.refl _ _).alloc (Nat.le_refl _) _
  have hb1 : Below w.heap.size w (w1) := hb0.trans (bw.mono hb0.size)
  have HM1 : Hid ((w).heap.size ≤ (w1).heap.size) := bw.size
  have HBv1_1 : Hid ((w1).heap[qv1]? = some (.cells #[.string p, .slice o1 n1 c1, .slice o2 n2 c2, .int .i64 st, .slice o3 n3 c3, .string b, .int .i64 t] 34)) := by show _ = _; rw [hW1, ← hz1]; exact heap_alloc_new _ _
  have HGv1 : Hid (w.heap.size ≤ qv1) := by show _ ≤ _; rw [← hz1]; exact hb0.size
  clear hb0 bw hW1 hz1
  clear hs1 hqv1
  have cv1_3 : (w1).cell? ⟨qv1, 3, none⟩ = some (.int .i64 st) := (cell_of HBv1_1.out 3).trans rfl
  have cv1_4 : (w1).cell? ⟨qv1, 4, none⟩ = some (.slice o3 n3 c3) := (cell_of HBv1_1.out 4).trans rfl
  have cv1_5 : (w1).cell? ⟨qv1, 5, none⟩ = some (.string b) := (cell_of HBv1_1.out 5).trans rfl
  go_wp2_with fail
  refine (implRespOk_any st _ b n3 base fs _ (HV3.out _ hb1) (by omega) HS3.out HX.out).mono ?_
  rintro e w2 ⟨u1, rfl, htu1, bw⟩
  have hb2 : Below w.heap.size w (w2) := hb1.trans (bw.mono hb1.size)
  have HM2 : Hid ((w1).heap.size ≤ (w2).heap.size) := bw.size
  have HBv1_2 : Hid ((w2).heap[qv1]? = some (.cells #[.string p, .slice o1 n1 c1, .slice o2 n2 c2, .int .i64 st, .slice o3 n3 c3, .string b, .int .i64 t] 34)) := blk_below HBv1_1.out bw
  clear hb1 HBv1_1 bw
  clear cv1_3 cv1_4 cv1_5
  cases u1 with
  | false =>
    have HF : Hid (¬ ObjP p xs ys st fs b t) := fun h => nomatch htu1.2 h.1
    clear htu1
    go_wp2_with fail
    go_ret
    exact BoolIs.no HF.out hb2
  | true =>
    have HR : Hid (RespP st fs b) := htu1.1 rfl
    clear htu1
    have cv1_0 : (w2).cell? ⟨qv1, 0, none⟩ = some (.string p) := (cell_of HBv1_2.out 0).trans rfl
    go_wp2_with fail
    refine (pathOk_any p _ HPM.out).mono ?_
    rintro e w3 ⟨u2, rfl, htu2, bw⟩
    have hb3 : Below w.heap.size w (w3) := hb2.trans (bw.mono hb2.size)
    have HM3 : Hid ((w2).heap.size ≤ (w3).heap.size) := bw.size
    have HBv1_3 : Hid ((w3).heap[qv1]? = some (.cells #[.string p, .slice o1 n1 c1, .slice o2 n2 c2, .int .i64 st, .slice o3 n3 c3, .string b, .int .i64 t] 34)) := blk_below HBv1_2.out bw
    clear hb2 HBv1_2 bw
    clear cv1_0
    cases u2 with
    | false =>
      have HF : Hid (¬ ObjP p xs ys st fs b t) := fun h => nomatch htu2.2 h.2.1
      clear htu2
      go_wp2_with fail
      go_ret
      exact BoolIs.no HF.out hb3
    | true =>
      have HP : Hid (PathOk p) := htu2.1 rfl
      clear htu2
      have cv1_6 : (w3).cell? ⟨qv1, 6, none⟩ = some (.int .i64 t) := (cell_of HBv1_3.out 6).trans rfl
      go_wp2_with fail
      refine (timeOk_any t _).mono ?_
      rintro e w4 ⟨rfl, hwe⟩
      have bw : Below (w3).heap.size (w3) w4 := by rw [hwe]; exact Below.refl _ _
      clear hwe
      obtain ⟨u3, hu3⟩ : ∃ u3, u3 = decide ((0 : Int) ≤ t ∧ t ≤ 1000000) := ⟨_, rfl⟩
      rw [← hu3]
      have hb4 : Below w.heap.size w (w4) := hb3.trans (bw.mono hb3.size)
      have HM4 : Hid ((w3).heap.size ≤ (w4).heap.size) := bw.size
      have HBv1_4 : Hid ((w4).heap[qv1]? = some (.cells #[.string p, .slice o1 n1 c1, .slice o2 n2 c2, .int .i64 st, .slice o3 n3 c3, .string b, .int .i64 t] 34)) := blk_below HBv1_3.out bw
      clear hb3 HBv1_3 bw
      clear cv1_6
      cases u3 with
      | false =>
        have HF : Hid (¬ ObjP p xs ys st fs b t) := fun h => absurd h.2.2.1 (of_decide_eq_false hu3.symm)
        clear hu3
        go_wp2_with fail
        go_ret
        exact BoolIs.no HF.out hb4
      | true =>
        have HT : Hid (0 ≤ t ∧ t ≤ 1000000) := (show 0 ≤ t ∧ t ≤ 1000000 from of_decide_eq_true hu3.symm)
        clear hu3
        go_upto_region 3 with fail
        refine wp_region_held_drew (S := fun W => W.heap[qv1]? = some (.cells #[.string p, .slice o1 n1 c1, .slice o2 n2 c2, .int .i64 st, .slice o3 n3 c3, .string b, .int .i64 t] 34)) (by kernel_rfl) HBv1_4.out (fun _ => ?_)
        obtain ⟨w5, hX⟩ : ∃ X, X = w4.drew := ⟨_, rfl⟩
        have bw : Below w4.heap.size w4 w5 := by rw [hX]; exact (Below.refl _ _).drew
        rw [← hX]
        have hb5 : Below w.heap.size w (w5) := hb4.trans (bw.mono hb4.size)
        have HM5 : Hid ((w4).heap.size ≤ (w5).heap.size) := bw.size
        have HBv1_5 : Hid ((w5).heap[qv1]? = some (.cells #[.string p, .slice o1 n1 c1, .slice o2 n2 c2, .int .i64 st, .slice o3 n3 c3, .string b, .int .i64 t] 34)) := blk_below HBv1_4.out bw
        have hS5 : w5.heap[qv1]? = some (.cells #[.string p, .slice o1 n1 c1, .slice o2 n2 c2, .int .i64 st, .slice o3 n3 c3, .string b, .int .i64 t] 34) := HBv1_5.out
        clear hb4 HBv1_4 bw hX
        refine wpAnyH_takeD (i := 0) (v := .pointer (some ⟨qv1, 1, none⟩)) (some 20) rfl rfl (by kernel_rfl) (by kernel_rfl) (by kernel_rfl) (fun _ _ _ h => h) (Or.inl ⟨by rfl, by intro W _; go_simp⟩) hS5 ?_
        simp only [Act.put, List.setIfInBounds_toArray, List.set_cons_zero, List.set_cons_succ]
        refine wpAnyH_takeD (i := 1) (v := .slice o1 n1 c1) (some 21) rfl rfl (by kernel_rfl) (by kernel_rfl) (by kernel_rfl) (fun _ _ _ h => h) (Or.inl ⟨by rfl, by intro W hW; have hhv1 := hW; have y1 := (cell_of hhv1 1).trans rfl; go_simp⟩) hS5 ?_
        simp only [Act.put, List.setIfInBounds_toArray, List.set_cons_zero, List.set_cons_succ]
        refine wpAnyH_takeD (i := 2) (v := .pointer (some ⟨qv1, 3, none⟩)) (some 22) rfl rfl (by kernel_rfl) (by kernel_rfl) (by kernel_rfl) (fun _ _ _ h => h) (Or.inl ⟨by rfl, by intro W _; go_simp⟩) hS5 ?_
        simp only [Act.put, List.setIfInBounds_toArray, List.set_cons_zero, List.set_cons_succ]
        refine wpAnyH_takeD (i := 3) (v := .pointer (some ⟨qv1, 4, none⟩)) (some 23) rfl rfl (by kernel_rfl) (by kernel_rfl) (by kernel_rfl) (fun _ _ _ h => h) (Or.inl ⟨by rfl, by intro W _; go_simp⟩) hS5 ?_
        simp only [Act.put, List.setIfInBounds_toArray, List.set_cons_zero, List.set_cons_succ]
        refine wpAnyH_takeD (i := 4) (v := .slice o3 n3 c3) (some 24) rfl rfl (by kernel_rfl) (by kernel_rfl) (by kernel_rfl) (fun _ _ _ h => h) (Or.inl ⟨by rfl, by intro W hW; have hhv1 := hW; have y4 := (cell_of hhv1 4).trans rfl; go_simp⟩) hS5 ?_
        simp only [Act.put, List.setIfInBounds_toArray, List.set_cons_zero, List.set_cons_succ]
        refine wpAnyH_ready (rs := [5]) (by kernel_rfl) (by simp) ?_
        refine AllReadyH.cons rfl (fun K hK => ?_) AllReadyH.nil
        go_simp
        refine (implVaryOf_any _ n3 base fs _ (HV3.out _ hb5) (by omega) HC.out HG.out).mono ?_
        rintro e w6 ⟨vv, rfl, ownY, bw⟩
        obtain ⟨oY, pY, rfl⟩ := slice_of_owns ownY
        rw [HVL.out] at ownY ⊢
        have hb6 : Below w.heap.size w (w6) := hb5.trans (bw.mono hb5.size)
        have HM6 : Hid ((w5).heap.size ≤ (w6).heap.size) := bw.size
        have HBv1_6 : Hid ((w6).heap[qv1]? = some (.cells #[.string p, .slice o1 n1 c1, .slice o2 n2 c2, .int .i64 st, .slice o3 n3 c3, .string b, .int .i64 t] 34)) := blk_below HBv1_5.out bw
        have HOY_6 : Hid ((w6).ownsRow w.heap.size 9 1 (.slice oY vl.length pY) vl.length (vl.map Value.string)) := owns_wide ownY hb5.size
        have LOY : Hid (∀ g, (Value.ownBlock (.slice oY vl.length pY)) = some g → (w5).heap.size ≤ g) := fun g hg => owns_ge ownY hg
        have HIY : Hid (∀ g, (Value.ownBlock (.slice oY vl.length pY)) = some g → g < (w6).heap.size) := fun g hg => owns_lt ownY hg
        clear ownY
        clear hb5 HBv1_5 bw
        have hS6 : w6.heap[qv1]? = some (.cells #[.string p, .slice o1 n1 c1, .slice o2 n2 c2, .int .i64 st, .slice o3 n3 c3, .string b, .int .i64 t] 34) := HBv1_6.out
        refine hK.out _ _ hS6 (fun _ => ?_)
        clear hK K hS5
        refine wpAnyH_ready (rs := [6]) (by kernel_rfl) (by simp) ?_
        refine AllReadyH.cons rfl (fun K hK => ?_) AllReadyH.nil
        go_simp
        refine (equalT_any _ _ _ _ _ _ xs vl _ (HV1.out _ hb6) (by omega) (texts_view HOY_6.out) HVZ.out).mono ?_
        rintro e w7 ⟨rfl, bw⟩
        obtain ⟨u5, hu5⟩ : ∃ u5, u5 = decide (xs = vl) := ⟨_, rfl⟩
        rw [← hu5]
        have hb7 : Below w.heap.size w (w7) := hb6.trans (bw.mono hb6.size)
        have HM7 : Hid ((w6).heap.size ≤ (w7).heap.size) := bw.size
        have HOY_7 : Hid ((w7).ownsRow w.heap.size 9 1 (.slice oY vl.length pY) vl.length (vl.map Value.string)) := owns_below HOY_6.out bw (fun g hg => owns_lt HOY_6.out hg)
        have HBv1_7 : Hid ((w7).heap[qv1]? = some (.cells #[.string p, .slice o1 n1 c1, .slice o2 n2 c2, .int .i64 st, .slice o3 n3 c3, .string b, .int .i64 t] 34)) := blk_below HBv1_6.out bw
        clear hb6 HOY_6 HBv1_6 bw
        have hS7 : w7.heap[qv1]? = some (.cells #[.string p, .slice o1 n1 c1, .slice o2 n2 c2, .int .i64 st, .slice o3 n3 c3, .string b, .int .i64 t] 34) := HBv1_7.out
        refine hK.out _ _ hS7 (fun _ => ?_)
        clear hK K hS6
        refine wpAnyH_takeD (i := 7) (v := .bool u5) (some 27) rfl rfl (by kernel_rfl) (by kernel_rfl) (by kernel_rfl) (fun _ _ _ h => h) (Or.inl ⟨by rfl, by intro W _; go_simp⟩) hS7 ?_
        simp only [Act.put, List.setIfInBounds_toArray, List.set_cons_zero, List.set_cons_succ]
        cases u5 with
        | false =>
          have HF : Hid (¬ ObjP p xs ys st fs b t) := fun h => absurd (h.2.2.2.2.1.trans HVL.out) (of_decide_eq_false hu5.symm)
          clear hu5
          refine wpAnyH_takeD (i := 8) (v := undef) (some 28) rfl rfl (by kernel_rfl) (by kernel_rfl) (by kernel_rfl) (fun _ _ _ h => h) (Or.inr ⟨by rfl, rfl⟩) hS7 ?_
          simp only [Act.put, List.setIfInBounds_toArray, List.set_cons_zero, List.set_cons_succ]
          refine wpAnyH_takeD (i := 9) (v := undef) (some 29) rfl rfl (by kernel_rfl) (by kernel_rfl) (by kernel_rfl) (fun _ _ _ h => h) (Or.inr ⟨by rfl, rfl⟩) hS7 ?_
          simp only [Act.put, List.setIfInBounds_toArray, List.set_cons_zero, List.set_cons_succ]
          refine wpAnyH_takeD (i := 10) (v := undef) (some 30) rfl rfl (by kernel_rfl) (by kernel_rfl) (by kernel_rfl) (fun _ _ _ h => h) (Or.inr ⟨by rfl, rfl⟩) hS7 ?_
          simp only [Act.put, List.setIfInBounds_toArray, List.set_cons_zero, List.set_cons_succ]
          refine wpAnyH_takeD (i := 11) (v := .bool false) (some 31) rfl rfl (by kernel_rfl) (by kernel_rfl) (by kernel_rfl) (fun _ _ _ h => h) (Or.inl ⟨by rfl, by intro W _; go_simp⟩) hS7 ?_
          simp only [Act.put, List.setIfInBounds_toArray, List.set_cons_zero, List.set_cons_succ]
          refine wpAnyH_takeD (i := 12) (v := .bool false) (some 3) rfl rfl (by kernel_rfl) (by kernel_rfl) (by kernel_rfl) (fun _ _ _ h => h) (Or.inl ⟨by rfl, by intro W _; go_simp⟩) hS7 ?_
          simp only [Act.put, List.setIfInBounds_toArray, List.set_cons_zero, List.set_cons_succ]
          clear hS7
          refine wpAnyH_done (by kernel_rfl) ?_ _
          go_wp2_with fail
          go_ret
          exact BoolIs.no HF.out hb7
        | true =>
          have HE : Hid (xs = vl) := (show xs = vl from of_decide_eq_true hu5.symm)
          clear hu5
          refine wpAnyH_takeD (i := 8) (v := .pointer (some ⟨qv1, 1, none⟩)) (some 28) rfl rfl (by kernel_rfl) (by kernel_rfl) (by kernel_rfl) (fun _ _ _ h => h) (Or.inl ⟨by rfl, by intro W _; go_simp⟩) hS7 ?_
          simp only [Act.put, List.setIfInBounds_toArray, List.set_cons_zero, List.set_cons_succ]
          refine wpAnyH_takeD (i := 9) (v := .slice o1 n1 c1) (some 29) rfl rfl (by kernel_rfl) (by kernel_rfl) (by kernel_rfl) (fun _ _ _ h => h) (Or.inl ⟨by rfl, by intro W hW; have hhv1 := hW; have y1 := (cell_of hhv1 1).trans rfl; go_simp⟩) hS7 ?_
          simp only [Act.put, List.setIfInBounds_toArray, List.set_cons_zero, List.set_cons_succ]
          refine wpAnyH_ready (rs := [10]) (by kernel_rfl) (by simp) ?_
          refine AllReadyH.cons rfl (fun K hK => ?_) AllReadyH.nil
          go_simp
          refine (namesOk_any _ _ _ xs _ (HV1.out _ hb7) (by omega) HS1.out).mono ?_
          rintro e w8 ⟨u4, rfl, htu4, bw⟩
          have hb8 : Below w.heap.size w (w8) := hb7.trans (bw.mono hb7.size)
          have HM8 : Hid ((w7).heap.size ≤ (w8).heap.size) := bw.size
          have HOY_8 : Hid ((w8).ownsRow w.heap.size 9 1 (.slice oY vl.length pY) vl.length (vl.map Value.string)) := owns_below HOY_7.out bw (fun g hg => owns_lt HOY_7.out hg)
          have HBv1_8 : Hid ((w8).heap[qv1]? = some (.cells #[.string p, .slice o1 n1 c1, .slice o2 n2 c2, .int .i64 st, .slice o3 n3 c3, .string b, .int .i64 t] 34)) := blk_below HBv1_7.out bw
          clear hb7 HOY_7 HBv1_7 bw
          have hS8 : w8.heap[qv1]? = some (.cells #[.string p, .slice o1 n1 c1, .slice o2 n2 c2, .int .i64 st, .slice o3 n3 c3, .string b, .int .i64 t] 34) := HBv1_8.out
          refine hK.out _ _ hS8 (fun _ => ?_)
          clear hK K hS7
          refine wpAnyH_takeD (i := 11) (v := .bool u4) (some 31) rfl rfl (by kernel_rfl) (by kernel_rfl) (by kernel_rfl) (fun _ _ _ h => h) (Or.inl ⟨by rfl, by intro W _; go_simp⟩) hS8 ?_
          simp only [Act.put, List.setIfInBounds_toArray, List.set_cons_zero, List.set_cons_succ]
          refine wpAnyH_takeD (i := 12) (v := .bool u4) (some 3) rfl rfl (by kernel_rfl) (by kernel_rfl) (by kernel_rfl) (fun _ _ _ h => h) (Or.inl ⟨by rfl, by intro W _; go_simp⟩) hS8 ?_
          simp only [Act.put, List.setIfInBounds_toArray, List.set_cons_zero, List.set_cons_succ]
          clear hS8
          refine wpAnyH_done (by kernel_rfl) ?_ _
          cases u4 with
          | false =>
            have HF : Hid (¬ ObjP p xs ys st fs b t) := fun h => nomatch htu4.2 h.2.2.2.1
            clear htu4
            go_wp2_with fail
            go_ret
            exact BoolIs.no HF.out hb8
          | true =>
            have HNM : Hid (NamesP xs) := htu4.1 rfl
            clear htu4
            by_cases hc1 : (n2 : Int) = (n1 : Int)
            · have hc1b : (((n2 : Int) : Int) == ((n1 : Int) : Int)) = true := by simpa using hc1
              have hc1n : (((n2 : Int) : Int) != ((n1 : Int) : Int)) = false := by simpa using hc1
              have HEQ : Hid ((n2 : Int) = (n1 : Int)) := hc1
              have hc1H : Hid ((n2 : Int) = (n1 : Int)) := hc1
              clear hc1
              have cv1_1 : (w8).cell? ⟨qv1, 1, none⟩ = some (.slice o1 n1 c1) := (cell_of HBv1_8.out 1).trans rfl
              have cv1_2 : (w8).cell? ⟨qv1, 2, none⟩ = some (.slice o2 n2 c2) := (cell_of HBv1_8.out 2).trans rfl
              go_wp2_with fail
              refine (valuesOk_any _ _ _ ys _ (HV2.out _ hb8) (by omega) HS2.out).mono ?_
              rintro e w9 ⟨u6, rfl, htu6, bw⟩
              have hb9 : Below w.heap.size w (w9) := hb8.trans (bw.mono hb8.size)
              have HM9 : Hid ((w8).heap.size ≤ (w9).heap.size) := bw.size
              have HOY_9 : Hid ((w9).ownsRow w.heap.size 9 1 (.slice oY vl.length pY) vl.length (vl.map Value.string)) := owns_below HOY_8.out bw (fun g hg => owns_lt HOY_8.out hg)
              have HBv1_9 : Hid ((w9).heap[qv1]? = some (.cells #[.string p, .slice o1 n1 c1, .slice o2 n2 c2, .int .i64 st, .slice o3 n3 c3, .string b, .int .i64 t] 34)) := blk_below HBv1_8.out bw
              clear hb8 HOY_8 HBv1_8 bw
              clear cv1_1 cv1_2
              go_wp2_with fail
              go_ret
              exact ⟨u6, rfl, ⟨fun h => ⟨HR.out, HP.out, HT.out, HNM.out, HE.out.trans HVL.out.symm, by have h1 := HL1.out; have h2 := HL2.out; have h3 := HEQ.out; omega, htu6.1 h⟩, fun h => htu6.2 h.2.2.2.2.2.2⟩, hb9⟩
            · have hc1b : (((n2 : Int) : Int) == ((n1 : Int) : Int)) = false := by simpa using hc1
              have hc1n : (((n2 : Int) : Int) != ((n1 : Int) : Int)) = true := by simpa using hc1
              have HF : Hid (¬ ObjP p xs ys st fs b t) := fun h => by have h1 := h.2.2.2.2.2.1; have h2 := HL1.out; have h3 := HL2.out; omega
              have hc1H : Hid (¬ ((n2 : Int) = (n1 : Int))) := hc1
              clear hc1
              have cv1_1 : (w8).cell? ⟨qv1, 1, none⟩ = some (.slice o1 n1 c1) := (cell_of HBv1_8.out 1).trans rfl
              have cv1_2 : (w8).cell? ⟨qv1, 2, none⟩ = some (.slice o2 n2 c2) := (cell_of HBv1_8.out 2).trans rfl
              go_wp2_with fail
              go_ret
              exact BoolIs.no HF.out hb8

end Go.Proofs.Ytdlhicdfldecgaa
