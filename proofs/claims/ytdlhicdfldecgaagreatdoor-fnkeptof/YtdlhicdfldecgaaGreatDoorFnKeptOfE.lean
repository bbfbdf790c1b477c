/- What the proof of FnKeptOf leans on: contracts of the program's and the specification's functions, and plain facts (part 5 of 7). -/
import Derived.Test.YtdlhicdfldecgaaGreatDoorFnKeptOfD
namespace Go.Proofs.YtdlhicdfldecgaaGreatDoor
open Go.RowKit
open Go.Lib hiding intOf

set_option maxHeartbeats 1000000 in
theorem fieldOk_any (v : Value) (n base : Nat) (fs : List (ByteArray × ByteArray)) (k : Nat) (w : World) (hv : FieldsV w base v n fs) (hn : n ≤ 1073741824) (hk : k < n) (hs1 : (nameAt fs k).size ≤ maxLen) (hs2 : (valAt fs k).size ≤ maxLen) :
    Calls Tryz.prog 169 #[v, .int .i64 (k : Int)] w fun e w' => BoolIs (FldOk fs k) w e w' := by
  have HV : Hid (∀ W, Below w.heap.size w W → FieldsV W base v n fs) := fun W h => hv.below h
  obtain ⟨oa, cap, rfl, hrow⟩ := hv.slice
  obtain ⟨g, rfl, row⟩ := hrow k hk
  have hlt2 : (k : Int) < (n : Int) := by omega
  have hc1 := row.name k hk
  have hc2 := row.val k hk
  obtain ⟨nm, hnm⟩ : ∃ x, x = nameAt fs k := ⟨_, rfl⟩
  obtain ⟨vl, hvl⟩ : ∃ x, x = valAt fs k := ⟨_, rfl⟩
  have HO : Hid (FldOk fs k ↔ TokOk nm ∧ ValOk vl ∧ atF fs nm = k ∧ nm ≠ clen) := by rw [hnm, hvl]; exact Iff.rfl
  rw [← hnm] at hc1 hs1
  rw [← hvl] at hc2 hs2
  clear hv hrow row hnm hvl
  obtain ⟨r, hr⟩ : ∃ r, r = w.heap.size := ⟨_, rfl⟩
  have h0 : (w.alloc (.cells #[.string nm, .string vl] 131)).heap.size = w.heap.size + 1 := by simp
  have HB0 : Hid (Below w.heap.size w (w.alloc (.cells #[.string nm, .string vl] 131)) ∧ w.heap.size ≤ (w.alloc (.cells #[.string nm, .string vl] 131)).heap.size) := ⟨(Below.refl _ w).alloc (Nat.le_refl _) _, by omega⟩
  have HR : Hid (∀ W, Below (w.alloc (.cells #[.string nm, .string vl] 131)).heap.size (w.alloc (.cells #[.string nm, .string vl] 131)) W → W.cell? ⟨r, 0, none⟩ = some (.string nm) ∧ W.cell? ⟨r, 1, none⟩ = some (.string vl)) := fun W h => by
    have hh : W.heap[r]? = some (.cells #[.string nm, .string vl] 131) := by rw [hr, h.block _ (by omega)]; exact heap_alloc_new w _
    exact ⟨by simp [World.cell?, hh], by simp [World.cell?, hh]⟩
  go_enter Tryz.func169, Tryz.ntmps169
  go_wp2_with fail
  refine (implTokenOk_any nm _ hs1).mono ?_
  rintro e w1 ⟨b1, rfl, kb1, bb1⟩
  rw [← hr]
  have hb1 : Below w.heap.size w w1 := HB0.out.1.trans (bb1.mono HB0.out.2)
  obtain ⟨d1, d2⟩ := HR.out w1 bb1
  clear h0
  cases b1
  · have HF : Hid (¬ FldOk fs k) := fun h => by have := kb1.2 (HO.out.1 h).1; cases this
    clear kb1 hc1 hc2 bb1 hr
    go_wp2_with fail
    go_ret
    exact BoolIs.no HF.out hb1
  · have HT : Hid (TokOk nm) := kb1.1 rfl
    clear kb1 hc1 hc2 hr
    go_wp2_with fail
    refine (implValueOk_any vl _ hs2).mono ?_
    rintro e w2 ⟨b2, rfl, kb2, bb2⟩
    have bb2' := bb1.trans (bb2.mono bb1.size)
    have hb2 : Below w.heap.size w w2 := HB0.out.1.trans (bb2'.mono HB0.out.2)
    obtain ⟨d3, d4⟩ := HR.out w2 bb2'
    cases b2
    · have HF : Hid (¬ FldOk fs k) := fun h => by have := kb2.2 (HO.out.1 h).2.1; cases this
      clear kb2 bb1 bb2 bb2' hb1 d1 d2
      go_wp2_with fail
      go_ret
      exact BoolIs.no HF.out hb2
    · have HT2 : Hid (ValOk vl) := kb2.1 rfl
      clear kb2 bb1 bb2 bb2' hb1 d1 d2
      by_cases hcl : nm = clen
      · have ht := (text_beq _ _).2 hcl
        rw [clen_list] at ht
        have HF : Hid (¬ FldOk fs k) := fun h => (HO.out.1 h).2.2.2 hcl
        clear hcl
        go_wp2_with fail
        go_ret
        exact BoolIs.no HF.out hb2
      · have ht := text_beq_no hcl
        rw [clen_list] at ht
        have HC : Hid (nm ≠ clen) := hcl
        clear hcl
        go_wp2_with fail
        refine (place_any _ n base fs nm _ (HV.out w2 hb2) hn).mono ?_
        rintro e w3 ⟨rfl, rfl⟩
        by_cases hat : atF fs nm = k
        · have HY : Hid (FldOk fs k) := HO.out.2 ⟨HT.out, HT2.out, hat, HC.out⟩
          rw [hat]
          clear hat
          go_wp2
          go_ret
          exact BoolIs.yes HY.out hb2
        · have HF : Hid (¬ FldOk fs k) := fun h => hat (HO.out.1 h).2.2.1
          have hne : ((atF fs nm : Int) == (k : Int)) = false := by rw [beq_eq_false_iff_ne]; omega
          clear hat
          go_wp2
          go_ret
          exact BoolIs.no HF.out hb2

set_option maxHeartbeats 1000000 in
theorem ok_any (v : Value) (n base : Nat) (fs : List (ByteArray × ByteArray)) (w : World) (hv : FieldsV w base v n fs) (hn : n ≤ 1073741824) (hsz : ∀ i, i < n → (nameAt fs i).size ≤ maxLen ∧ (valAt fs i).size ≤ maxLen) :
    Calls Tryz.prog 152 #[v] w fun e w' => BoolIs (FldsOk fs) w e w' := by
  have hl := hv.len
  have HV : Hid (∀ W, Below w.heap.size w W → FieldsV W base v n fs) := fun W h => hv.below h
  have HS : Hid (∀ i, i < n → (nameAt fs i).size ≤ maxLen ∧ (valAt fs i).size ≤ maxLen) := hsz
  obtain ⟨oa, cap, rfl, hrow⟩ := hv.slice
  clear hv hrow hsz
  by_cases h8 : (8 : Int) < (n : Int)
  · have HF : Hid (¬ FldsOk fs) := fun h => by have := h.1; omega
    go_enter Tryz.func152, Tryz.ntmps152
    go_wp2
    go_ret
    exact BoolIs.no HF.out (Below.refl _ _)
  · go_enter Tryz.func152, Tryz.ntmps152
    go_wp2
    go_loopw [9] (fun i wr => ∃ k : Nat, k ≤ n ∧ i = .int .i64 (k : Int) ∧ Hid (∀ j, j < k → FldOk fs j) ∧ Below w.heap.size w wr) (fun i _ => n - (intOf i).toNat)
    case atStart => exact ⟨0, Nat.zero_le _, rfl, fun j h => absurd h (by omega), Below.refl _ _⟩
    case round =>
      obtain ⟨k, hk, rfl, hall, hbw⟩ := hrel
      by_cases hlt : k < n
      · have hlt2 : (k : Int) < (n : Int) := by omega
        obtain ⟨hs1, hs2⟩ := HS.out k hlt
        go_wp2_with fail
        refine (fieldOk_any _ n base fs k _ (HV.out wr hbw) hn hlt hs1 hs2).mono ?_
        rintro e w1 ⟨b1, rfl, kb1, bb1⟩
        have hb1 : Below w.heap.size w w1 := hbw.trans (bb1.mono hbw.size)
        cases b1
        · have HF : Hid (¬ FldsOk fs) := fun h => by have := kb1.2 (h.2 k (by omega)); cases this
          clear kb1 bb1
          go_wp2
          go_ret
          exact BoolIs.no HF.out hb1
        · have HY : Hid (FldOk fs k) := kb1.1 rfl
          clear kb1 bb1
          go_wp2
          go_roundw
          case rel =>
            refine ⟨k + 1, by omega, by go_num, ?_, hb1⟩
            intro j hj
            by_cases e : j = k
            · subst e; exact HY.out
            · exact hall.out j (by omega)
          case measure => simp [intOf]; omega
      · have HF : Hid (FldsOk fs) := ⟨by omega, fun i hi => hall.out i (by omega)⟩
        go_wp2
        go_ret
        exact BoolIs.yes HF.out hbw

end Go.Proofs.YtdlhicdfldecgaaGreatDoor

namespace Go.Proofs.YtdlhicdfldecgaaGreatDoor
open Go.RowKit
open Go.Lib hiding intOf

theorem path_cls (n : Int) : PathB n ↔ (cls n ≠ 4 ∧ cls n ≠ 7) := by
  have := cls_spec n
  unfold PathB
  constructor
  · intro h; omega
  · intro h; omega
theorem path_small {n : Int} (h : PathB n) : n < 128 := by unfold PathB at h; omega

set_option maxHeartbeats 400000 in
theorem isPathRune_any (r : Int) (w : World) :
    Calls Tryz.prog 87 #[.int .i32 r] w fun e w' => BoolIs (PathB r) w e w' := by
  have HP : Hid (PathB r ↔ (cls r ≠ 4 ∧ cls r ≠ 7)) := path_cls r
  go_enter Tryz.func87, Tryz.ntmps87
  go_wp2_with fail
  refine (classOf_any r _).mono ?_
  rintro e w1 ⟨rfl, hb⟩
  generalize cls r = c at HP ⊢
  by_cases h4 : c = 4
  · have HN : Hid (¬ PathB r) := fun h => (HP.out.1 h).1 h4
    subst h4
    go_wp2_with fail
    go_ret
    exact BoolIs.no HN.out hb
  · have h5 : (c != 4) = true := by rw [bne_iff_ne]; exact h4
    by_cases h7 : c = 7
    · have HN : Hid (¬ PathB r) := fun h => (HP.out.1 h).2 h7
      subst h7
      go_wp2_with fail
      go_ret
      exact BoolIs.no HN.out hb
    · have h8 : (c != 7) = true := by rw [bne_iff_ne]; exact h7
      have HY : Hid (PathB r) := HP.out.2 ⟨h4, h7⟩
      go_wp2_with fail
      go_ret
      exact BoolIs.yes HY.out hb

set_option maxHeartbeats 1000000 in
theorem allRunes_path (s : ByteArray) (w : World) :
    Calls Tryz.prog 86 #[.string s, .func (.func 87) #[] #[]] w fun e w' => BoolIs (AllB PathB s) w e w' := by
  go_enter Tryz.func86, Tryz.ntmps86
  go_wp2
  go_loopw [6] (fun _ wr => ∃ pos : Nat, wr.heap[w.heap.size]? = some (.stringIter s pos) ∧ Below w.heap.size w wr ∧ Hid (AllTo PathB s pos)) (fun _ wr => s.size - wr.iterPos w.heap.size)
  case atStart => exact ⟨0, World.iter_heap _ _ _, (Below.refl _ _).alloc (Nat.le_refl _) _, allTo_zero _ _⟩
  case round =>
    obtain ⟨pos, hh, hbw, hall⟩ := hrel
    by_cases hp : pos < s.size
    · have hnx := fun ty => run_next_any_at (P := Tryz.prog) wr w.heap.size s pos ty hh hp
      go_wp2_with (go_at_call 87; refine (isPathRune_any _ _).mono ?_; rintro e w1 ⟨b, rfl, hbt, hb1⟩)
      · have hbf : b = false := by simpa using ‹(!b) = true›
        have hno : ¬ PathB ((Utf8.decode s pos).1 : Int) := fun h => by rw [hbt.2 h] at hbf; cases hbf
        go_ret
        exact BoolIs.no (rune_no (fun _ => path_small) s pos hp hno) (iter_step hh hbw hb1).2
      · have hbf : b = true := by simpa using ‹(!b) = false›
        obtain ⟨hv, hone⟩ := rune_ok (fun _ => path_small) s pos hp (hbt.1 hbf)
        rw [hone] at hb1
        obtain ⟨h1, h2⟩ := iter_step hh hbw hb1
        exact ⟨⟨pos + 1, h1, h2, allTo_succ hall.out hp hv⟩, by rw [iterPos_of h1, iterPos_of hh]; omega⟩
    · have hnx := fun ty => run_next_end_at (P := Tryz.prog) wr w.heap.size s pos ty hh hp
      go_wp2
      go_ret
      exact BoolIs.yes (allTo_end hall.out hp) hbw

set_option maxHeartbeats 1000000 in
theorem pathOk_any (s : ByteArray) (w : World) (hs : s.size ≤ maxLen) :
    Calls Tryz.prog 33 #[.string s] w fun e w' => BoolIs (PathOk s) w e w' := by
  unfold maxLen at hs
  by_cases h1 : (1 : Int) ≤ (s.size : Int)
  · have h0 : 0 < s.size := by omega
    by_cases h2 : (s.size : Int) ≤ 60
    · by_cases h3 : ((s[0]'h0).toNat : Int) = 47
      · have h4 : (((s[0]'h0).toNat : Int) == 47) = true := by rw [beq_iff_eq]; exact h3
        have H3 : Hid ((s[0]'h0).toNat = 47) := by show _ = _; omega
        clear h3
        go_enter Tryz.func33, Tryz.ntmps33
        go_wp2_with fail
        refine (allRunes_path s _).mono ?_
        rintro e w1 ⟨b, rfl, hbt, hb1⟩
        cases b
        · have HN : Hid (¬ PathOk s) := fun h => by have := hbt.2 h.1; cases this
          clear hbt
          go_wp2_with fail
          go_ret
          exact BoolIs.no HN.out hb1
        · have HY : Hid (PathOk s) := ⟨hbt.1 rfl, by omega, by omega, h0, H3.out⟩
          clear hbt
          go_wp2_with fail
          go_ret
          exact BoolIs.yes HY.out hb1
      · have h4 : (((s[0]'h0).toNat : Int) == 47) = false := by rw [beq_eq_false_iff_ne]; exact h3
        have HN : Hid (¬ PathOk s) := fun h => by obtain ⟨_, _, _, _, h5⟩ := h; omega
        clear h3
        go_enter Tryz.func33, Tryz.ntmps33
        go_wp2_with fail
        go_ret
        exact BoolIs.no HN.out (Below.refl _ _)
    · have HN : Hid (¬ PathOk s) := fun h => by obtain ⟨_, _, h5, _⟩ := h; omega
      have hd : decide ((s.size : Int) ≤ 60) = false := by simpa using h2
      go_enter Tryz.func33, Tryz.ntmps33
      go_wp2_with fail
      go_ret
      exact BoolIs.no HN.out (Below.refl _ _)
  · have HN : Hid (¬ PathOk s) := fun h => by obtain ⟨_, h5, _⟩ := h; omega
    have hd : decide ((1 : Int) ≤ (s.size : Int)) = false := by simpa using h1
    go_enter Tryz.func33, Tryz.ntmps33
    go_wp2_with fail
    go_ret
    exact BoolIs.no HN.out (Below.refl _ _)

theorem methB_none {m : Int} (h : ¬ (1 ≤ m ∧ m ≤ 4)) : methB m = ⟨#[]⟩ := by
  unfold methB
  rw [if_neg (by omega), if_neg (by omega), if_neg (by omega), if_neg (by omega)]
set_option maxHeartbeats 400000 in
theorem methodName_any (m : Int) (w : World) :
    Calls Tryz.prog 164 #[.int .i64 m] w fun e w' => e = .returned (.string (methB m)) ∧ w' = w := by
  by_cases h1 : m = 1
  · subst h1
    go_enter Tryz.func164, Tryz.ntmps164
    go_wp2
    go_ret
    exact ⟨rfl, rfl⟩
  · by_cases h2 : m = 2
    · subst h2
      go_enter Tryz.func164, Tryz.ntmps164
      go_wp2
      go_ret
      exact ⟨rfl, rfl⟩
    · by_cases h3 : m = 3
      · subst h3
        go_enter Tryz.func164, Tryz.ntmps164
        go_wp2
        go_ret
        exact ⟨rfl, rfl⟩
      · by_cases h4 : m = 4
        · subst h4
          go_enter Tryz.func164, Tryz.ntmps164
          go_wp2
          go_ret
          exact ⟨rfl, rfl⟩
        · have HE : Hid (methB m = ⟨#[]⟩) := methB_none (by omega)
          have e1 : (m == 1) = false := by rw [beq_eq_false_iff_ne]; exact h1
          have e2 : (m == 2) = false := by rw [beq_eq_false_iff_ne]; exact h2
          have e3 : (m == 3) = false := by rw [beq_eq_false_iff_ne]; exact h3
          have e4 : (m == 4) = false := by rw [beq_eq_false_iff_ne]; exact h4
          go_enter Tryz.func164, Tryz.ntmps164
          go_wp2
          go_ret
          exact ⟨by rw [HE.out]; rfl, rfl⟩

/-- What is right of what stands behind the first line. -/
def RestP (fs : List (ByteArray × ByteArray)) (b : ByteArray) : Prop := FldsOk fs ∧ b.size ≤ 120
set_option maxHeartbeats 1000000 in
theorem restOk_any (v : Value) (b : ByteArray) (n base : Nat) (fs : List (ByteArray × ByteArray)) (w : World) (hv : FieldsV w base v n fs) (hn : n ≤ 1073741824) (hsz : WalkF n fs) (hb : b.size ≤ maxLen) :
    Calls Tryz.prog 131 #[.agg #[v, .string b]] w fun e w' => BoolIs (RestP fs b) w e w' := by
  obtain ⟨oa, cap, rfl, _⟩ := hv.slice
  obtain ⟨r, hr⟩ : ∃ r, r = w.heap.size := ⟨_, rfl⟩
  have HR : Hid (∀ W, Below (w.alloc (.cells #[.slice oa n cap, .string b] 76)).heap.size (w.alloc (.cells #[.slice oa n cap, .string b] 76)) W → (W.cell? ⟨r, 0, none⟩ = some (.slice oa n cap) ∧ W.cell? ⟨r, 1, none⟩ = some (.string b)) ∧ FieldsV W base (.slice oa n cap) n fs ∧ Below w.heap.size w W) := fun W h => by
    have hh := kept_new h
    rw [← hr] at hh
    exact ⟨⟨by simp [World.cell?, hh], by simp [World.cell?, hh]⟩, hv.below (below_new h), below_new h⟩
  obtain ⟨_, hv0, _⟩ := HR.out _ (Below.refl _ _)
  unfold maxLen at hb
  go_enter Tryz.func131, Tryz.ntmps131
  go_wp2_with fail
  refine (ok_any _ n base fs _ hv0 hn hsz).mono ?_
  rintro e w1 ⟨b1, rfl, kb1, bb1⟩
  rw [← hr]
  obtain ⟨⟨c0, c1⟩, _, hbw1⟩ := HR.out w1 bb1
  clear hv hv0 hsz bb1 hr
  cases b1
  · have HF : Hid (¬ RestP fs b) := fun h => by have := kb1.2 h.1; cases this
    clear kb1
    go_wp2_with fail
    go_ret
    exact BoolIs.no HF.out hbw1
  · have HT : Hid (FldsOk fs) := kb1.1 rfl
    clear kb1
    by_cases h120 : (b.size : Int) ≤ 120
    · have HY : Hid (RestP fs b) := ⟨HT.out, by omega⟩
      go_wp2_with fail
      go_ret
      exact BoolIs.yes HY.out hbw1
    · have HF : Hid (¬ RestP fs b) := fun h => by have := h.2; omega
      have hd : decide ((b.size : Int) ≤ 120) = false := by simpa using h120
      go_wp2_with fail
      go_ret
      exact BoolIs.no HF.out hbw1

theorem meth_empty {m : Int} (h : 1 ≤ m ∧ m ≤ 4) : (methB m).toList.isEmpty = false := by
  refine isEmpty_no ?_
  rcases meth_cases h with rfl | rfl | rfl | rfl <;> decide
set_option maxHeartbeats 1000000 in
theorem reqOk_any (m : Int) (p : ByteArray) (v : Value) (b : ByteArray) (n base : Nat) (fs : List (ByteArray × ByteArray)) (w : World) (hv : FieldsV w base v n fs) (hn : n ≤ 1073741824) (hsz : WalkF n fs) (hp : p.size ≤ maxLen) (hb : b.size ≤ maxLen) :
    Calls Tryz.prog 149 #[.agg #[v, .string b, .int .i64 m, .string p]] w fun e w' => BoolIs (ReqP m p fs b) w e w' := by
  obtain ⟨oa, cap, rfl, _⟩ := hv.slice
  obtain ⟨r, hr⟩ : ∃ r, r = w.heap.size := ⟨_, rfl⟩
  have HR : Hid (∀ W, Below (w.alloc (.cells #[.slice oa n cap, .string b, .int .i64 m, .string p] 156)).heap.size (w.alloc (.cells #[.slice oa n cap, .string b, .int .i64 m, .string p] 156)) W → (W.cell? ⟨r, 0, none⟩ = some (.slice oa n cap) ∧ W.cell? ⟨r, 1, none⟩ = some (.string b) ∧ W.cell? ⟨r, 2, none⟩ = some (.int .i64 m) ∧ W.cell? ⟨r, 3, none⟩ = some (.string p)) ∧ FieldsV W base (.slice oa n cap) n fs ∧ Below w.heap.size w W) := fun W h => by
    have hh := kept_new h
    rw [← hr] at hh
    exact ⟨⟨by simp [World.cell?, hh], by simp [World.cell?, hh], by simp [World.cell?, hh], by simp [World.cell?, hh]⟩, hv.below (below_new h), below_new h⟩
  have HSZ : Hid (WalkF n fs) := hsz
  have HP : Hid (p.size ≤ maxLen) := hp
  have HBS : Hid (b.size ≤ maxLen) := hb
  clear hv hsz hp hb
  go_enter Tryz.func149, Tryz.ntmps149
  go_wp2_with fail
  refine (methodName_any m _).mono ?_
  rintro e w1 ⟨rfl, hw1⟩
  have hb1 : Below (w.alloc (.cells #[.slice oa n cap, .string b, .int .i64 m, .string p] 156)).heap.size (w.alloc (.cells #[.slice oa n cap, .string b, .int .i64 m, .string p] 156)) w1 := by rw [hw1]; exact Below.refl _ _
  clear hw1
  rw [← hr]
  obtain ⟨⟨c0, c1, c2, c3⟩, _, hbw1⟩ := HR.out w1 hb1
  by_cases hm : 1 ≤ m ∧ m ≤ 4
  · have e1 := meth_empty hm
    have HM : Hid (1 ≤ m ∧ m ≤ 4) := hm
    generalize methB m = mt at e1 ⊢
    clear hr hm
    go_wp2_with fail
    refine (pathOk_any p _ HP.out).mono ?_
    rintro e w2 ⟨b1, rfl, kb1, bb2⟩
    have hb2 := hb1.trans (bb2.mono hb1.size)
    clear c0 c1 c2 c3 bb2 hb1 hbw1
    obtain ⟨⟨c0, c1, c2, c3⟩, hv2, hbw2⟩ := HR.out w2 hb2
    have HV2 : Hid (FieldsV w2 base (.slice oa n cap) n fs) := hv2
    clear hv2
    cases b1
    · have HF : Hid (¬ ReqP m p fs b) := fun h => by have := kb1.2 h.2.1; cases this
      clear kb1
      go_wp2_with fail
      go_ret
      exact BoolIs.no HF.out hbw2
    · have HT : Hid (PathOk p) := kb1.1 rfl
      clear kb1
      go_wp2_with fail
      refine (restOk_any _ b n base fs _ HV2.out hn HSZ.out HBS.out).mono ?_
      rintro e w3 ⟨b2, rfl, kb2, bb3⟩
      have hb3 := hb2.trans (bb3.mono hb2.size)
      clear c0 c1 c2 c3 bb3 hb2 hbw2
      obtain ⟨_, _, hbw3⟩ := HR.out w3 hb3
      cases b2
      · have HF : Hid (¬ ReqP m p fs b) := fun h => by have := kb2.2 h.2.2; cases this
        clear kb2
        go_wp2_with fail
        go_ret
        exact BoolIs.no HF.out hbw3
      · have HY : Hid (ReqP m p fs b) := ⟨HM.out, HT.out, kb2.1 rfl⟩
        clear kb2
        go_wp2_with fail
        go_ret
        exact BoolIs.yes HY.out hbw3
  · have HF : Hid (¬ ReqP m p fs b) := fun h => hm h.1
    rw [methB_none hm]
    clear hr hm
    go_wp2_with fail
    go_ret
    exact BoolIs.no HF.out hbw1

set_option maxHeartbeats 1000000 in
theorem respOk_any (st : Int) (v : Value) (b : ByteArray) (n base : Nat) (fs : List (ByteArray × ByteArray)) (w : World) (hv : FieldsV w base v n fs) (hn : n ≤ 1073741824) (hsz : WalkF n fs) (hb : b.size ≤ maxLen) :
    Calls Tryz.prog 85 #[.agg #[v, .string b, .int .i64 st]] w fun e w' => BoolIs (RespP st fs b) w e w' := by
  obtain ⟨oa, cap, rfl, _⟩ := hv.slice
  obtain ⟨r, hr⟩ : ∃ r, r = w.heap.size := ⟨_, rfl⟩
  have HR : Hid (∀ W, Below (w.alloc (.cells #[.slice oa n cap, .string b, .int .i64 st] 78)).heap.size (w.alloc (.cells #[.slice oa n cap, .string b, .int .i64 st] 78)) W → (W.cell? ⟨r, 0, none⟩ = some (.slice oa n cap) ∧ W.cell? ⟨r, 1, none⟩ = some (.string b) ∧ W.cell? ⟨r, 2, none⟩ = some (.int .i64 st)) ∧ FieldsV W base (.slice oa n cap) n fs ∧ Below w.heap.size w W) := fun W h => by
    have hh := kept_new h
    rw [← hr] at hh
    exact ⟨⟨by simp [World.cell?, hh], by simp [World.cell?, hh], by simp [World.cell?, hh]⟩, hv.below (below_new h), below_new h⟩
  obtain ⟨_, hv0, hbw0⟩ := HR.out _ (Below.refl _ _)
  have HV0 : Hid (FieldsV (w.alloc (.cells #[.slice oa n cap, .string b, .int .i64 st] 78)) base (.slice oa n cap) n fs) := hv0
  have HSZ : Hid (WalkF n fs) := hsz
  have HBS : Hid (b.size ≤ maxLen) := hb
  clear hv hv0 hsz hb
  by_cases h1 : 100 ≤ st
  · by_cases h2 : st ≤ 599
    · go_enter Tryz.func85, Tryz.ntmps85
      go_wp2_with fail
      refine (restOk_any _ b n base fs _ HV0.out hn HSZ.out HBS.out).mono ?_
      rintro e w3 ⟨b2, rfl, kb2, bb3⟩
      obtain ⟨_, _, hbw3⟩ := HR.out w3 bb3
      clear bb3 hbw0
      cases b2
      · have HF : Hid (¬ RespP st fs b) := fun h => by have := kb2.2 h.2; cases this
        clear kb2
        go_wp2_with fail
        go_ret
        exact BoolIs.no HF.out hbw3
      · have HY : Hid (RespP st fs b) := ⟨⟨h1, h2⟩, kb2.1 rfl⟩
        clear kb2
        go_wp2_with fail
        go_ret
        exact BoolIs.yes HY.out hbw3
    · have HF : Hid (¬ RespP st fs b) := fun h => h2 h.1.2
      have hd : decide (st ≤ 599) = false := by simpa using h2
      go_enter Tryz.func85, Tryz.ntmps85
      go_wp2_with fail
      go_ret
      exact BoolIs.no HF.out hbw0
  · have HF : Hid (¬ RespP st fs b) := fun h => h1 h.1.1
    have hd : decide (100 ≤ st) = false := by simpa using h1
    go_enter Tryz.func85, Tryz.ntmps85
    go_wp2_with fail
    go_ret
    exact BoolIs.no HF.out hbw0

set_option maxHeartbeats 400000 in
theorem requestOf_any (m : Int) (p : ByteArray) (oa : Option Addr) (n cap : Nat) (b : ByteArray) (w : World) :
    Calls Tryz.prog 148 #[.agg #[.int .i64 m, .string p, .slice oa n cap, .string b]] w fun e w' => e = .returned (.agg #[.slice oa n cap, .string b, .int .i64 m, .string p]) ∧ Below w.heap.size w w' := by
  go_enter Tryz.func148, Tryz.ntmps148
  go_wp2
  exact bodyPost_ret (v := .agg #[.slice oa n cap, .string b, .int .i64 m, .string p]) (by simp [results, Tryz.results148, go_sem]) rfl ⟨rfl, ((Below.refl _ _).alloc (Nat.le_refl _) _).alloc (by simp) _⟩
set_option maxHeartbeats 400000 in
theorem answerOf_any (m : Int) (oa : Option Addr) (n cap : Nat) (b : ByteArray) (w : World) :
    Calls Tryz.prog 40 #[.agg #[.int .i64 m, .slice oa n cap, .string b]] w fun e w' => e = .returned (.agg #[.slice oa n cap, .string b, .int .i64 m]) ∧ Below w.heap.size w w' := by
  go_enter Tryz.func40, Tryz.ntmps40
  go_wp2
  exact bodyPost_ret (v := .agg #[.slice oa n cap, .string b, .int .i64 m]) (by simp [results, Tryz.results40, go_sem]) rfl ⟨rfl, ((Below.refl _ _).alloc (Nat.le_refl _) _).alloc (by simp) _⟩
set_option maxHeartbeats 400000 in
theorem implReqOk_any (m : Int) (p : ByteArray) (v : Value) (b : ByteArray) (n base : Nat) (fs : List (ByteArray × ByteArray)) (w : World) (hv : FieldsV w base v n fs) (hn : n ≤ 1073741824) (hsz : WalkF n fs) (hp : p.size ≤ maxLen) (hb : b.size ≤ maxLen) :
    Calls Tryz.prog 117 #[.agg #[.int .i64 m, .string p, v, .string b]] w fun e w' => BoolIs (ReqP m p fs b) w e w' := by
  obtain ⟨oa, cap, rfl, _⟩ := hv.slice
  have hb0 : Below w.heap.size w (w.alloc (.cells #[.int .i64 m, .string p, .slice oa n cap, .string b] 39)) := (Below.refl _ _).alloc (Nat.le_refl _) _
  go_enter Tryz.func117, Tryz.ntmps117
  go_wp2_with fail
  refine (requestOf_any m p oa n cap b _).mono ?_
  rintro e w1 ⟨rfl, bb1⟩
  have hb1 : Below w.heap.size w w1 := hb0.trans (bb1.mono hb0.size)
  have hv1 := hv.below hb1
  clear bb1 hb0 hv
  go_wp2_with fail
  refine (reqOk_any m p _ b n base fs _ hv1 hn hsz hp hb).mono ?_
  rintro e w2 ⟨b1, rfl, kb, bb2⟩
  have hb2 : Below w.heap.size w w2 := hb1.trans (bb2.mono hb1.size)
  have HK : Hid (b1 = true ↔ ReqP m p fs b) := kb
  clear hv1 hsz hb bb2 hb1 kb hp
  go_wp2_with fail
  go_ret
  exact ⟨b1, rfl, HK.out, hb2⟩

set_option maxHeartbeats 400000 in
theorem implRespOk_any (m : Int) (v : Value) (b : ByteArray) (n base : Nat) (fs : List (ByteArray × ByteArray)) (w : World) (hv : FieldsV w base v n fs) (hn : n ≤ 1073741824) (hsz : WalkF n fs) (hb : b.size ≤ maxLen) :
    Calls Tryz.prog 32 #[.agg #[.int .i64 m, v, .string b]] w fun e w' => BoolIs (RespP m fs b) w e w' := by
  obtain ⟨oa, cap, rfl, _⟩ := hv.slice
  have hb0 : Below w.heap.size w (w.alloc (.cells #[.int .i64 m, .slice oa n cap, .string b] 27)) := (Below.refl _ _).alloc (Nat.le_refl _) _
  go_enter Tryz.func32, Tryz.ntmps32
  go_wp2_with fail
  refine (answerOf_any m oa n cap b _).mono ?_
  rintro e w1 ⟨rfl, bb1⟩
  have hb1 : Below w.heap.size w w1 := hb0.trans (bb1.mono hb0.size)
  have hv1 := hv.below hb1
  clear bb1 hb0 hv
  go_wp2_with fail
  refine (respOk_any m _ b n base fs _ hv1 hn hsz hb).mono ?_
  rintro e w2 ⟨b1, rfl, kb, bb2⟩
  have hb2 : Below w.heap.size w w2 := hb1.trans (bb2.mono hb1.size)
  have HK : Hid (b1 = true ↔ RespP m fs b) := kb
  clear hv1 hsz hb bb2 hb1 kb
  go_wp2_with fail
  go_ret
  exact ⟨b1, rfl, HK.out, hb2⟩

end Go.Proofs.YtdlhicdfldecgaaGreatDoor

namespace Go.Proofs
open Go.Shelf
def Tryz.lays166_ren : Go.Shelf.Ren := ⟨fun | 166 => 26 | 240 => 76 | 276 => 126 | n => n, fun | 0 => 0 | 3 => 3 | 4 => 4 | 5 => 5 | 9 => 9 | 20 => 20 | 37 => 22 | 70 => 51 | 72 => 53 | 75 => 55 | 80 => 59 | 164 => 143 | n => n, fun | n => n⟩
theorem Tryz.lays166 : Go.Proofs.Lays.n166 Tryz.prog Tryz.lays166_ren := {
  mixed := by kernel_rfl
  f166 := Tryz.func26.trans (congrArg some (by kernel_rfl))
  f240 := Tryz.func76.trans (congrArg some (by kernel_rfl))
  f276 := Tryz.func126.trans (congrArg some (by kernel_rfl))
  t0 := Tryz.underlying0
  a0 := Tryz.isAgg0
  z0 := Tryz.sizeOf0
  v0 := Tryz.zeroValue0
  t3 := Tryz.underlying3
  a3 := Tryz.isAgg3
  z3 := Tryz.sizeOf3
  v3 := Tryz.zeroValue3
  t4 := Tryz.underlying4
  a4 := Tryz.isAgg4
  z4 := Tryz.sizeOf4
  v4 := Tryz.zeroValue4
  t9 := Tryz.underlying9
  a9 := Tryz.isAgg9
  z9 := Tryz.sizeOf9
  v9 := Tryz.zeroValue9
  t20 := Tryz.underlying20
  a20 := Tryz.isAgg20
  z20 := Tryz.sizeOf20
  v20 := Tryz.zeroValue20
  t37 := Tryz.underlying22
  a37 := Tryz.isAgg22
  z37 := Tryz.sizeOf22
  v37 := Tryz.zeroValue22
  t70 := Tryz.underlying51
  a70 := Tryz.isAgg51
  z70 := Tryz.sizeOf51
  v70 := Tryz.zeroValue51
  t72 := Tryz.underlying53
  a72 := Tryz.isAgg53
  z72 := Tryz.sizeOf53
  v72 := Tryz.zeroValue53
  t75 := Tryz.underlying55
  a75 := Tryz.isAgg55
  z75 := Tryz.sizeOf55
  v75 := Tryz.zeroValue55
  t164 := Tryz.underlying143
  a164 := Tryz.isAgg143
  z164 := Tryz.sizeOf143
  v164 := Tryz.zeroValue143 }
theorem Tryz.Builder_Extra_166 : Builder.Extra Tryz.prog Tryz.lays166_ren := {
  sizeBuilder := by kernel_rfl
  liesBuilder := by kernel_rfl
  t5 := Tryz.underlying5
  a5 := Tryz.isAgg5
  z5 := Tryz.sizeOf5
  v5 := Tryz.zeroValue5
  infoByte := by kernel_rfl
  cellsByte := by kernel_rfl
  sizeByte := by kernel_rfl
  neB5 := by decide }
open Go.RowKit in
theorem Tryz.Builder_WriteString (B b : Nat) (bs : List Value) (s : ByteArray) (w : World) (h : Lib.IsBuilder 53 5 B b bs w) (hlen : bs.length + s.size ≤ 140737488355328) (hBw : B ≤ w.heap.size) :
    Calls Tryz.prog 26 #[.pointer (some ⟨b, 0, none⟩), .string s] w fun e w' => e = .returned (.tuple #[.int .i64 s.size, .nilIface]) ∧ (Lib.BuilderAt 53 5 B b (.pointer (some ⟨b, 0, none⟩)) (bs ++ Lib.strCells s) w' ∧ Below B w w') := Any.Builder_WriteString Tryz.lays166 Tryz.Builder_Extra_166 B b bs s w h hlen hBw
end Go.Proofs
namespace Go.Proofs.YtdlhicdfldecgaaGreatDoor
open Go.RowKit
open Go.Lib hiding intOf

theorem strCells_append (a b : ByteArray) : strCells (a ++ b) = strCells a ++ strCells b := by simp [strCells]
/-- A builder of the call's own that holds this text. -/
def Holding (B : Nat) (t : ByteArray) (w : World) : Prop := IsBuilder 53 5 B B (strCells t) w

set_option maxHeartbeats 1000000 in
theorem write_any (B : Nat) (t s : ByteArray) (w : World) (h : Holding B t w) (hlen : t.size + s.size ≤ 140737488355328) (hBw : B ≤ w.heap.size) :
    Calls Tryz.prog 26 #[.pointer (some ⟨B, 0, none⟩), .string s] w fun e w' => e = .returned (.tuple #[.int .i64 s.size, .nilIface]) ∧ Holding B (t ++ s) w' ∧ Below B w w' := by
  refine (Tryz.Builder_WriteString B B _ s w h (by rw [strCells_length]; exact hlen) hBw).mono ?_
  rintro e w' ⟨rfl, h1, h2⟩
  exact ⟨rfl, .inr (by rw [strCells_append]; exact h1), h2⟩
theorem text_out (B : Nat) (t : ByteArray) (w : World) (h : Holding B t w) (hBw : B ≤ w.heap.size) :
    Calls Tryz.prog 28 #[.pointer (some ⟨B, 0, none⟩)] w fun e w' => e = .returned (.string t) ∧ Below B w w' :=
  Tryz.Builder_String_any B B t.data.toList w h hBw

set_option maxHeartbeats 2000000 in
theorem text_any (v : Value) (n base : Nat) (fs : List (ByteArray × ByteArray)) (w : World) (hv : FieldsV w base v n fs) (hn : n ≤ 1073741824) (hsz : (fieldsText fs).size ≤ 1099511627776) :
    Calls Tryz.prog 141 #[v] w fun e w' => TextIs (fieldsText fs) w e w' := by
  have hl := hv.len
  obtain ⟨oa, cap, rfl, hrow⟩ := hv.slice
  have HROW : Hid (∀ k, k < n → ∃ g, oa = some ⟨g, 0, none⟩ ∧ FieldRow base w g n cap fs) := hrow
  have HZ : Hid (∀ k, k < n → (ftTo fs (k + 1)).size ≤ 1099511627776) := fun k hk => by
    have := ftTo_mono fs (k + 1) (fs.length - (k + 1))
    rw [show k + 1 + (fs.length - (k + 1)) = fs.length by omega] at this
    exact Nat.le_trans this hsz
  have HF : Hid (fieldsText fs = ftTo fs n) := by show _ = _; unfold fieldsText; rw [hl]
  have H0 : Hid (Holding w.heap.size ⟨#[]⟩ (w.alloc (.cells #[.pointer none, .slice none 0 0] 53))) := fresh_isBuilder 53 5 w
  clear hsz hv hrow
  go_enter Tryz.func141, Tryz.ntmps141
  go_wp2
  go_loopw [7] (fun i wr => ∃ k : Nat, k ≤ n ∧ i = .int .i64 (k : Int) ∧ Hid (Holding w.heap.size (ftTo fs k) wr) ∧ Below w.heap.size w wr) (fun i _ => n - (intOf i).toNat)
  case atStart => exact ⟨0, Nat.zero_le _, rfl, H0, (Below.refl _ _).alloc (Nat.le_refl _) _⟩
  case round =>
    obtain ⟨k, hk, rfl, hI, hbw⟩ := hrel
    by_cases hlt : k < n
    · have hlt2 : (k : Int) < (n : Int) := by omega
      obtain ⟨g, rfl, row⟩ := HROW.out k hlt
      obtain ⟨nm, hnm⟩ : ∃ x, x = nameAt fs k := ⟨_, rfl⟩
      obtain ⟨vl, hvl⟩ : ∃ x, x = valAt fs k := ⟨_, rfl⟩
      obtain ⟨out, hout⟩ : ∃ x, x = ftTo fs k := ⟨_, rfl⟩
      have HR : Hid (∀ W, Below w.heap.size w W → W.cell? ⟨g, k * 2, none⟩ = some (.string nm) ∧ W.cell? ⟨g, k * 2 + 1, none⟩ = some (.string vl)) := fun W h => by
        rw [hnm, hvl]; exact ⟨(row.below h row.lt).name k hlt, (row.below h row.lt).val k hlt⟩
      have hz := HZ.out k hlt
      rw [ftTo_size] at hz
      have HN : Hid (out ++ nm ++ ⟨#[58, 32]⟩ ++ vl ++ ⟨#[13, 10]⟩ = ftTo fs (k + 1)) := by
        show _ = _
        rw [ftTo, ← hout, hnm, hvl]
      rw [← hout, ← hnm, ← hvl] at hz
      rw [← hout] at hI
      have e1 : (⟨#[58, 32]⟩ : ByteArray).size = 2 := rfl
      have e2 : (⟨#[13, 10]⟩ : ByteArray).size = 2 := rfl
      have q1 : out.size + nm.size ≤ 140737488355328 := by omega
      have q2 : (out ++ nm).size + (⟨#[58, 32]⟩ : ByteArray).size ≤ 140737488355328 := by rw [ByteArray.size_append]; omega
      have q3 : (out ++ nm ++ ⟨#[58, 32]⟩).size + vl.size ≤ 140737488355328 := by rw [ByteArray.size_append, ByteArray.size_append]; omega
      have q4 : (out ++ nm ++ ⟨#[58, 32]⟩ ++ vl).size + (⟨#[13, 10]⟩ : ByteArray).size ≤ 140737488355328 := by rw [ByteArray.size_append, ByteArray.size_append, ByteArray.size_append]; omega
      obtain ⟨c1, c2⟩ := HR.out wr hbw
      clear hnm hvl hout hz row
      go_wp2_with fail
      refine (write_any w.heap.size out nm _ hI.out q1 hbw.size).mono ?_
      rintro e w1 ⟨rfl, hI1, hb1⟩
      have hbw1 := hbw.trans hb1
      have HI1 : Hid (Holding w.heap.size (out ++ nm) w1) := hI1
      obtain ⟨c1a, c2a⟩ := HR.out w1 hbw1
      clear c1 c2 hb1 hI1 hI hbw
      go_wp2_with fail
      refine (write_any w.heap.size (out ++ nm) ⟨#[58, 32]⟩ _ HI1.out q2 hbw1.size).mono ?_
      rintro e w2 ⟨rfl, hI2, hb2⟩
      have hbw2 := hbw1.trans hb2
      have HI2 : Hid (Holding w.heap.size (out ++ nm ++ ⟨#[58, 32]⟩) w2) := hI2
      obtain ⟨c1b, c2b⟩ := HR.out w2 hbw2
      clear c1a c2a hb2 hI2 HI1 hbw1
      go_wp2_with fail
      refine (write_any w.heap.size (out ++ nm ++ ⟨#[58, 32]⟩) vl _ HI2.out q3 hbw2.size).mono ?_
      rintro e w3 ⟨rfl, hI3, hb3⟩
      have hbw3 := hbw2.trans hb3
      have HI3 : Hid (Holding w.heap.size (out ++ nm ++ ⟨#[58, 32]⟩ ++ vl) w3) := hI3
      clear c1b c2b hb3 hI3 HI2 hbw2
      go_wp2_with fail
      refine (write_any w.heap.size (out ++ nm ++ ⟨#[58, 32]⟩ ++ vl) ⟨#[13, 10]⟩ _ HI3.out q4 hbw3.size).mono ?_
      rintro e w4 ⟨rfl, hI4, hb4⟩
      have hbw4 := hbw3.trans hb4
      rw [HN.out] at hI4
      have HI4 : Hid (Holding w.heap.size (ftTo fs (k + 1)) w4) := hI4
      clear hb4 hI4 HI3 hbw3
      go_wp2
      go_roundw
      case rel => exact ⟨k + 1, by omega, by go_num, HI4, hbw4⟩
      case measure => simp [intOf]; omega
    · obtain rfl : k = n := by omega
      go_wp2_with fail
      refine (text_out w.heap.size _ _ hI.out hbw.size).mono ?_
      rintro e w1 ⟨rfl, hb1⟩
      have hbw1 := hbw.trans hb1
      clear hb1 hbw hI
      go_wp2
      go_ret
      exact TextIs.of HF.out.symm hbw1

end Go.Proofs.YtdlhicdfldecgaaGreatDoor

namespace Go.Proofs.YtdlhicdfldecgaaGreatDoor
open Go.RowKit
open Go.Lib hiding intOf

/-- What a message's text is behind its first line. -/
def restT (tell : Bool) (fs : List (ByteArray × ByteArray)) (b : ByteArray) : ByteArray :=
  (if tell = true then fieldsText fs ++ (⟨#[]⟩ ++ clen ++ ⟨#[58, 32]⟩ ++ numText b.size ++ ⟨#[13, 10]⟩) else fieldsText fs) ++ ⟨#[13, 10]⟩ ++ b
theorem field_text (a b : ByteArray) : fieldsText [(a, b)] = ⟨#[]⟩ ++ a ++ ⟨#[58, 32]⟩ ++ b ++ ⟨#[13, 10]⟩ := rfl
theorem one_row {w W : World} {base : Nat} {a b : ByteArray} (h : W.heap[w.heap.size]? = some (.cells #[.string a, .string b] 131)) (hb : base ≤ w.heap.size) (hl : w.heap.size < W.heap.size) : FieldsV W base (.slice (some ⟨w.heap.size, 0, none⟩) 1 1) 1 [(a, b)] := by
  refine .inr ⟨w.heap.size, 1, rfl, by omega, ⟨rfl, hb, hl, Nat.le_refl _, by unfold maxLen; omega, _, h, rfl, ?_⟩⟩
  intro i hi
  obtain rfl : i = 0 := by omega
  exact ⟨rfl, rfl⟩
theorem rest_resp (st : Int) (fs : List (ByteArray × ByteArray)) (b : ByteArray) : ⟨#[72, 84, 84, 80, 47, 49, 46, 49, 32]⟩ ++ numText st.toNat ++ ⟨#[32]⟩ ++ ⟨#[46]⟩ ++ ⟨#[13, 10]⟩ ++ restT true fs b = respT st fs b := by
  apply bs_inj
  unfold respT restT
  simp [bs, httpAhead, dotEnd, lnE2, clenK, clen]
theorem restT_size (tell : Bool) {fs : List (ByteArray × ByteArray)} (hf : FldsOk fs) {b : ByteArray} (hb : b.size ≤ 120) : (restT tell fs b).size ≤ 1000 := by
  have h1 := ft_small hf
  have h2 := numText_size b.size
  have e1 : (⟨#[]⟩ : ByteArray).size = 0 := rfl
  have e2 : clen.size = 14 := rfl
  have e3 : (⟨#[58, 32]⟩ : ByteArray).size = 2 := rfl
  have e4 : (⟨#[13, 10]⟩ : ByteArray).size = 2 := rfl
  unfold restT
  cases tell
  · rw [if_neg (by decide)]; simp only [ByteArray.size_append]; omega
  · rw [if_pos rfl]; simp only [ByteArray.size_append]; omega

set_option maxHeartbeats 1000000 in
theorem restText_any (v : Value) (b : ByteArray) (tell : Bool) (n base : Nat) (fs : List (ByteArray × ByteArray)) (w : World) (hv : FieldsV w base v n fs) (hn : n ≤ 1073741824) (hf : FldsOk fs) (hb : b.size ≤ 120) (htab : TabOk w) :
    Calls Tryz.prog 98 #[.agg #[v, .string b], .bool tell] w fun e w' => TextIs (restT tell fs b) w e w' := by
  obtain ⟨oa, cap, rfl, _⟩ := hv.slice
  obtain ⟨r, hr⟩ : ∃ r, r = w.heap.size := ⟨_, rfl⟩
  have HR : Hid (∀ W, Below (w.alloc (.cells #[.slice oa n cap, .string b] 76)).heap.size (w.alloc (.cells #[.slice oa n cap, .string b] 76)) W → (W.cell? ⟨r, 0, none⟩ = some (.slice oa n cap) ∧ W.cell? ⟨r, 1, none⟩ = some (.string b)) ∧ FieldsV W base (.slice oa n cap) n fs ∧ Below w.heap.size w W) := fun W h => by
    have hh := kept_new h
    rw [← hr] at hh
    exact ⟨⟨by simp [World.cell?, hh], by simp [World.cell?, hh]⟩, hv.below (below_new h), below_new h⟩
  obtain ⟨_, hv0, _⟩ := HR.out _ (Below.refl _ _)
  have hfs := ft_small hf
  have HT : Hid ((fieldsText fs).size ≤ 1099511627776) := by show _ ≤ _; omega
  have HTAB : Hid (TabOk w) := htab
  go_enter Tryz.func98, Tryz.ntmps98
  go_wp2_with fail
  refine (text_any _ n base fs _ hv0 hn HT.out).mono ?_
  rintro e w1 ⟨rfl, bb1⟩
  rw [← hr]
  obtain ⟨⟨c0, c1⟩, _, hbw1⟩ := HR.out w1 bb1
  have HB1 : Hid (Below (w.alloc (.cells #[.slice oa n cap, .string b] 76)).heap.size (w.alloc (.cells #[.slice oa n cap, .string b] 76)) w1) := bb1
  obtain ⟨ft, hft⟩ : ∃ x, x = fieldsText fs := ⟨_, rfl⟩
  rw [← hft] at hfs ⊢
  have HFT : Hid (fieldsText fs = ft) := hft.symm
  clear hv hv0 bb1 hr hf htab hft HT
  have e2 : (⟨#[13, 10]⟩ : ByteArray).size = 2 := rfl
  cases tell
  · have HE : Hid (ft ++ ⟨#[13, 10]⟩ ++ b = restT false fs b) := by
      show _ = _
      unfold restT
      rw [if_neg (by decide), HFT.out]
    have q1 : ¬ 9223372036854775807 < ft.size + 2 := by omega
    have q2 : ¬ 9223372036854775807 < ft.size + 2 + b.size := by omega
    go_wp2_with fail
    go_ret
    exact TextIs.of HE.out hbw1
  · have hT1 : TabOk w1 := HTAB.out.below hbw1
    have hns := numText_size b.size
    obtain ⟨nt, hnt⟩ : ∃ x, x = numText b.size := ⟨_, rfl⟩
    have HNI : Hid (numTextI (b.size : Int) = nt) := by
      show _ = _
      unfold numTextI
      rw [if_neg (by omega), hnt]
      rfl
    rw [← hnt] at hns
    obtain ⟨lt, hlt⟩ : ∃ x, x = fieldsText [((⟨#[99, 111, 110, 116, 101, 110, 116, 45, 108, 101, 110, 103, 116, 104]⟩ : ByteArray), nt)] := ⟨_, rfl⟩
    have hls : lt.size ≤ 40 := by
      rw [hlt, field_text]
      have k1 : (⟨#[]⟩ : ByteArray).size = 0 := rfl
      have k2 : (⟨#[99, 111, 110, 116, 101, 110, 116, 45, 108, 101, 110, 103, 116, 104]⟩ : ByteArray).size = 14 := rfl
      have k3 : (⟨#[58, 32]⟩ : ByteArray).size = 2 := rfl
      simp only [ByteArray.size_append]
      omega
    have HLT : Hid (fieldsText [((⟨#[99, 111, 110, 116, 101, 110, 116, 45, 108, 101, 110, 103, 116, 104]⟩ : ByteArray), nt)] = lt) := hlt.symm
    have HLS : Hid ((fieldsText [((⟨#[99, 111, 110, 116, 101, 110, 116, 45, 108, 101, 110, 103, 116, 104]⟩ : ByteArray), nt)]).size ≤ 1099511627776) := by show _ ≤ _; rw [← hlt]; omega
    have HE : Hid (ft ++ lt ++ ⟨#[13, 10]⟩ ++ b = restT true fs b) := by
      show _ = _
      unfold restT
      rw [if_pos rfl, HFT.out, ← hnt, hlt, field_text]
      rfl
    clear hnt hlt
    go_wp2_with fail
    refine (implNumText_any (b.size : Int) _ (by omega) (by omega) hT1).mono ?_
    rintro e w2 ⟨rfl, bb2⟩
    rw [HNI.out]
    clear c0 c1 hT1
    have HB2 : Hid (Below (w.alloc (.cells #[.slice oa n cap, .string b] 76)).heap.size (w.alloc (.cells #[.slice oa n cap, .string b] 76)) w2) := HB1.out.trans (bb2.mono HB1.out.size)
    clear bb2 hbw1
    obtain ⟨h3, hh3⟩ : ∃ x, x = w2.heap.size := ⟨_, rfl⟩
    have hv3 : FieldsV (w2.alloc (.cells #[.string ⟨#[99, 111, 110, 116, 101, 110, 116, 45, 108, 101, 110, 103, 116, 104]⟩, .string nt] 131)) w2.heap.size (.slice (some ⟨w2.heap.size, 0, none⟩) 1 1) 1 [(⟨#[99, 111, 110, 116, 101, 110, 116, 45, 108, 101, 110, 103, 116, 104]⟩, nt)] := one_row (heap_alloc_new w2 _) (Nat.le_refl _) (by simp)
    have HB3 : Hid (Below (w.alloc (.cells #[.slice oa n cap, .string b] 76)).heap.size (w.alloc (.cells #[.slice oa n cap, .string b] 76)) (w2.alloc (.cells #[.string ⟨#[99, 111, 110, 116, 101, 110, 116, 45, 108, 101, 110, 103, 116, 104]⟩, .string nt] 131))) := HB2.out.alloc HB2.out.size _
    go_wp2_with fail
    refine (text_any _ 1 w2.heap.size [(⟨#[99, 111, 110, 116, 101, 110, 116, 45, 108, 101, 110, 103, 116, 104]⟩, nt)] _ hv3 (by omega) HLS.out).mono ?_
    rintro e w4 ⟨rfl, bb4⟩
    rw [HLT.out]
    obtain ⟨⟨d0, d1⟩, _, hbw4⟩ := HR.out w4 (HB3.out.trans (bb4.mono HB3.out.size))
    clear hv3 bb4 hh3
    have q1 : ¬ 9223372036854775807 < ft.size + lt.size := by omega
    have q2 : ¬ 9223372036854775807 < ft.size + lt.size + 2 := by omega
    have q3 : ¬ 9223372036854775807 < ft.size + lt.size + 2 + b.size := by omega
    go_wp2_with fail
    go_ret
    exact TextIs.of HE.out hbw4

set_option maxHeartbeats 1000000 in
set_option maxRecDepth 100000 in
theorem respText_any (st : Int) (v : Value) (b : ByteArray) (n base : Nat) (fs : List (ByteArray × ByteArray)) (w : World) (hv : FieldsV w base v n fs) (hn : n ≤ 1073741824) (hsz : WalkF n fs) (hb : b.size ≤ maxLen) (htab : TabOk w) :
    Calls Tryz.prog 41 #[.agg #[v, .string b, .int .i64 st]] w fun e w' => TextOf (RespP st fs b) (respT st fs b) w e w' := by
  obtain ⟨oa, cap, rfl, _⟩ := hv.slice
  obtain ⟨r, hr⟩ : ∃ r, r = w.heap.size := ⟨_, rfl⟩
  have HR : Hid (∀ W, Below (w.alloc (.cells #[.slice oa n cap, .string b, .int .i64 st] 78)).heap.size (w.alloc (.cells #[.slice oa n cap, .string b, .int .i64 st] 78)) W → (W.cell? ⟨r, 0, none⟩ = some (.slice oa n cap) ∧ W.cell? ⟨r, 1, none⟩ = some (.string b) ∧ W.cell? ⟨r, 2, none⟩ = some (.int .i64 st)) ∧ FieldsV W base (.slice oa n cap) n fs ∧ Below w.heap.size w W) := fun W h => by
    have hh := kept_new h
    rw [← hr] at hh
    exact ⟨⟨by simp [World.cell?, hh], by simp [World.cell?, hh], by simp [World.cell?, hh]⟩, hv.below (below_new h), below_new h⟩
  obtain ⟨_, hv0, _⟩ := HR.out _ (Below.refl _ _)
  have HTAB : Hid (TabOk w) := htab
  go_enter Tryz.func41, Tryz.ntmps41
  go_wp2_with fail
  refine (respOk_any st _ b n base fs _ hv0 hn hsz hb).mono ?_
  rintro e w1 ⟨b1, rfl, kb1, bb1⟩
  rw [← hr]
  obtain ⟨⟨c0, c1, c2⟩, _, hbw1⟩ := HR.out w1 bb1
  clear hv hv0 hsz hb htab hr
  cases b1
  · have HF : Hid (¬ RespP st fs b) := fun h => by have := kb1.2 h; cases this
    clear kb1 bb1
    go_wp2_with fail
    go_ret
    exact ⟨_, rfl, fun h => absurd h HF.out, fun _ => rfl, hbw1⟩
  · have HY : Hid (RespP st fs b) := kb1.1 rfl
    have hst := HY.out.1
    have hbs : b.size ≤ 120 := HY.out.2.2
    have hns := numText_size st.toNat
    obtain ⟨nk, hnk⟩ : ∃ x, x = numText st.toNat := ⟨_, rfl⟩
    rw [← hnk] at hns
    have HNI : Hid (numTextI st = nk) := by
      show _ = _
      unfold numTextI
      rw [if_neg (by omega), hnk]
    have hrs := restT_size true HY.out.2.1 hbs
    obtain ⟨rt, hrt⟩ : ∃ x, x = restT true fs b := ⟨_, rfl⟩
    rw [← hrt] at hrs
    have HRT : Hid (restT true fs b = rt) := hrt.symm
    have HE : Hid (⟨#[72, 84, 84, 80, 47, 49, 46, 49, 32]⟩ ++ nk ++ ⟨#[32]⟩ ++ ⟨#[46]⟩ ++ ⟨#[13, 10]⟩ ++ rt = respT st fs b) := by
      show _ = _
      rw [hnk, ← HRT.out]
      exact rest_resp st fs b
    have HB1 : Hid (Below (w.alloc (.cells #[.slice oa n cap, .string b, .int .i64 st] 78)).heap.size (w.alloc (.cells #[.slice oa n cap, .string b, .int .i64 st] 78)) w1) := bb1
    have hT1 : TabOk w1 := HTAB.out.below hbw1
    clear kb1 bb1 hnk hrt hbw1
    have e1 : (⟨#[32]⟩ : ByteArray).size = 1 := rfl
    have e2 : (⟨#[72, 84, 84, 80, 47, 49, 46, 49, 32]⟩ : ByteArray).size = 9 := rfl
    have e3 : (⟨#[13, 10]⟩ : ByteArray).size = 2 := rfl
    have e4 : (⟨#[46]⟩ : ByteArray).size = 1 := rfl
    have q1 : ¬ 9223372036854775807 < 9 + nk.size := by omega
    have q2 : ¬ 9223372036854775807 < 9 + nk.size + 1 := by omega
    have q3 : ¬ 9223372036854775807 < 9 + nk.size + 1 + 1 := by omega
    have q4 : ¬ 9223372036854775807 < 9 + nk.size + 1 + 1 + 2 := by omega
    have q5 : ¬ 9223372036854775807 < 9 + nk.size + 1 + 1 + 2 + rt.size := by omega
    go_wp2_with fail
    refine (implNumText_any st _ (by omega) (by omega) hT1).mono ?_
    rintro e w2 ⟨rfl, bb2⟩
    rw [HNI.out]
    have HB2 : Hid (Below (w.alloc (.cells #[.slice oa n cap, .string b, .int .i64 st] 78)).heap.size (w.alloc (.cells #[.slice oa n cap, .string b, .int .i64 st] 78)) w2) := HB1.out.trans (bb2.mono HB1.out.size)
    obtain ⟨⟨d0, d1, d2⟩, hv2, hbw2⟩ := HR.out w2 HB2.out
    have hT2 : TabOk w2 := HTAB.out.below hbw2
    have hF := HY.out.2.1
    clear c0 c1 c2 HB1 bb2 hT1 hbw2
    go_wp2_with fail
    refine (restText_any _ _ true n base fs _ hv2 hn hF hbs hT2).mono ?_
    rintro e w3 ⟨rfl, bb3⟩
    rw [HRT.out]
    obtain ⟨_, _, hbw3⟩ := HR.out w3 (HB2.out.trans (bb3.mono HB2.out.size))
    clear bb3 hv2 hT2 d0 d1 d2 hF
    go_wp2_with fail
    go_ret
    exact ⟨_, rfl, fun _ => HE.out, fun h => absurd HY.out h, hbw3⟩

set_option maxHeartbeats 400000 in
theorem implRespText_any (m : Int) (v : Value) (b : ByteArray) (n base : Nat) (fs : List (ByteArray × ByteArray)) (w : World) (hv : FieldsV w base v n fs) (hn : n ≤ 1073741824) (hsz : WalkF n fs) (hb : b.size ≤ maxLen) (htab : TabOk w) :
    Calls Tryz.prog 13 #[.agg #[.int .i64 m, v, .string b]] w fun e w' => TextOf (RespP m fs b) (respT m fs b) w e w' := by
  obtain ⟨oa, cap, rfl, _⟩ := hv.slice
  have hb0 : Below w.heap.size w (w.alloc (.cells #[.int .i64 m, .slice oa n cap, .string b] 27)) := (Below.refl _ _).alloc (Nat.le_refl _) _
  have HTAB : Hid (TabOk w) := htab
  clear htab
  go_enter Tryz.func13, Tryz.ntmps13
  go_wp2_with fail
  refine (answerOf_any m oa n cap b _).mono ?_
  rintro e w1 ⟨rfl, bb1⟩
  have hb1 : Below w.heap.size w w1 := hb0.trans (bb1.mono hb0.size)
  have hv1 := hv.below hb1
  clear bb1 hb0 hv
  go_wp2_with fail
  refine (respText_any m _ b n base fs _ hv1 hn hsz hb (HTAB.out.below hb1)).mono ?_
  rintro e w2 ⟨u, rfl, ku, kn, bb2⟩
  have hb2 : Below w.heap.size w w2 := hb1.trans (bb2.mono hb1.size)
  have HK : Hid ((RespP m fs b) → u = respT m fs b) := ku
  have HN : Hid (¬ (RespP m fs b) → u = ⟨#[]⟩) := kn
  clear hv1 hsz hb bb2 hb1 ku kn
  go_wp2_with fail
  go_ret
  exact ⟨u, rfl, HK.out, HN.out, hb2⟩

end Go.Proofs.YtdlhicdfldecgaaGreatDoor

namespace Go.Proofs.YtdlhicdfldecgaaGreatDoor
open Go.RowKit
open Go.Lib hiding intOf

/-- An answer's text is read as the answer. -/
theorem IsResp.parts {s : ByteArray} {st : Int} {fs : List (ByteArray × ByteArray)} {b : ByteArray} (h : IsResp s st fs b) {xs : List ByteArray} {k : Nat} {ws : List ByteArray} {l : List (ByteArray × ByteArray)} (hp : Parts s xs k ws l) :
    ∃ x y, ws = [x, numText st.toNat, y] ∧ l = fs ∧ s.extract k s.size = b := by
  have e := hp.head.symm.trans (resp_head h)
  simp only [Prod.mk.injEq, Option.some.injEq] at e
  obtain ⟨e1, e2⟩ := e
  obtain ⟨x0, xr, rfl⟩ : ∃ x0 xr, xs = x0 :: xr := by
    cases xs with
    | nil => exact absurd rfl hp.ne
    | cons a r => exact ⟨a, r, rfl⟩
  simp only [List.map_cons, List.cons.injEq] at e1
  have hw := hp.words
  simp only [List.headD_cons] at hw
  rw [e1.1, resp_words h.1.1] at hw
  have hf := hp.fields
  simp only [List.tail_cons] at hf
  rw [e1.2, resp_fields h.1.2.1] at hf
  refine ⟨⟨httpL.toArray⟩, ⟨#[46]⟩, map_bs_inj (by rw [← hw]; rfl), (pairs_inj hf).symm, bs_inj ?_⟩
  rw [bs_extract, List.take_of_length_le (i := s.size) (l := bs s) (by rw [bs_len]; omega)]
  exact e2
end Go.Proofs.YtdlhicdfldecgaaGreatDoor

namespace Go.Proofs.YtdlhicdfldecgaaGreatDoor
open Go.RowKit
open Go.Lib hiding intOf

/-- A cell of the message behind its fields is set. -/
theorem RdSt.set {w : World} {B b q : Nat} {T : TypeId} {bd : ByteArray} {tl : List Value} {fs : List (ByteArray × ByteArray)} {left : ByteArray} {fv : Value} {W : World} {bd' : ByteArray} {tl' : List Value} (h : RdSt w B b q T bd tl fs left fv W) (hT : TypeOk T) (hq : B ≤ q) (o : Nat) (v : Value) (e : (⟨fv :: .string bd :: tl⟩ : Array Value).setIfInBounds o v = ⟨fv :: .string bd' :: tl'⟩) : RdSt w B b q T bd' tl' fs left fv (W.setCell ⟨q, o, none⟩ v) := by
  have hne := h.bq
  refine ⟨?_, ?_, ?_, h.low.setCell (p := ⟨q, o, none⟩) hq _⟩
  · have := h.rd
    unfold Reader at this ⊢
    rw [heap_setCell_other _ _ b _ (fun e => hne e.symm)]; exact this
  · rw [heap_set _ _ _ _ _ _ _ h.qc, e]
  · exact owns_same h.own (fun j hj => heap_setCell_other _ _ j _ (fun e => by
      subst e
      exact own_not h.own hT h.qc hj))
end Go.Proofs.YtdlhicdfldecgaaGreatDoor

namespace Go.Proofs.YtdlhicdfldecgaaGreatDoor
open Go.RowKit
open Go.Lib hiding intOf

attribute [local go_sem] Oper.semAt_some

set_option maxHeartbeats 1000000 in
theorem valueOf_any (x : ByteArray) (v : Value) (n base : Nat) (fs : List (ByteArray × ByteArray)) (w : World) (hv : FieldsV w base v n fs) (hn : n ≤ 1073741824) (hcp : CopyF fs) :
    Calls Tryz.prog 120 #[.string x, v] w fun e w' => e = .returned (.string (valOf fs x)) ∧ Below w.heap.size w w' := by
  obtain ⟨y, hy⟩ : ∃ y, y = valOf fs x := ⟨_, rfl⟩
  rw [← hy]
  go_enter Tryz.func120, Tryz.ntmps120
  go_wp2_with fail
  refine (implGet_any v n base fs x _ hv hn hcp).mono ?_
  rintro e w2 ⟨rfl, b2⟩
  obtain ⟨s, hs⟩ : ∃ s, s = getV fs x := ⟨_, rfl⟩
  obtain ⟨th, hth⟩ : ∃ b, b = getB fs x := ⟨_, rfl⟩
  rw [← hs, ← hth]
  have HY : Hid (y = if th = true then s else dashT) := by show _ = _; rw [hy, hs, hth]; rfl
  clear hs hth hy hv
  cases th with
  | true =>
    have HY2 : Hid (s = y) := by show _ = _; rw [HY.out]; rfl
    rw [HY2.out]
    clear HY HY2
    go_wp2_with fail
    go_ret
    exact ⟨rfl, b2⟩
  | false =>
    have HY2 : Hid (y = ⟨#[45]⟩) := by show _ = _; rw [HY.out]; rfl
    clear HY
    go_wp2_with fail
    go_ret
    exact ⟨by rw [HY2.out]; rfl, b2⟩

set_option maxHeartbeats 1000000 in
theorem toldValues_any (oa : Option Addr) (m cm : Nat) (oc : Option Addr) (n cn : Nat) (w : World) :
    Calls Tryz.prog 67 #[.slice oa m cm, .slice oc n cn] w fun e w' =>
      e = .returned (.func (.func 119) #[] #[.pointer (some ⟨w.heap.size, 0, none⟩), .pointer (some ⟨w.heap.size + 1, 0, none⟩)]) ∧
      w' = (w.alloc (.cells #[.slice oa m cm] 24)).alloc (.cells #[.slice oc n cn] 25) := by
  go_enter Tryz.func67, Tryz.ntmps67
  go_wp2_with fail
  go_ret
  exact ⟨rfl, rfl⟩

/-- What a round is handed: the place and the value. -/
def toldV (xs : List ByteArray) (fs : List (ByteArray × ByteArray)) (m : Nat) (j : Fin m) : Array Value := #[.int .i64 ((j.1 : Nat) : Int), .string (valOf fs (textAt xs j.1))]
theorem fin_take (m k : Nat) (h : k < m) : (List.finRange m).take (k + 1) = (List.finRange m).take k ++ [⟨k, h⟩] := by
  rw [List.take_add_one, List.getElem?_eq_getElem (by simpa using h), List.getElem_finRange]
  rfl
theorem fin_take_len (m k : Nat) (h : k ≤ m) : ((List.finRange m).take k).length = k := by simp [h]

/-- What a round keeps: all below a block, and the one block that holds the fields. -/
def KeepL (n₀ b : Nat) (W W' : World) : Prop := Below n₀ W W' ∧ W'.heap[b]? = W.heap[b]?
theorem KeepL.trans {n₀ b : Nat} {A B C : World} (h : KeepL n₀ b A B) (k : KeepL n₀ b B C) : KeepL n₀ b A C := ⟨h.1.trans k.1, k.2.trans h.2⟩
theorem keepL_b {n₀ b : Nat} {w : World} (hn : n₀ ≤ w.heap.size) (hb : b < w.heap.size) (W : World) (l : Nat) (o o' : Obj) (hl : w.heap.size ≤ l) (h : W.heap[l]? = some o) (h1 : o.isCells = false) (h2 : o.isWalk = false) : KeepL n₀ b W (W.putObj l o') :=
  ⟨belowK_b hn W l o o' hl h h1 h2, World.putObj_heap_other (by omega)⟩

set_option maxRecDepth 100000 in
set_option maxHeartbeats 2000000 in
theorem told1_in (nn : Nat) (hnn : 1 ≤ nn) (l Bs Bf n₀ : Nat) (oa : Option Addr) (m cm : Nat) (xs : List ByteArray) (v : Value) (n base : Nat) (fs : List (ByteArray × ByteArray)) (w0 W : World)
    (hm : m ≤ 1048577) (hn : n ≤ 1073741824) (hcp : CopyF fs) (hn₀ : n₀ ≤ W.heap.size)
    (hX : ∀ W', Below n₀ w0 W' → TextsA W' oa m xs) (hV : ∀ W', Below n₀ w0 W' → FieldsV W' base v n fs)
    (hW : Below n₀ w0 W) (hBs : W.cell? ⟨Bs, 0, none⟩ = some (.slice oa m cm)) (hBf : Boxed W Bf 25 v)
    (J Jx : List (Fin m) → World → Prop) (hJ : AbidesFrom W.heap.size J)
    (hY : ∀ pre x W1, J pre W1 → pre.length < m → YieldAt Fence.wide (nn - 1) Tryz.prog l (toldV xs fs m x) W1 fun e W' =>
      (e = .returned (.bool true) ∧ J (pre ++ [x]) W' ∧ KeepL n₀ Bf W1 W') ∨ (e = .returned (.bool false) ∧ Jx (pre ++ [x]) W'))
    (h0 : J [] W) :
    CallsIn Fence.wide nn Tryz.prog 119 #[.func (.yield l) #[] #[], .pointer (some ⟨Bs, 0, none⟩), .pointer (some ⟨Bf, 0, none⟩)] W fun e W' => (∃ u, e = .returned u) ∧
      ((∃ ys, ys = List.finRange m ∧ J ys W') ∨ (∃ pre, pre <+: List.finRange m ∧ Jx pre W')) := by
  have HX : Hid (∀ W', Below n₀ w0 W' → TextsA W' oa m xs) := hX
  have HV : Hid (∀ W', Below n₀ w0 W' → FieldsV W' base v n fs) := hV
  have HLEN : Hid (xs.length = m) := (hX W hW).1
  obtain ⟨oc, cn, hvs, _⟩ := (hV W hW).slice
  subst hvs
  have HW : Hid (Below n₀ w0 W) := hW
  have HN : Hid (n₀ ≤ W.heap.size) := hn₀
  have HBF : Hid (Boxed W Bf 25 (.slice oc n cn)) := hBf
  have HY : Hid (∀ pre x W1, J pre W1 → pre.length < m → YieldAt Fence.wide (nn - 1) Tryz.prog l (toldV xs fs m x) W1 fun e W' =>
      (e = .returned (.bool true) ∧ J (pre ++ [x]) W' ∧ KeepL n₀ Bf W1 W') ∨ (e = .returned (.bool false) ∧ Jx (pre ++ [x]) W')) := hY
  have HJ : Hid (AbidesFrom W.heap.size J) := hJ
  clear hX hV hW hBf hY hJ hn₀
  refine callsIn_of_wp Tryz.func119 rfl trivial ?_ rfl
  simp only [Tryz.ntmps119, List.size_toArray, List.length_cons, List.length_nil, Nat.reduceAdd, Nat.reduceSub, Array.replicate_succ, Array.replicate_zero, List.push_toArray, List.append_toArray, List.nil_append, List.cons_append]
  gi_wp2
  gi_loopw [8] (fun i wr => ∃ k : Nat, k ≤ m ∧ i = .int .i64 (k : Int) ∧ Hid (J ((List.finRange m).take k) wr) ∧ Hid (KeepL n₀ Bf W wr) ∧ W.heap.size ≤ wr.heap.size) (fun i _ => m - (intOf i).toNat)
  case atStart => exact ⟨0, Nat.zero_le _, rfl, h0, ⟨Below.refl _ _, rfl⟩, Nat.le_refl _⟩
  case round =>
    obtain ⟨k, hk, rfl, HJs, HK, hsz⟩ := hrel
    by_cases hlt : (k : Int) < (m : Int)
    · have hkm : k < m := by omega
      have hB : Below n₀ w0 wr := HW.out.trans HK.out.1
      obtain ⟨g, rfl, hg, hc⟩ := (HX.out wr hB).2 k hkm
      have hbf : wr.cell? ⟨Bf, 0, none⟩ = some (.slice oc n cn) := (show Boxed wr Bf 25 (.slice oc n cn) from HK.out.2.trans HBF.out).cell
      have HBl : Hid (Bf < wr.heap.size) := (show Boxed wr Bf 25 (.slice oc n cn) from HK.out.2.trans HBF.out).lt
      have hval := valueOf_any (textAt xs k) (.slice oc n cn) n base fs wr (HV.out wr hB) hn hcp
      obtain ⟨x, hx⟩ : ∃ x, x = textAt xs k := ⟨_, rfl⟩
      rw [← hx] at hc hval
      obtain ⟨y, hy⟩ : ∃ y, y = valOf fs x := ⟨_, rfl⟩
      rw [← hy] at hval
      have HTV : Hid (toldV xs fs m ⟨k, hkm⟩ = #[.int .i64 (k : Int), .string y]) := by show _ = _; rw [hy, hx]; rfl
      clear hx hy hB
      gi_wp2_with fail
      refine ⟨trivial, (callsIn_wide.2 hval).mono ?_⟩
      rintro e w2 ⟨rfl, b2⟩
      have HJ2 : Hid (J ((List.finRange m).take k) w2) := HJ.out _ wr w2 none HJs.out ⟨b2.os, b2.tape, b2.output, b2.size, fun q hq _ => b2.block q hq⟩ (fun r e => by cases e)
      have HK2 : Hid (KeepL n₀ Bf W w2) := by
        refine ⟨HK.out.1.trans (b2.mono ?_), (b2.block Bf HBl.out).trans HK.out.2⟩
        exact Nat.le_trans HN.out hsz
      have hsz2 : W.heap.size ≤ w2.heap.size := Nat.le_trans hsz b2.size
      obtain ⟨fn, tmps, assign, body, hy, hR⟩ := HY.out _ ⟨k, hkm⟩ w2 HJ2.out (by rw [fin_take_len m k hk]; exact hkm)
      rw [HTV.out] at hy
      clear hval HJs HK hsz hc hbf hg b2 HBl
      gi_wp2
      refine hR.mono ?_
      rintro e W3 (⟨rfl, hJ3, hk3⟩ | ⟨rfl, hJx3⟩)
      · have HJ3 : Hid (J ((List.finRange m).take (k + 1)) W3) := by show J _ _; rw [fin_take m k hkm]; exact hJ3
        have HK3 : Hid (KeepL n₀ Bf W W3) := HK2.out.trans hk3
        have hsz3 : W.heap.size ≤ W3.heap.size := Nat.le_trans hsz2 hk3.1.size
        clear hJ3 hk3 hsz2 HK2 HJ2 hR
        gi_wp2
        go_roundw
        case rel => exact ⟨k + 1, by omega, by go_num, HJ3, HK3, hsz3⟩
        case measure => simp [intOf]; omega
      · have HJx : Hid (Jx ((List.finRange m).take (k + 1)) W3) := by show Jx _ _; rw [fin_take m k hkm]; exact hJx3
        clear hJx3 HK2 HJ2 hsz2 hR
        gi_wp2
        refine bodyPost_ret (results_none rfl _ _ _) rfl ?_
        exact ⟨⟨_, rfl⟩, .inr ⟨_, List.take_prefix _ _, HJx.out⟩⟩
    · obtain rfl : k = m := by omega
      gi_wp2
      go_end0
      have hj := HJs.out
      rw [List.take_of_length_le (by simp)] at hj
      exact ⟨⟨_, rfl⟩, .inl hj⟩

/-- What 'toldValues' hands back tells them all, in their order, or the first of them. -/
theorem told_stops (nn : Nat) (hnn : 1 ≤ nn) (Bs Bf n₀ : Nat) (oa : Option Addr) (m cm : Nat) (xs : List ByteArray) (v : Value) (n base : Nat) (fs : List (ByteArray × ByteArray)) (w0 w : World)
    (hm : m ≤ 1048577) (hn : n ≤ 1073741824) (hcp : CopyF fs) (hn₀ : n₀ ≤ w.heap.size)
    (hX : ∀ W', Below n₀ w0 W' → TextsA W' oa m xs) (hV : ∀ W', Below n₀ w0 W' → FieldsV W' base v n fs)
    (hW : Below n₀ w0 w) (hBs : Boxed w Bs 24 (.slice oa m cm)) (hBf : Boxed w Bf 25 v) :
    SeqStopsK Fence.wide nn Tryz.prog 119 #[.pointer (some ⟨Bs, 0, none⟩), .pointer (some ⟨Bf, 0, none⟩)] (toldV xs fs m) (KeepL n₀ Bf) (fun ys => ys = List.finRange m) (fun pre => pre <+: List.finRange m) m w := fun l J Jx W hw hJ _ hY h0 => by
  have hbs : Boxed W Bs 24 (.slice oa m cm) := (hw.block Bs hBs.lt).trans hBs
  have hbf : Boxed W Bf 25 v := (hw.block Bf hBf.lt).trans hBf
  exact told1_in nn hnn l Bs Bf n₀ oa m cm xs v n base fs w0 W hm hn hcp (Nat.le_trans hn₀ hw.size) hX hV (hW.trans (hw.mono hn₀)) hbs.cell hbf J Jx hJ hY h0

end Go.Proofs.YtdlhicdfldecgaaGreatDoor

namespace Go.Proofs.YtdlhicdfldecgaaGreatDoor
open Go.RowKit
open Go.Lib hiding intOf

attribute [local go_sem] Oper.semAt_some

set_option maxHeartbeats 1000000 in
set_option maxRecDepth 100000 in
theorem implVaryOf_any (v : Value) (n base : Nat) (fs : List (ByteArray × ByteArray)) (w : World) (hv : FieldsV w base v n fs) (hn : n ≤ 1073741824) (hcp : CopyF fs) (hsz : (getV fs varyName).size ≤ 1048576) :
    Calls Tryz.prog 36 #[v] w fun e w' => RowIs w.heap.size (varyP fs) w e w' := by
  obtain ⟨s, hs⟩ : ∃ s, s = getV fs varyName := ⟨_, rfl⟩
  have HS : Hid (getV fs varyName = s) := hs.symm
  have HE : Hid (varyP fs = (splitL s).map lowerOf) := by show _ = _; unfold varyP; rw [HS.out]
  rw [← hs] at hsz
  have hl1 := (splitL_le s).1
  clear hs
  go_enter Tryz.func36, Tryz.ntmps36
  go_wp2_with fail
  refine (implGet_any v n base fs varyName _ hv hn hcp).mono ?_
  rintro e w1 ⟨rfl, b1⟩
  rw [HS.out]
  clear hv
  go_wp2_with fail
  refine (implSplit_any s _ hsz).mono ?_
  rintro e w2 ⟨V, rfl, O, b2⟩
  obtain ⟨xs, hxs⟩ : ∃ xs, xs = splitL s := ⟨_, rfl⟩
  rw [← hxs] at hl1 O HE
  obtain ⟨m, hm⟩ : ∃ m, m = xs.length := ⟨_, rfl⟩
  rw [← hm] at hl1 O
  have HM : Hid (xs.length = m) := hm.symm
  have O := owns_base O b1.size
  have b2 : Below w.heap.size w w2 := b1.trans (b2.mono b1.size)
  clear hxs hm b1
  rcases row_form O with ⟨oa, ca, rfl, h0, h1⟩ | ⟨g, cap, rfl, hp, r1⟩
  · subst h0 h1
    go_wp2_with fail
    refine wp_loop_rounds 1 ?_
    rw [rounds_succ]
    go_wp2_with fail
    go_ret
    exact RowIs.of (by rw [HE.out]; rfl) rfl O b2
  · clear O
    have HB2 : Hid (Below w.heap.size w w2) := b2
    have HR1 : Hid (TextRow w.heap.size w2 g m cap (loTo xs 0)) := by show TextRow _ _ _ _ _ _; rw [loTo_zero]; exact r1
    clear b2 r1
    go_wp2_with fail
    go_loopw [17] (fun i wr => ∃ j : Nat, j ≤ m ∧ i = .int .i64 (j : Int) ∧ Hid (Below w.heap.size w wr) ∧ Hid (TextRow w.heap.size wr g m cap (loTo xs j))) (fun i _ => m - (intOf i).toNat)
    case atStart => exact ⟨0, Nat.zero_le _, rfl, HB2, HR1⟩
    case round =>
      obtain ⟨j, hj, rfl, HB, HR⟩ := hrel
      by_cases hlt : j < m
      · have hlt2 : (j : Int) < (m : Int) := by omega
        obtain ⟨x, hx⟩ : ∃ x, x = textAt xs j := ⟨_, rfl⟩
        have hc := HR.out.cell j hlt
        rw [loTo_at, ← hx] at hc
        have HST : Hid ((loTo xs j).set j (lowerOf x) = loTo xs (j + 1)) := by show _ = _; rw [hx]; exact loTo_step xs j (by rw [HM.out]; exact hlt)
        clear hx
        go_wp2_with fail
        refine (implLower_any x _).mono ?_
        rintro e w3 ⟨rfl, hb3⟩
        have hrow := HR.out.below hb3 HR.out.lt
        have hc3 := hrow.cell j hlt
        have hf3 := hrow.frozen j
        have HB3 : Hid (Below w.heap.size w (w3.setCell ⟨g, j, none⟩ (.string (lowerOf x)))) := (HB.out.trans (hb3.mono HB.out.size)).setCell HR.out.base _
        have HR3 : Hid (TextRow w.heap.size (w3.setCell ⟨g, j, none⟩ (.string (lowerOf x))) g m cap (loTo xs (j + 1))) := by
          show TextRow _ _ _ _ _ _
          rw [← HST.out]
          exact hrow.set j hlt _
        clear hb3 hrow HB HR HST hc
        go_wp2_with fail
        go_roundw
        case rel => exact ⟨j + 1, by omega, by go_num, HB3, HR3⟩
        case measure => simp [intOf]; omega
      · obtain rfl : j = m := by omega
        go_wp2_with fail
        go_ret
        exact RowIs.of (by rw [HE.out, loTo_all xs j (by rw [HM.out]; exact Nat.le_refl _)]) (by rw [loTo_all xs j (by rw [HM.out]; exact Nat.le_refl _), List.length_map, HM.out]) HR.out.owns HB.out

/-- What has been stored when these places have come. -/
def setTo (xs : List ByteArray) (fs : List (ByteArray × ByteArray)) (m : Nat) (pre : List (Fin m)) : List ByteArray := pre.foldl (fun acc j => acc.set j.1 (valOf fs (textAt xs j.1))) (List.replicate m ⟨#[]⟩)
theorem setTo_snoc (xs : List ByteArray) (fs : List (ByteArray × ByteArray)) (m : Nat) (pre : List (Fin m)) (j : Fin m) : setTo xs fs m (pre ++ [j]) = (setTo xs fs m pre).set j.1 (valOf fs (textAt xs j.1)) := by simp [setTo]
theorem setTo_take (xs : List ByteArray) (fs : List (ByteArray × ByteArray)) (m : Nat) (hl : xs.length = m) : ∀ k, k ≤ m → setTo xs fs m ((List.finRange m).take k) = valsP (xs.take k) fs ++ List.replicate (m - k) ⟨#[]⟩
  | 0, _ => by simp [setTo, valsP]
  | k + 1, h => by
    rw [fin_take m k (by omega), setTo_snoc, setTo_take xs fs m hl k (by omega), valsP_snoc xs fs k (by omega)]
    have e : m - k = (m - (k + 1)) + 1 := by omega
    rw [e, List.replicate_succ, List.set_append_right _ _ (by rw [valsP_len]; simp; omega), valsP_len]
    have e2 : k - (xs.take k).length = 0 := by simp; omega
    rw [e2, List.set_cons_zero]
    simp
theorem setTo_all (xs : List ByteArray) (fs : List (ByteArray × ByteArray)) (m : Nat) (hl : xs.length = m) : setTo xs fs m (List.finRange m) = valsP xs fs := by
  have h := setTo_take xs fs m hl m (Nat.le_refl _)
  rw [List.take_of_length_le (by simp), List.take_of_length_le (by omega)] at h
  rw [h]
  simp
theorem boxed_kept {W W' : World} {row : Option Nat} {B B0 : Nat} {t : TypeId} {v : Value} (h : Boxed W B t v) (hg : W.grownBy W' row) (hr : ∀ r, row = some r → B0 ≤ r ∧ ∃ o : Obj, W.heap[r]? = some o ∧ o.isCells = false) : Boxed W' B t v :=
  h.kept hg (fun e => by
    obtain ⟨_, o, ho, hc⟩ := hr B e.symm
    rw [show W.heap[B]? = _ from h] at ho
    cases ho
    cases hc)
theorem TextRow.kept {base : Nat} {W W' : World} {row : Option Nat} {g n cap B0 : Nat} {xs : List ByteArray} (h : TextRow base W g n cap xs) (hg : W.grownBy W' row) (hr : ∀ r, row = some r → B0 ≤ r ∧ ∃ o : Obj, W.heap[r]? = some o ∧ o.isCells = false) : TextRow base W' g n cap xs := by
  obtain ⟨cur, hh, hc⟩ := h.heap
  have := hg.size; have := h.lt
  refine ⟨h.len, h.base, by omega, h.le, h.mx, cur, ?_, hc⟩
  rw [hg.block g h.lt (fun e => by
    obtain ⟨_, o, ho, hc⟩ := hr g e.symm
    rw [hh] at ho
    cases ho
    cases hc)]
  exact hh
theorem boxed_setOther {W : World} {B : Nat} {t : TypeId} {v : Value} (h : Boxed W B t v) {a : Addr} (u : Value) (hne : B ≠ a.block) : Boxed (W.setCell a u) B t v := (Below.heap_setCell W a u B hne).trans h
set_option maxHeartbeats 2000000 in
set_option maxRecDepth 100000 in
theorem implValuesOf_any (oa : Option Addr) (m cm : Nat) (xs : List ByteArray) (v : Value) (n base : Nat) (fs : List (ByteArray × ByteArray)) (w : World) (hx : TextsA w oa m xs) (hm : m ≤ 1048577) (hv : FieldsV w base v n fs) (hn : n ≤ 1073741824) (hcp : CopyF fs) :
    Calls Tryz.prog 57 #[.slice oa m cm, v] w fun e w' => RowIs w.heap.size (valsP xs fs) w e w' := by
  obtain ⟨i0, hi, hz0, hz1, hz2⟩ := info_parts info9
  have HLEN : Hid (xs.length = m) := hx.1
  have HX : Hid (∀ W, Below w.heap.size w W → TextsA W oa m xs) := fun W h => hx.below h
  have HV : Hid (∀ W, Below w.heap.size w W → FieldsV W base v n fs) := fun W h => hv.below h
  obtain ⟨oc, cn, hvs, _⟩ := hv.slice
  clear hx hv
  subst hvs
  obtain ⟨M, hM⟩ : ∃ M, M = madeCells (Value.string ⟨#[]⟩).cells (((m : Nat) : Int).toNat * i0.size) := ⟨_, rfl⟩
  have hmk : ∀ W : World, (Instr.makeSlice 24 (.int .i64 (m : Int)) (.int .i64 (m : Int))).run Tryz.prog W = .ok (.slice (some ⟨W.heap.size, 0, none⟩) m m) (W.alloc (.cells M 9)) := fun W => by
    have h := run_make (P := Tryz.prog) W 24 9 i0 (.string ⟨#[]⟩) Tryz.underlying24 hi hz0 .i64 .i64 (m : Int) (m : Int) (by omega) (by omega) (by rw [hz2]; omega) (by omega)
    rw [← hM] at h
    simpa using h
  have HMl : Hid (M.toList = List.replicate m (.string ⟨#[]⟩)) := by
    show _ = _
    rw [hM, hz1, show ((m : Nat) : Int).toNat * 1 = m by omega]
    exact toList_madeCells_one (.string ⟨#[]⟩) m
  clear hM
  have H0 : Hid (∀ o1 o2 o3 : Obj, TextRow w.heap.size ((((w.alloc (.cells M 9)).alloc o1).alloc o2).alloc o3) w.heap.size m m (setTo xs fs m [])) := by
    intro o1 o2 o3
    have hms : M.size = m := by rw [← Array.length_toList, HMl.out]; simp
    refine ⟨by simp [setTo], Nat.le_refl _, by simp; omega, Nat.le_refl _, by unfold maxLen; omega, M, ?_, hms, fun i hi => ?_⟩
    · rw [Below.heap_alloc _ _ _ (by simp; omega), Below.heap_alloc _ _ _ (by simp; omega), Below.heap_alloc _ _ _ (by simp)]
      exact World.alloc_heap_new w _
    · rw [← Array.getElem?_toList, HMl.out]
      simp [setTo, textAt, List.getD_eq_getElem?_getD, hi]
  refine (callsIn_wide (n := 4)).1 ?_
  refine callsIn_of_wp_marks Tryz.func57 rfl trivial ?_ rfl
  simp only [Tryz.ntmps57, List.size_toArray, List.length_cons, List.length_nil, Nat.reduceAdd, Nat.reduceSub, Array.replicate_succ, Array.replicate_zero, List.push_toArray, List.append_toArray, List.nil_append, List.cons_append]
  gi_wp2_with fail
  refine ⟨trivial, (callsIn_wide.2 (toldValues_any oa m cm oc n cn _)).mono ?_⟩
  rintro e w1 ⟨rfl, rfl⟩
  gi_wp2_with fail
  obtain ⟨W4, hW4⟩ : ∃ W4, ((((w.alloc (Obj.cells M 9)).alloc (Obj.cells #[Value.slice (some ⟨w.heap.size, 0, none⟩) m m] 24)).alloc (Obj.cells #[Value.slice oa m cm] 24)).alloc (Obj.cells #[Value.slice oc n cn] 25)) = W4 := ⟨_, rfl⟩
  have r0 : TextRow w.heap.size W4 w.heap.size m m (setTo xs fs m []) := by rw [← hW4]; exact H0.out _ _ _
  have x1 : Boxed W4 (w.heap.size + 1) 24 (.slice (some ⟨w.heap.size, 0, none⟩) m m) := by
    rw [← hW4]
    have h := ((Boxed.new (w.alloc (Obj.cells M 9)) 24 (.slice (some ⟨w.heap.size, 0, none⟩) m m)).alloc (Obj.cells #[Value.slice oa m cm] 24)).alloc (Obj.cells #[Value.slice oc n cn] 25)
    simpa using h
  have x2 : Boxed W4 (w.heap.size + 1 + 1) 24 (.slice oa m cm) := by
    rw [← hW4]
    have h := (Boxed.new ((w.alloc (Obj.cells M 9)).alloc (Obj.cells #[Value.slice (some ⟨w.heap.size, 0, none⟩) m m] 24)) 24 (.slice oa m cm)).alloc (Obj.cells #[Value.slice oc n cn] 25)
    simpa using h
  have x3 : Boxed W4 (w.heap.size + 1 + 1 + 1) 25 (.slice oc n cn) := by
    rw [← hW4]
    have h := Boxed.new (((w.alloc (Obj.cells M 9)).alloc (Obj.cells #[Value.slice (some ⟨w.heap.size, 0, none⟩) m m] 24)).alloc (Obj.cells #[Value.slice oa m cm] 24)) 25 (.slice oc n cn)
    simpa using h
  have hs4 : W4.heap.size = w.heap.size + 4 := by rw [← hW4]; simp
  have hB0 : Below w.heap.size w W4 := by rw [← hW4]; exact ((((Below.refl _ w).alloc (Nat.le_refl _) _).alloc (by simp) _).alloc (by simp; omega) _).alloc (by simp; omega) _
  rw [hW4]
  clear hW4 H0 hmk HMl
  refine wpIn_rangeFunc_ownG rfl (by omega) (gf := 119) (lb := #[.pointer (some ⟨w.heap.size + 1 + 1, 0, none⟩), .pointer (some ⟨w.heap.size + 1 + 1 + 1, 0, none⟩)]) rfl trivial (enters_of Tryz.func119 (by kernel_rfl) rfl)
    (told_stops (4 - 1) (by omega) (w.heap.size + 1 + 1) (w.heap.size + 1 + 1 + 1) w.heap.size oa m cm xs (.slice oc n cn) n base fs w W4 hm hn hcp (by omega) HX.out HV.out hB0 x2 x3) KeepL.trans (keepL_b (by omega) (by omega)) (Below.refl _ _) (fun _ => rfl)
    (fun pre W => (Boxed W (w.heap.size + 1) 24 (.slice (some ⟨w.heap.size, 0, none⟩) m m) ∧ TextRow w.heap.size W w.heap.size m m (setTo xs fs m pre)) ∧ Below w.heap.size w W)
    (fun _ _ _ => False)
    (OwnFrom.and (fun s A B row hs hg hr => ⟨boxed_kept hs.1 hg hr, hs.2.kept hg hr⟩) (ownFrom_below (Nat.le_refl _) (by omega)))
    (fun _ _ _ _ _ hs _ _ => hs)
    ⟨⟨x1, r0⟩, hB0⟩
    (fun x => { tmps := #[.slice oa m cm, .slice oc n cn, undef, undef, .slice none 0 0, .pointer (some ⟨w.heap.size + 1, 0, none⟩), .int .i64 ((x.1 : Nat) : Int), .string (valOf fs (textAt xs x.1)), .slice oa m cm, .int .i64 (m : Int), .slice (some ⟨w.heap.size, 0, none⟩) m m, .slice oa m cm, .slice oc n cn, .func (.func 119) #[] #[.pointer (some ⟨w.heap.size + 1 + 1, 0, none⟩), .pointer (some ⟨w.heap.size + 1 + 1 + 1, 0, none⟩)], .int .i64 ((x.1 : Nat) : Int), .string (valOf fs (textAt xs x.1)), undef, undef, undef, undef, undef], defers := [] }) ?assign ?body ?done ?stop
  case assign =>
    intro l x W K hK
    simp only [toldV]
    gi_wp2
    exact hK
  case body =>
    rintro l pre x W ⟨⟨hb, hr⟩, hB⟩ _
    have hxm : ((x.1 : Nat) : Int) < (m : Int) := by have := x.2; omega
    have hc := hb.cell
    have hcx := hr.cell x.1 x.2
    have hf := hr.frozen x.1
    have HS : Hid (setTo xs fs m (pre ++ [x]) = (setTo xs fs m pre).set x.1 (valOf fs (textAt xs x.1))) := setTo_snoc _ _ _ _ _
    obtain ⟨y, hy⟩ : ∃ y, y = valOf fs (textAt xs x.1) := ⟨_, rfl⟩
    rw [← hy] at HS ⊢
    have HI : Hid (((Boxed (W.setCell ⟨w.heap.size, x.1, none⟩ (.string y)) (w.heap.size + 1) 24 (.slice (some ⟨w.heap.size, 0, none⟩) m m) ∧ TextRow w.heap.size (W.setCell ⟨w.heap.size, x.1, none⟩ (.string y)) w.heap.size m m (setTo xs fs m (pre ++ [x]))) ∧ Below w.heap.size w (W.setCell ⟨w.heap.size, x.1, none⟩ (.string y)))) :=
      ⟨⟨boxed_setOther hb _ (by simp), by rw [HS.out]; exact hr.set x.1 x.2 _⟩, hB.setCell (p := ⟨w.heap.size, x.1, none⟩) (Nat.le_refl _) _⟩
    clear hb hr hB HS hy
    gi_wp2
    exact ⟨(KeepsOthers.setCell _ _ _).from _, ⟨(Below.refl _ W).setCell (p := ⟨w.heap.size, x.1, none⟩) (Nat.le_refl _) _, Below.heap_setCell _ _ _ _ (by simp; omega)⟩, HI.out⟩
  case done =>
    rintro D ys W hD rfl ⟨⟨hb, hr⟩, hB⟩ hK
    have hc := hb.cell
    gi_wp2
    refine ⟨by simp, .inl ⟨_, _, rfl, run_takeDeferred hK, ?_⟩⟩
    exact ⟨_, results_tmp rfl _ _ _, RowIs.of (setTo_all xs fs m HLEN.out) hr.len.symm (ownsRow_putObj hr.owns _ hK rfl) (hB.trans (belowK_b (w := w) (Nat.le_refl _) W D _ _ (by omega) hK rfl rfl))⟩
  case stop =>
    rintro D c pre W _ _ h _
    exact h.elim

open Classical in
theorem contains_any (oa : Option Addr) (m cm : Nat) (xs : List ByteArray) (x : ByteArray) (w : World) (hx : TextsA w oa m xs) (hm : m ≤ 2000000) :
    Calls Tryz.prog 66 #[.slice oa m cm, .string x] w fun e w' => e = .returned (.bool (decide (x ∈ xs))) ∧ w' = w := by
  by_cases h0 : m = 0
  · subst h0
    refine (Tryz.slices_Contains_string_empty oa cm x w).mono ?_
    rintro e w1 ⟨rfl, rfl⟩
    refine ⟨?_, rfl⟩
    rw [List.length_eq_zero_iff.1 hx.1]
    simp
  · obtain ⟨g, rfl, _, _⟩ := hx.2 0 (by omega)
    refine (Tryz.slices_Contains_string g 0 m cm xs x w (by rw [hx.1]; exact Nat.le_refl _) (by omega) (fun j hj => ?_)).mono ?_
    · obtain ⟨g2, e2, _, h3⟩ := hx.2 j (by rw [← hx.1]; exact hj)
      cases e2
      rw [Nat.zero_add]
      exact h3
    · rintro e w1 ⟨rfl, rfl⟩
      refine ⟨?_, rfl⟩
      rw [List.take_of_length_le (by rw [hx.1]; exact Nat.le_refl _)]
      by_cases h : x ∈ xs
      · rw [(Go.Lib.containsS_iff xs x).2 h, decide_eq_true h]
      · rw [decide_eq_false h, Bool.eq_false_iff.2 (fun hc => h ((Go.Lib.containsS_iff xs x).1 hc))]

set_option maxHeartbeats 2000000 in
set_option maxRecDepth 100000 in
theorem implSuits_any (oa ob : Option Addr) (m cm k ck : Nat) (xs ys : List ByteArray) (v : Value) (n base : Nat) (fs : List (ByteArray × ByteArray)) (w : World) (hx : TextsA w oa m xs) (hm : m ≤ 1048577) (hy : TextsA w ob k ys) (hv : FieldsV w base v n fs) (hn : n ≤ 1073741824) (hcp : CopyF fs) (hk : k ≤ 1048577) :
    Calls Tryz.prog 20 #[.slice oa m cm, .slice ob k ck, v] w fun e w' => e = .returned (.bool (suitsP xs ys fs)) ∧ Below w.heap.size w w' := by
  classical
  have HLX : Hid (xs.length = m) := hx.1
  have HLY : Hid (ys.length = k) := hy.1
  have HX : Hid (∀ W, Below w.heap.size w W → TextsA W oa m xs) := fun W h => hx.below h
  have HY : Hid (∀ W, Below w.heap.size w W → TextsA W ob k ys) := fun W h => hy.below h
  have HV : Hid (∀ W, Below w.heap.size w W → FieldsV W base v n fs) := fun W h => hv.below h
  obtain ⟨oc, cn, hvs, _⟩ := hv.slice
  clear hx hv hy
  subst hvs
  obtain ⟨b, hb⟩ : ∃ b, b = suitsP xs ys fs := ⟨_, rfl⟩
  rw [← hb]
  have HSU : Hid (b = suitsP xs ys fs) := hb
  clear hb
  have HB2 : Hid (Below w.heap.size w ((w.alloc (Obj.cells #[Value.slice ob k ck] 24)).alloc (Obj.cells #[Value.bool false] 4))) := ((Below.refl _ w).alloc (Nat.le_refl _) _).alloc (by simp) _
  have HXB : Hid (Boxed ((w.alloc (Obj.cells #[Value.slice ob k ck] 24)).alloc (Obj.cells #[Value.bool false] 4)) (w.heap.size + 1) 4 (.bool false)) := by
    have h := Boxed.new (w.alloc (Obj.cells #[Value.slice ob k ck] 24)) 4 (.bool false)
    rw [World.size_alloc] at h
    exact h
  refine (callsIn_wide (n := 4)).1 ?_
  refine callsIn_of_wp_marks Tryz.func20 rfl trivial ?_ rfl
  simp only [Tryz.ntmps20, List.size_toArray, List.length_cons, List.length_nil, Nat.reduceAdd, Nat.reduceSub, Array.replicate_succ, Array.replicate_zero, List.push_toArray, List.append_toArray, List.nil_append, List.cons_append]
  by_cases hmk : m = k
  · subst hmk
    gi_wp2_with fail
    refine ⟨trivial, (callsIn_wide.2 (contains_any oa m cm xs starT _ (HX.out _ HB2.out) (by omega))).mono ?_⟩
    rintro e w1 ⟨rfl, rfl⟩
    by_cases hst : starT ∈ xs
    · rw [decide_eq_true hst]
      have HE : Hid (b = false) := by show _ = _; rw [HSU.out]; unfold suitsP; exact decide_eq_false (fun h => h.1 hst)
      clear hst
      gi_wp2
      refine ⟨.bool false, ?_, by rw [HE.out], HB2.out⟩
      have hc5 := HXB.out.cell
      simp [results, Tryz.f20, go_sem, hc5]
    · rw [decide_eq_false hst]
      have HST : Hid (starT ∉ xs) := hst
      clear hst
      gi_wp2_with fail
      refine ⟨trivial, (callsIn_wide.2 (toldValues_any oa m cm oc n cn _)).mono ?_⟩
      rintro e w1 ⟨rfl, rfl⟩
      gi_wp2_with fail
      obtain ⟨W4, hW4⟩ : ∃ W4, ((((w.alloc (Obj.cells #[Value.slice ob m ck] 24)).alloc (Obj.cells #[Value.bool false] 4)).alloc (Obj.cells #[Value.slice oa m cm] 24)).alloc (Obj.cells #[Value.slice oc n cn] 25)) = W4 := ⟨_, rfl⟩
      have x0 : Boxed W4 w.heap.size 24 (.slice ob m ck) := by
        rw [← hW4]
        exact (((Boxed.new w 24 (.slice ob m ck)).alloc _).alloc _).alloc _
      have x1 : Boxed W4 (w.heap.size + 1) 4 (.bool false) := by
        rw [← hW4]
        exact (HXB.out.alloc _).alloc _
      have x2 : Boxed W4 (w.heap.size + 1 + 1) 24 (.slice oa m cm) := by
        rw [← hW4]
        have h := (Boxed.new ((w.alloc (Obj.cells #[Value.slice ob m ck] 24)).alloc (Obj.cells #[Value.bool false] 4)) 24 (.slice oa m cm)).alloc (Obj.cells #[Value.slice oc n cn] 25)
        simpa using h
      have x3 : Boxed W4 (w.heap.size + 1 + 1 + 1) 25 (.slice oc n cn) := by
        rw [← hW4]
        have h := Boxed.new (((w.alloc (Obj.cells #[Value.slice ob m ck] 24)).alloc (Obj.cells #[Value.bool false] 4)).alloc (Obj.cells #[Value.slice oa m cm] 24)) 25 (.slice oc n cn)
        simpa using h
      have hs4 : W4.heap.size = w.heap.size + 4 := by rw [← hW4]; simp
      have hB0 : Below w.heap.size w W4 := by rw [← hW4]; exact (HB2.out.alloc (by simp; omega) _).alloc (by simp; omega) _
      rw [hW4]
      clear hW4 HB2 HXB
      refine wpIn_rangeFunc_ownG rfl (by omega) (gf := 119) (lb := #[.pointer (some ⟨w.heap.size + 1 + 1, 0, none⟩), .pointer (some ⟨w.heap.size + 1 + 1 + 1, 0, none⟩)]) rfl trivial (enters_of Tryz.func119 (by kernel_rfl) rfl)
        (told_stops (4 - 1) (by omega) (w.heap.size + 1 + 1) (w.heap.size + 1 + 1 + 1) w.heap.size oa m cm xs (.slice oc n cn) n base fs w W4 hm hn hcp (by omega) HX.out HV.out hB0 x2 x3) KeepL.trans (keepL_b (by omega) (by omega)) (Below.refl _ _) (fun _ => rfl)
        (fun pre W => (Boxed W w.heap.size 24 (.slice ob m ck) ∧ Boxed W (w.heap.size + 1) 4 (.bool false) ∧ ∀ j ∈ pre, valOf fs (textAt xs j.1) = textAt ys j.1) ∧ Below w.heap.size w W)
        (fun c pre W => (Boxed W (w.heap.size + 1) 4 (.bool false) ∧ c = .ret ∧ ∃ j : Fin m, valOf fs (textAt xs j.1) ≠ textAt ys j.1) ∧ Below w.heap.size w W)
        (OwnFrom.and (fun s A B row hs hg hr => ⟨boxed_kept hs.1 hg hr, boxed_kept hs.2.1 hg hr, hs.2.2⟩) (ownFrom_below (Nat.le_refl _) (by omega)))
        (fun c => OwnFrom.and (fun s A B row hs hg hr => ⟨boxed_kept hs.1 hg hr, hs.2⟩) (ownFrom_below (Nat.le_refl _) (by omega)))
        ⟨⟨x0, x1, fun j hj => by cases hj⟩, hB0⟩
        (fun x => { tmps := #[.slice oa m cm, .slice ob m ck, .slice oc n cn, undef, .pointer (some ⟨w.heap.size, 0, none⟩), undef, .pointer (some ⟨w.heap.size + 1, 0, none⟩), .int .i64 ((x.1 : Nat) : Int), .string (valOf fs (textAt xs x.1)), .slice oa m cm, .int .i64 (m : Int), .slice ob m ck, .int .i64 (m : Int), .bool false, .bool false, .slice oa m cm, .bool false, .bool false, .slice oa m cm, .slice oc n cn, .func (.func 119) #[] #[.pointer (some ⟨w.heap.size + 1 + 1, 0, none⟩), .pointer (some ⟨w.heap.size + 1 + 1 + 1, 0, none⟩)], .int .i64 ((x.1 : Nat) : Int), .string (valOf fs (textAt xs x.1)), undef, undef, undef, undef, undef, undef], defers := [] }) ?assign ?body ?done ?stop
      case assign =>
        intro l x W K hK
        simp only [toldV]
        gi_wp2
        exact hK
      case body =>
        rintro l pre x W ⟨⟨hb0, hb1, hall⟩, hB⟩ _
        have hxm : ((x.1 : Nat) : Int) < (m : Int) := by have := x.2; omega
        have hc0 := hb0.cell
        have hc1 := hb1.cell
        have hf1 := hb1.frozen
        obtain ⟨g2, hob, _, hcy⟩ := (HY.out W hB).2 x.1 x.2
        subst hob
        have HALL : Hid (∀ j ∈ pre, valOf fs (textAt xs j.1) = textAt ys j.1) := hall
        obtain ⟨y, hy⟩ : ∃ y, y = valOf fs (textAt xs x.1) := ⟨_, rfl⟩
        obtain ⟨z, hz⟩ : ∃ z, z = textAt ys x.1 := ⟨_, rfl⟩
        rw [← hy]
        rw [← hz] at hcy
        have HYy : Hid (y = valOf fs (textAt xs x.1)) := hy
        have HZz : Hid (z = textAt ys x.1) := hz
        clear hy hz hall
        by_cases he : y = z
        · have HI : Hid (∀ j ∈ pre ++ [x], valOf fs (textAt xs j.1) = textAt ys j.1) := by
            intro j hj
            rcases List.mem_append.1 hj with h | h
            · exact HALL.out j h
            · rw [List.mem_singleton.1 h, ← HYy.out, ← HZz.out, he]
          subst he
          clear HYy HZz HALL
          gi_wp2
          exact ⟨KeepsFrom.refl _ _, ⟨Below.refl _ _, rfl⟩, ⟨hb0, hb1, HI.out⟩, hB⟩
        · have t0 : (y.toList == z.toList) = false := text_beq_no he
          have t1 : (y.toList != z.toList) = true := by rw [bne, t0]; rfl
          have HE : Hid (∃ j : Fin m, valOf fs (textAt xs j.1) ≠ textAt ys j.1) := ⟨x, by rw [← HYy.out, ← HZz.out]; exact he⟩
          clear HYy HZz HALL he
          gi_wp2
          exact ⟨(KeepsOthers.setCell _ _ _).from _, ⟨hb1.set _, rfl, HE.out⟩, hB.setCell (p := ⟨w.heap.size + 1, 0, none⟩) (by simp) _⟩
      case done =>
        rintro D zs W hD rfl ⟨⟨hb0, hb1, hall⟩, hB⟩ hK
        have hc1 := hb1.cell
        have hf1 := hb1.frozen
        have HE : Hid (b = true) := by
          show _ = _
          rw [HSU.out]
          unfold suitsP
          refine decide_eq_true ⟨HST.out, List.ext_getElem (by rw [valsP_len, HLX.out, HLY.out]) (fun i h1 h2 => ?_)⟩
          have hi : i < m := by rw [valsP_len, HLX.out] at h1; exact h1
          have h := hall ⟨i, hi⟩ (List.mem_finRange _)
          simp only [valsP, List.getElem_map]
          have e1 : textAt xs i = xs[i]'(by rw [HLX.out]; exact hi) := by unfold textAt; rw [List.getD_eq_getElem?_getD, List.getElem?_eq_getElem (by rw [HLX.out]; exact hi)]; rfl
          have e2 : textAt ys i = ys[i]'h2 := by unfold textAt; rw [List.getD_eq_getElem?_getD, List.getElem?_eq_getElem h2]; rfl
          rw [← e1, ← e2]
          exact h
        have HB5 : Hid (Below w.heap.size w W) := hB
        have HK : Hid (W.heap[D]? = some (.deferred (some []))) := hK
        have HX1 : Hid (Boxed W (w.heap.size + 1) 4 (.bool false)) := hb1
        clear hall hB hK hb1 hb0
        gi_wp2
        have hK' := (KeepsOthers.setCell W ⟨w.heap.size + 1, 0, none⟩ (.bool true)).same D _ HK.out rfl
        refine ⟨by simp, .inl ⟨_, _, rfl, run_takeDeferred hK', ?_⟩⟩
        have hc5 := cell_kept (HX1.out.set (.bool true)).cell (grownBy_putObj' _ D (.deferred none)) (fun r e => by cases e; exact ⟨_, hK', rfl⟩)
        refine ⟨.bool true, ?_, by rw [HE.out], (HB5.out.setCell (p := ⟨w.heap.size + 1, 0, none⟩) (by simp) _).trans (belowK_b (w := w) (Nat.le_refl _) _ D _ _ (by omega) hK' rfl rfl)⟩
        simp [results, Tryz.f20, go_sem, hc5]
      case stop =>
        rintro D c pre W hD hpre ⟨⟨hb1, rfl, j, hj⟩, hB⟩ hK
        have HE : Hid (b = false) := by
          show _ = _
          rw [HSU.out]
          unfold suitsP
          refine decide_eq_false (fun h => hj ?_)
          have e := h.2
          have h1 : j.1 < xs.length := by rw [HLX.out]; exact j.2
          have h2 : j.1 < ys.length := by rw [HLY.out]; exact j.2
          unfold textAt
          rw [List.getD_eq_getElem?_getD, List.getD_eq_getElem?_getD, List.getElem?_eq_getElem h1, List.getElem?_eq_getElem h2]
          have e3 : (valsP xs fs)[j.1]? = ys[j.1]? := by rw [e]
          unfold valsP at e3
          rw [List.getElem?_map, List.getElem?_eq_getElem h1, List.getElem?_eq_getElem h2] at e3
          simpa using e3
        gi_wp2
        refine ⟨by simp, .inl ⟨_, _, rfl, run_takeDeferred hK, ?_⟩⟩
        have hc5 := cell_kept hb1.cell (grownBy_putObj' _ D (.deferred none)) (fun r e => by cases e; exact ⟨_, hK, rfl⟩)
        refine ⟨.bool false, ?_, by rw [HE.out], hB.trans (belowK_b (w := w) (Nat.le_refl _) W D _ _ (by omega) hK rfl rfl)⟩
        simp [results, Tryz.f20, go_sem, hc5]
  · have HE : Hid (b = false) := by
      show _ = _; rw [HSU.out]; unfold suitsP
      refine decide_eq_false (fun h => hmk ?_)
      rw [← HLX.out, ← HLY.out, ← h.2, valsP_len]
    have hmi : ((m : Int) != (k : Int)) = true := by simp; omega
    gi_wp2
    refine ⟨trivial, ?_⟩
    gi_wp2
    refine ⟨.bool false, ?_, by rw [HE.out], HB2.out⟩
    have hc5 := HXB.out.cell
    simp [results, Tryz.f20, go_sem, hc5]

end Go.Proofs.YtdlhicdfldecgaaGreatDoor

namespace Go.Proofs.YtdlhicdfldecgaaGreatDoor
open Go.RowKit
open Go.Lib hiding intOf

theorem LenOk.grown {w w' : World} {b : Nat} (h : LenOk w) (hg : w.grownBy w' (some b)) (hb : 1 ≠ b) : LenOk w' := by
  have hlt := h.lt
  obtain ⟨m, hm⟩ := h
  refine ⟨m, ?_⟩
  rw [← hm]
  unfold World.cell?
  rw [hg.block _ hlt (fun e => hb (Option.some.inj e))]
theorem RdX.set {w : World} {b : Nat} {left : ByteArray} {tl : List Value} {T : TypeId} (h : RdX w b left tl T) (k : Nat) (x : Value) : RdX (w.setCell ⟨b, k + 1, none⟩ x) b left (tl.set k x) T := by
  have h2 := heap_set w b (k + 1) _ _ _ x h
  unfold RdX
  simpa using h2
theorem RdX.at {w : World} {b : Nat} {left : ByteArray} {tl : List Value} {T : TypeId} (h : RdX w b left tl T) (k : Nat) : w.cell? ⟨b, k + 1, none⟩ = tl[k]? := by
  unfold RdX at h
  simp [World.cell?, h]
theorem RdX.fr {w : World} {b : Nat} {left : ByteArray} {tl : List Value} {T : TypeId} (h : RdX w b left tl T) (k : Nat) : w.frozen? ⟨b, k, none⟩ = false := by
  unfold RdX at h
  simp [World.frozen?, h]
theorem RdX.lt {w : World} {b : Nat} {left : ByteArray} {tl : List Value} {T : TypeId} (h : RdX w b left tl T) : b < w.heap.size := (Array.getElem?_eq_some_iff.1 h).1
theorem RdX.below {w w' : World} {b : Nat} {left : ByteArray} {tl : List Value} {T : TypeId} (h : RdX w b left tl T) (hb : Below w.heap.size w w') : RdX w' b left tl T := (hb.block b h.lt).trans h

end Go.Proofs.YtdlhicdfldecgaaGreatDoor

namespace Go.Proofs.YtdlhicdfldecgaaGreatDoor
open Go.RowKit
open Go.Lib hiding intOf

theorem pair_at (fs : List (ByteArray × ByteArray)) (k : Nat) (h : k < fs.length) : (nameAt fs k, valAt fs k) = fs[k] := by
  unfold nameAt valAt
  rw [List.getD_eq_getElem?_getD, List.getElem?_eq_getElem h]
  rfl
theorem dropTo_none (fs : List (ByteArray × ByteArray)) : ∀ k, k ≤ fs.length → dropTo fs (-1) k = fs.take k := by
  intro k
  induction k with
  | zero => intro _; rfl
  | succ k ih =>
    intro hk
    rw [dropTo, if_neg (by omega), ih (by omega), pair_at fs k (by omega), List.take_append_getElem (by omega)]
theorem dropTo_at (fs : List (ByteArray × ByteArray)) (a : Nat) : ∀ k, k ≤ fs.length → dropTo fs (a : Int) k = (if a < k then (fs.take k).eraseIdx a else fs.take k) := by
  intro k
  induction k with
  | zero => intro _; rfl
  | succ k ih =>
    intro hk
    have ht : fs.take (k + 1) = fs.take k ++ [fs[k]] := (List.take_append_getElem (by omega)).symm
    have hl : (fs.take k).length = k := by rw [List.length_take]; omega
    rw [dropTo, ih (by omega), pair_at fs k (by omega), ht]
    by_cases e : k = a
    · subst e
      rw [if_pos rfl, if_neg (by omega), if_pos (by omega), List.eraseIdx_append_of_length_le (by omega), hl, Nat.sub_self]
      simp
    · rw [if_neg (by omega)]
      by_cases c : a < k
      · rw [if_pos c, if_pos (by omega), List.eraseIdx_append_of_lt_length (by omega)]
      · rw [if_neg c, if_neg (by omega)]
theorem dropF_eq (fs : List (ByteArray × ByteArray)) (name : ByteArray) : dropF fs name = (if atF fs name < fs.length then fs.eraseIdx (atF fs name) else fs) := by
  unfold dropF atI
  by_cases h : atF fs name < fs.length
  · rw [if_pos h, if_pos h, dropTo_at fs _ _ (Nat.le_refl _), if_pos h, List.take_length]
  · rw [if_neg h, if_neg h, dropTo_none fs _ (Nat.le_refl _), List.take_length]
theorem putF_eq (fs : List (ByteArray × ByteArray)) (name value : ByteArray) (h : atF fs name < fs.length) : putF fs name value = fs.set (atF fs name) (name, value) := by
  unfold putF
  rw [if_pos h, atF_here fs name h]

end Go.Proofs.YtdlhicdfldecgaaGreatDoor

namespace Go.Proofs.YtdlhicdfldecgaaGreatDoor
open Go.RowKit
open Go.Lib hiding intOf

theorem ShortF.name {fs : List (ByteArray × ByteArray)} (h : ShortF fs) (i : Nat) (hi : i < fs.length) : (nameAt fs i).size ≤ 64 ∧ (valAt fs i).size ≤ 64 := by
  have := h (nameAt fs i, valAt fs i) (by rw [pair_at fs i hi]; exact List.getElem_mem hi)
  exact this
theorem ShortF.put {fs : List (ByteArray × ByteArray)} (h : ShortF fs) {name value : ByteArray} (h1 : name.size ≤ 64) (h2 : value.size ≤ 64) : ShortF (putF fs name value) := by
  by_cases hin : atF fs name < fs.length
  · rw [putF_eq fs name value hin]
    intro f hf
    rcases List.mem_or_eq_of_mem_set hf with hf | hf
    · exact h f hf
    · subst hf; exact ⟨h1, h2⟩
  · have hp : putF fs name value = fs ++ [(name, value)] := by unfold putF; rw [if_neg hin]
    rw [hp]; exact h.snoc h1 h2
theorem ShortF.drop {fs : List (ByteArray × ByteArray)} (h : ShortF fs) (name : ByteArray) : ShortF (dropF fs name) := by
  rw [dropF_eq]
  split
  · intro f hf; exact h f (List.mem_of_mem_eraseIdx hf)
  · exact h
theorem ShortF.copy {fs : List (ByteArray × ByteArray)} (h : ShortF fs) : CopyF fs := fun i hi => by
  have := h.name i hi
  omega
theorem put_len (fs : List (ByteArray × ByteArray)) (name value : ByteArray) : (putF fs name value).length ≤ fs.length + 1 := by
  unfold putF
  split
  · rw [List.length_set]; omega
  · rw [List.length_append]; simp
theorem drop_len (fs : List (ByteArray × ByteArray)) (name : ByteArray) : (dropF fs name).length ≤ fs.length := by
  rw [dropF_eq]
  split
  · rw [List.length_eraseIdx]; split <;> omega
  · exact Nat.le_refl _

end Go.Proofs.YtdlhicdfldecgaaGreatDoor

namespace Go.Proofs.YtdlhicdfldecgaaGreatDoor
open Go.RowKit
open Go.Lib hiding intOf

theorem shortWalk {fs : List (ByteArray × ByteArray)} (h : ShortF fs) : WalkF fs.length fs := fun i hi => by
  have := h.name i hi
  unfold maxLen
  omega
theorem short_get2 {fs : List (ByteArray × ByteArray)} (h : ShortF fs) (x : ByteArray) : (getV fs x).size ≤ 64 := by
  unfold getV
  split
  · rename_i hin; exact (h.name _ hin).2
  · decide

end Go.Proofs.YtdlhicdfldecgaaGreatDoor

namespace Go.Proofs.YtdlhicdfldecgaaGreatDoor
open Go.RowKit
open Go.Lib hiding intOf

/-- A request and an answer are drawn. -/
def DrawnQP (w : World) (e : Ending) (w' : World) : Prop :=
  ∃ (m : Int) (p : ByteArray) (v : Value) (fs : List (ByteArray × ByteArray)) (b : ByteArray) (st : Int) (u : Value) (gs : List (ByteArray × ByteArray)) (d : ByteArray),
    e = .returned (.tuple #[.agg #[.int .i64 m, .string p, v, .string b], .agg #[.int .i64 st, u, .string d]]) ∧ (-1000 ≤ m ∧ m ≤ 1000) ∧ p.size ≤ 64 ∧ w'.ownsRow w.heap.size 131 2 v fs.length (flatF fs) ∧ fs.length ≤ 40 ∧ ShortF fs ∧ b.size ≤ 140 ∧
    (-1000 ≤ st ∧ st ≤ 1000) ∧ w'.ownsRow w.heap.size 131 2 u gs.length (flatF gs) ∧ gs.length ≤ 40 ∧ ShortF gs ∧ d.size ≤ 140 ∧ (∀ j, v.ownBlock = some j → u.ownBlock ≠ some j) ∧ Below w.heap.size w w'

theorem four_other (W : World) (r j : Nat) (a b c d : Value) (h : j ≠ r) : (fourSet W r a b c d).heap[j]? = W.heap[j]? := by
  unfold fourSet
  rw [heap_setCell_other _ _ j _ h, heap_setCell_other _ _ j _ h, heap_setCell_other _ _ j _ h, heap_setCell_other _ _ j _ h]
theorem three_otherD (W : World) (r j : Nat) (a b c : Value) (h : j ≠ r) : (threeSet W r a b c).heap[j]? = W.heap[j]? := by
  unfold threeSet
  rw [heap_setCell_other _ _ j _ h, heap_setCell_other _ _ j _ h, heap_setCell_other _ _ j _ h]

set_option maxHeartbeats 2000000 in
set_option maxRecDepth 100000 in
theorem l9Draw_any (a : Option Addr) (len cap : Nat) (zs : List Int) (w : World) (hcode : CodeAt w w.heap.size a len zs) :
    Calls Tryz.prog 55 #[.slice a len cap] w fun e w' => DrawnQP w e w' := by
  obtain ⟨R, hR⟩ : ∃ R, R = w.heap.size := ⟨_, rfl⟩
  have HRE : Hid (w.heap.size = R) := hR.symm
  obtain ⟨W0, hW0⟩ : ∃ W, W = (w.alloc (.cells #[.int .i64 0, .string ⟨#[]⟩, .slice none 0 0, .string ⟨#[]⟩] 39)).alloc (.cells #[.int .i64 0, .slice none 0 0, .string ⟨#[]⟩] 27) := ⟨_, rfl⟩
  have HW0 : Hid ((w.alloc (.cells #[.int .i64 0, .string ⟨#[]⟩, .slice none 0 0, .string ⟨#[]⟩] 39)).alloc (.cells #[.int .i64 0, .slice none 0 0, .string ⟨#[]⟩] 27) = W0) := hW0.symm
  have hs0 : W0.heap.size = R + 1 + 1 := by rw [hW0, hR]; simp
  have b0 : Below R w W0 := by rw [hW0, hR]; exact ((Below.refl _ w).alloc (Nat.le_refl _) _).alloc (by simp) _
  have H0 : Hid (W0.heap[R]? = some (.cells #[.int .i64 0, .string ⟨#[]⟩, .slice none 0 0, .string ⟨#[]⟩] 39) ∧ W0.heap[R + 1]? = some (.cells #[.int .i64 0, .slice none 0 0, .string ⟨#[]⟩] 27)) := by
    have s1 : (w.alloc (.cells #[.int .i64 0, .string ⟨#[]⟩, .slice none 0 0, .string ⟨#[]⟩] 39)).heap.size = R + 1 := by rw [hR]; simp
    have e0 := heap_alloc_new w (.cells #[.int .i64 0, .string ⟨#[]⟩, .slice none 0 0, .string ⟨#[]⟩] 39)
    have e1 := heap_alloc_new (w.alloc (.cells #[.int .i64 0, .string ⟨#[]⟩, .slice none 0 0, .string ⟨#[]⟩] 39)) (.cells #[.int .i64 0, .slice none 0 0, .string ⟨#[]⟩] 27)
    rw [← hR] at e0
    rw [s1, ← hW0] at e1
    have c1 : Below (R + 1) (w.alloc (.cells #[.int .i64 0, .string ⟨#[]⟩, .slice none 0 0, .string ⟨#[]⟩] 39)) W0 := by rw [hW0, ← s1]; exact (Below.refl _ _).alloc (Nat.le_refl _) _
    exact ⟨by rw [c1.block R (by omega)]; exact e0, e1⟩
  have HCO : Hid (∀ W, Below R w W → CodeAt W R a len zs) := by rw [hR]; exact fun W h => hcode.below h
  obtain ⟨c, hc⟩ : ∃ c, c = W0.heap.size := ⟨_, rfl⟩
  have hcR : R + 1 < c := by omega
  have hco0 := HCO.out W0 b0
  have HB0 : Hid (Below R w W0) := b0
  clear hW0 hcode b0 hs0
  go_enter Tryz.func55, Tryz.ntmps55
  go_upto_region 1 with fail
  rw [HW0.out, ← hR]
  clear hR HW0
  go_wp2_with fail
  refine (l1New_any R a len cap zs _ hco0).mono ?_
  rintro e w1 ⟨rfl, hcu1, b1⟩
  rw [← hc] at hcu1 b1 ⊢
  have HB1 : Hid (Below R w w1) := HB0.out.trans (b1.mono (by omega))
  have H1 : Hid (w1.heap[R]? = some (.cells #[.int .i64 0, .string ⟨#[]⟩, .slice none 0 0, .string ⟨#[]⟩] 39) ∧ w1.heap[R + 1]? = some (.cells #[.int .i64 0, .slice none 0 0, .string ⟨#[]⟩] 27)) := ⟨by rw [b1.block R (by omega)]; exact H0.out.1, by rw [b1.block (R + 1) (by omega)]; exact H0.out.2⟩
  have hl1 := hcu1.lt
  clear b1 H0 HB0 hco0 hc
  go_wp2_with fail
  refine (l3DrawBadReq_any c R a len cap zs _ hcu1 (HCO.out _ HB1.out) (by omega)).mono ?_
  rintro e w2 ⟨m, p, fv, fs, b, rfl, hm, hp, hown, hfl, hsh, hb, hcu2, hg2⟩
  obtain ⟨fo, fc, rfl⟩ := slice_of_owns hown
  have hl2 := hg2.size
  have HB2 : Hid (Below R w w2) := HB1.out.grown hg2 (by omega) (by intro k hk; cases hk; omega)
  have H2 : Hid (w2.heap[R]? = some (.cells #[.int .i64 0, .string ⟨#[]⟩, .slice none 0 0, .string ⟨#[]⟩] 39) ∧ w2.heap[R + 1]? = some (.cells #[.int .i64 0, .slice none 0 0, .string ⟨#[]⟩] 27)) := ⟨by rw [hg2.block R (by omega) (fun e => by have := Option.some.inj e; omega)]; exact H1.out.1, by rw [hg2.block (R + 1) (by omega) (fun e => by have := Option.some.inj e; omega)]; exact H1.out.2⟩
  obtain ⟨r, hr⟩ : ∃ r, r = w2.heap.size := ⟨_, rfl⟩
  obtain ⟨s1, hs1⟩ : ∃ s, s = w1.heap.size := ⟨_, rfl⟩
  rw [← hs1] at hown hl1 hl2
  obtain ⟨w3, hw3⟩ : ∃ W, W = w2.alloc (.cells #[.int .i64 m, .string p, .slice fo fs.length fc, .string b] 39) := ⟨_, rfl⟩
  have HW3 : Hid (w2.alloc (.cells #[.int .i64 m, .string p, .slice fo fs.length fc, .string b] 39) = w3) := hw3.symm
  have b3 : Below w2.heap.size w2 w3 := by rw [hw3]; exact (Below.refl _ _).alloc (Nat.le_refl _) _
  have HQ3 : Hid (w3.heap[r]? = some (.cells #[.int .i64 m, .string p, .slice fo fs.length fc, .string b] 39)) := by show _ = _; rw [hw3, hr]; exact heap_alloc_new w2 _
  have HO3 : Hid (w3.ownsRow s1 131 2 (.slice fo fs.length fc) fs.length (flatF fs)) := owns_same hown (fun j hj => b3.block j (owns_lt hown hj))
  have HHI : Hid (∀ j, (Value.slice fo fs.length fc).ownBlock = some j → j < r) := fun j hj => by rw [hr]; exact owns_lt hown hj
  have HB3 : Hid (Below R w w3) := HB2.out.trans (b3.mono (by omega))
  have H3 : Hid (w3.heap[R]? = some (.cells #[.int .i64 0, .string ⟨#[]⟩, .slice none 0 0, .string ⟨#[]⟩] 39) ∧ w3.heap[R + 1]? = some (.cells #[.int .i64 0, .slice none 0 0, .string ⟨#[]⟩] 27)) := ⟨by rw [b3.block R (by omega)]; exact H2.out.1, by rw [b3.block (R + 1) (by omega)]; exact H2.out.2⟩
  have hcu3 := hcu2.below b3 (by have := hcu2.lt; omega)
  have hrs : s1 ≤ r := by omega
  obtain ⟨⟨c0, c1, c2, c3⟩, _⟩ := four_facts HQ3.out
  clear hcu1 hcu2 hg2 hown H1 H2 HB1 HB2 hw3 b3 hs1
  go_upto_region 3 with fail
  rw [HW3.out, ← hr]
  clear hr HW3
  refine wp_region_held_drew (S := fun W => W.cell? ⟨r, 0, none⟩ = some (.int .i64 m) ∧ W.cell? ⟨r, 1, none⟩ = some (.string p) ∧ W.cell? ⟨r, 2, none⟩ = some (.slice fo fs.length fc) ∧ W.cell? ⟨r, 3, none⟩ = some (.string b)) (by kernel_rfl) ⟨c0, c1, c2, c3⟩ (fun hS0 => ?_)
  refine wpAnyH_takeD (i := 0) (v := .agg #[.int .i64 m, .string p, .slice fo fs.length fc, .string b]) (some 10) rfl rfl (by kernel_rfl) (by kernel_rfl) (by kernel_rfl) (fun _ _ _ h => h) (Or.inl ⟨by rfl, by intro W hW; obtain ⟨h1, h2, h3, h4⟩ := hW; go_simp⟩) hS0 ?_
  simp only [Act.put, List.setIfInBounds_toArray, List.set_cons_zero, List.set_cons_succ]
  refine wpAnyH_takeD (i := 1) (v := .pointer (some ⟨c, 0, none⟩)) (some 11) rfl rfl (by kernel_rfl) (by kernel_rfl) (by kernel_rfl) (fun _ _ _ h => h) (Or.inl ⟨by rfl, by intro W _; go_simp⟩) hS0 ?_
  simp only [Act.put, List.setIfInBounds_toArray, List.set_cons_zero, List.set_cons_succ]
  refine wpAnyH_ready (rs := [2]) (by kernel_rfl) (by simp) ?_
  refine AllReadyH.cons rfl (fun K hK => ?_) AllReadyH.nil
  go_simp
  refine (l3DrawBadResp_any c R a len cap zs _ (hcu3.below (Below.refl _ w3).drew hcu3.lt) (HCO.out _ HB3.out.drew) (by omega)).mono ?_
  rintro e w4 ⟨st, gv, gs, d, rfl, hst, hown4, hgl, hgsh, hd, _, hg4⟩
  obtain ⟨go, gc, rfl⟩ := slice_of_owns hown4
  have hl3 := hcu3.lt
  have hq3 : r < w3.heap.size := (Array.getElem?_eq_some_iff.1 HQ3.out).1
  have hzs : w3.drew.heap.size = w3.heap.size := rfl
  have HQ4 : Hid (w4.heap[r]? = some (.cells #[.int .i64 m, .string p, .slice fo fs.length fc, .string b] 39)) := by show _ = _; rw [hg4.block r (by omega) (fun e => by have := Option.some.inj e; omega)]; exact HQ3.out
  have H4 : Hid (w4.heap[R]? = some (.cells #[.int .i64 0, .string ⟨#[]⟩, .slice none 0 0, .string ⟨#[]⟩] 39) ∧ w4.heap[R + 1]? = some (.cells #[.int .i64 0, .slice none 0 0, .string ⟨#[]⟩] 27)) := ⟨by rw [hg4.block R (by omega) (fun e => by have := Option.some.inj e; omega)]; exact H3.out.1, by rw [hg4.block (R + 1) (by omega) (fun e => by have := Option.some.inj e; omega)]; exact H3.out.2⟩
  have HO4 : Hid (w4.ownsRow s1 131 2 (.slice fo fs.length fc) fs.length (flatF fs)) := owns_grown (owns_same (w' := w3.drew) HO3.out (fun j hj => rfl)) hg4 (by omega)
  have HP4 : Hid (w4.ownsRow w3.heap.size 131 2 (.slice go gs.length gc) gs.length (flatF gs)) := hown4
  have HB4 : Hid (Below R w w4) := HB3.out.drew.grown hg4 (by omega) (by intro k hk; cases hk; omega)
  have HRS : Hid (R + 1 < s1 ∧ r < w3.heap.size ∧ s1 ≤ r) := ⟨by omega, hq3, hrs⟩
  obtain ⟨Y, hY⟩ : ∃ Y, Y = fourSet w4 R (.int .i64 m) (.string p) (.slice fo fs.length fc) (.string b) := ⟨_, rfl⟩
  have HY : Hid (((((w4.setCell ⟨R, 0, none⟩ (.int .i64 m)).setCell ⟨R, 1, none⟩ (.string p)).setCell ⟨R, 2, none⟩ (.slice fo fs.length fc)).setCell ⟨R, 3, none⟩ (.string b)) = Y) := hY.symm
  have HYZ : Hid (Y.heap[R + 1]? = some (.cells #[.int .i64 0, .slice none 0 0, .string ⟨#[]⟩] 27)) := by show _ = _; rw [hY, four_other _ _ _ _ _ _ _ (by omega)]; exact H4.out.2
  have HYR : Hid (Y.heap[R]? = some (.cells #[.int .i64 m, .string p, (.slice fo fs.length fc), .string b] 39)) := by show _ = _; rw [hY]; exact four_set H4.out.1 _ _ _ _
  have HYQ : Hid (Y.heap[r]? = some (.cells #[.int .i64 m, .string p, (.slice fo fs.length fc), .string b] 39)) := by show _ = _; rw [hY, four_other _ _ _ _ _ _ _ (by omega)]; exact HQ4.out
  obtain ⟨U, hU⟩ : ∃ U, U = threeSet Y (R + 1) (.int .i64 st) (.slice go gs.length gc) (.string d) := ⟨_, rfl⟩
  have HU : Hid ((((Y.setCell ⟨R + 1, 0, none⟩ (.int .i64 st)).setCell ⟨R + 1, 1, none⟩ (.slice go gs.length gc)).setCell ⟨R + 1, 2, none⟩ (.string d)) = U) := hU.symm
  have HUR : Hid (U.heap[R]? = some (.cells #[.int .i64 m, .string p, (.slice fo fs.length fc), .string b] 39)) := by show _ = _; rw [hU, three_otherD _ _ _ _ _ _ (by omega)]; exact HYR.out
  have HUP : Hid (U.heap[R + 1]? = some (.cells #[.int .i64 st, (.slice go gs.length gc), .string d] 27)) := by show _ = _; rw [hU]; exact three_set HYZ.out _ _ _
  have HUQ : Hid (U.heap[r]? = some (.cells #[.int .i64 m, .string p, (.slice fo fs.length fc), .string b] 39)) := by show _ = _; rw [hU, three_otherD _ _ _ _ _ _ (by omega)]; exact HYQ.out
  have HFB : Hid (Below R w U) := by show Below _ _ _; rw [hU, hY]; exact below_three (below_four HB4.out (Nat.le_refl _)) (by omega)
  have HUO : Hid (∀ j, j ≠ R → j ≠ R + 1 → U.heap[j]? = w4.heap[j]?) := fun j h1 h2 => by rw [hU, three_otherD _ _ _ _ _ _ h2, hY, four_other _ _ _ _ _ _ _ h1]
  have HFIN : Hid (DrawnQP w (.returned (.tuple #[.agg #[.int .i64 m, .string p, (.slice fo fs.length fc), .string b], .agg #[.int .i64 st, (.slice go gs.length gc), .string d]])) U) := by
    obtain ⟨z1, z2, z3⟩ := HRS.out
    refine ⟨m, p, _, fs, b, st, _, gs, d, rfl, hm, hp, ?_, hfl, hsh, hb, hst, ?_, hgl, hgsh, hd, ?_, by rw [HRE.out]; exact HFB.out⟩
    · rw [HRE.out]
      refine owns_same (owns_wide HO4.out (by omega)) (fun j hj => ?_)
      have := owns_ge HO4.out hj
      exact HUO.out j (by omega) (by omega)
    · rw [HRE.out]
      refine owns_same (owns_wide HP4.out (by omega)) (fun j hj => ?_)
      have := owns_ge HP4.out hj
      exact HUO.out j (by omega) (by omega)
    · intro j hj e
      have h1 := HHI.out j hj
      have h2 := owns_ge HP4.out e
      omega
  have hS4 := (four_facts HQ4.out).1
  have hSY := (four_facts HYQ.out).1
  have hSU := (four_facts HUQ.out).1
  refine hK.out _ _ hS4 (fun _ => ?_)
  clear hK K c0 c1 c2 c3 hS0 hY hU HO3 HO4 HP4 HB3 HB4 HQ3 HQ4 HYQ HUQ hown4 hg4 hcu3 hzs HUO HFB HHI HRS HCO H3
  refine wpAnyH_ready (rs := [3]) (by kernel_rfl) (by simp) ?_
  refine AllReadyH.cons rfl (fun K hK => ?_) AllReadyH.nil
  obtain ⟨⟨x0, x1, x2, x3⟩, y0, y1, y2, y3⟩ := four_facts H4.out.1
  go_simp
  rw [HY.out]
  refine hK.out _ _ hSY (fun _ => ?_)
  clear hK K x0 x1 x2 x3 y0 y1 y2 y3 H4 hS4 HY
  refine wpAnyH_ready (rs := [4]) (by kernel_rfl) (by simp) ?_
  refine AllReadyH.cons rfl (fun K hK => ?_) AllReadyH.nil
  obtain ⟨⟨x0, x1, x2⟩, y0, y1, y2⟩ := three_facts HYZ.out
  go_simp
  rw [HU.out]
  refine hK.out _ _ hSU (fun _ => ?_)
  clear hK K x0 x1 x2 y0 y1 y2 hSY hSU HU HYZ HYR
  refine wpAnyH_done (by kernel_rfl) ?_ _
  obtain ⟨⟨k0, k1, k2, k3⟩, _⟩ := four_facts HUR.out
  obtain ⟨⟨k4, k5, k6⟩, _⟩ := three_facts HUP.out
  go_wp2_with fail
  exact bodyPost_ret (v := .tuple #[.agg #[.int .i64 m, .string p, (.slice fo fs.length fc), .string b], .agg #[.int .i64 st, (.slice go gs.length gc), .string d]]) (by simp [results, Tryz.results55, go_sem, k0, k1, k2, k3, k4, k5, k6]) rfl HFIN.out

end Go.Proofs.YtdlhicdfldecgaaGreatDoor

namespace Go.Proofs.YtdlhicdfldecgaaGreatDoor
open Go.RowKit
open Go.Lib hiding intOf

/-- An object of few and short texts. -/
def SmallO (p : ByteArray) (xs ys : List ByteArray) (fs : List (ByteArray × ByteArray)) (b : ByteArray) (t : Int) : Prop :=
  p.size ≤ 64 ∧ (xs.length ≤ 5 ∧ ∀ x ∈ xs, x.size ≤ 64) ∧ (ys.length ≤ 5 ∧ ∀ y ∈ ys, y.size ≤ 64) ∧ (fs.length ≤ 41 ∧ ShortF fs) ∧ b.size ≤ 140 ∧ -9223372036854775808 ≤ t ∧ t ≤ 9223372036854775807
theorem shortF_flds {fs : List (ByteArray × ByteArray)} (h : FldsOk fs) : ShortF fs := fun f hf => by
  obtain ⟨h1, h2, _⟩ := flds_mem h f hf
  exact ⟨Nat.le_trans h1.2.1 (by decide), Nat.le_trans h2.2.1 (by decide)⟩
theorem small_of {p : ByteArray} {xs ys : List ByteArray} {st : Int} {fs : List (ByteArray × ByteArray)} {b : ByteArray} {t : Int} (h : ObjP p xs ys st fs b t) : SmallO p xs ys fs b t ∧ xs.length ≤ 4 ∧ ys.length ≤ 4 ∧ fs.length ≤ 8 := by
  obtain ⟨h1, h2, h3, h4, _, h6, h7⟩ := h
  have e1 := h4.2
  have e2 := h1.2.1.1
  have e3 := h1.2.2
  have e4 := h2.2.2.1
  exact ⟨⟨by omega, ⟨by omega, fun x hx => Nat.le_trans (h4.1 x hx).2.1 (by decide)⟩, ⟨by omega, fun y hy => Nat.le_trans (h7 y hy).2.1 (by decide)⟩, ⟨by omega, shortF_flds h1.2.1⟩, by omega, by omega, by omega⟩, e1, by omega, e2⟩
end Go.Proofs.YtdlhicdfldecgaaGreatDoor

namespace Go.Proofs.YtdlhicdfldecgaaGreatDoor
open Go.RowKit
open Go.Lib hiding intOf

/-- A request, an answer and a time are drawn. -/
def DrewQPT (w : World) (e : Ending) (w' : World) : Prop :=
  ∃ (m : Int) (p : ByteArray) (v : Value) (fs : List (ByteArray × ByteArray)) (b : ByteArray) (st : Int) (u : Value) (gs : List (ByteArray × ByteArray)) (d : ByteArray) (t : Int),
    e = .returned (.tuple #[.agg #[.int .i64 m, .string p, v, .string b], .agg #[.int .i64 st, u, .string d], .int .i64 t]) ∧ p.size ≤ 64 ∧ w'.ownsRow w.heap.size 131 2 v fs.length (flatF fs) ∧ (fs.length ≤ 41 ∧ ShortF fs) ∧ b.size ≤ 140 ∧
    w'.ownsRow w.heap.size 131 2 u gs.length (flatF gs) ∧ (gs.length ≤ 41 ∧ ShortF gs) ∧ d.size ≤ 140 ∧ (-9223372036854775808 ≤ t ∧ t ≤ 9223372036854775807) ∧ Below w.heap.size w w'

set_option maxHeartbeats 8000000 in
set_option maxRecDepth 100000 in
theorem drawObjOf_any (a : Option Addr) (len cap : Nat) (zs : List Int) (w : World) (hcode : CodeAt w w.heap.size a len zs) :
    Calls Tryz.prog 16 #[.slice a len cap] w fun e w' => DrewQPT w e w' := by
  have HCO : Hid (∀ W, Below w.heap.size w W → CodeAt W w.heap.size a len zs) := fun W h => hcode.below h
  clear hcode
  have hb0 : Below w.heap.size w w := Below.refl _ _
  go_enter Tryz.func16, Tryz.ntmps16
  go_upto_region 1 with fail
  obtain ⟨qv1, hqv1⟩ : ∃ q, q = (w).heap.size := ⟨_, rfl⟩
  obtain ⟨w1, hW1⟩ : ∃ W, W = (w).alloc (.cells #[.int .i64 0, .string ⟨#[]⟩, .slice none 0 0, .string ⟨#[]⟩] 39) := ⟨_, rfl⟩
  have hz1 : (w).heap.size = qv1 := hqv1.symm
  first | rw [← hW1, ← hqv1] | rw [← hW1]
  have hs1 : w1.heap.size = qv1 + 1 := by rw [hW1, ← hz1]; simp
  have bw : Below (w).heap.size (w) w1 := by rw [hW1]; exact (Below.refl _ _).alloc (Nat.le_refl _) _
  have hb1 : Below w.heap.size w (w1) := hb0.trans (bw.mono hb0.size)
  have HM1 : Hid ((w).heap.size ≤ (w1).heap.size) := bw.size
  have HBv1_1 : Hid ((w1).heap[qv1]? = some (.cells #[.int .i64 0, .string ⟨#[]⟩, .slice none 0 0, .string ⟨#[]⟩] 39)) := by show _ = _; rw [hW1, ← hz1]; exact heap_alloc_new _ _
  have HGv1 : Hid (w.heap.size ≤ qv1) := by show _ ≤ _; rw [← hz1]; exact hb0.size
  clear hb0 bw hW1 hz1
  obtain ⟨qv2, hqv2⟩ : ∃ q, q = qv1 + 1 := ⟨_, rfl⟩
  obtain ⟨w2, hW2⟩ : ∃ W, W = (w1).alloc (.cells #[.int .i64 0, .slice none 0 0, .string ⟨#[]⟩] 27) := ⟨_, rfl⟩
  have hz2 : (w1).heap.size = qv2 := by rw [hqv2]; exact hs1
  first | rw [← hW2, ← hqv2] | rw [← hW2]
  have hs2 : w2.heap.size = qv2 + 1 := by rw [hW2, ← hz2]; simp
  have bw : Below (w1).heap.size (w1) w2 := by rw [hW2]; exact (Below.refl _ _).alloc (Nat.le_refl _) _
  have hb2 : Below w.heap.size w (w2) := hb1.trans (bw.mono hb1.size)
  have HM2 : Hid ((w1).heap.size ≤ (w2).heap.size) := bw.size
  have HBv1_2 : Hid ((w2).heap[qv1]? = some (.cells #[.int .i64 0, .string ⟨#[]⟩, .slice none 0 0, .string ⟨#[]⟩] 39)) := blk_below HBv1_1.out bw
  have HNv1v2 : Hid (qv1 ≠ qv2) := fun e => by have h1 := (Array.getElem?_eq_some_iff.1 HBv1_1.out).1; omega
  have HBv2_2 : Hid ((w2).heap[qv2]? = some (.cells #[.int .i64 0, .slice none 0 0, .string ⟨#[]⟩] 27)) := by show _ = _; rw [hW2, ← hz2]; exact heap_alloc_new _ _
  have HGv2 : Hid (w.heap.size ≤ qv2) := by show _ ≤ _; rw [← hz2]; exact hb1.size
  clear hb1 HBv1_1 bw hW2 hz2
  clear hs2 hqv2 hs1 hqv1
  go_wp2_with fail
  refine (l1New_any w.heap.size a len cap zs _ (HCO.out _ hb2)).mono ?_
  rintro e w3 ⟨rfl, hcu, bw⟩
  obtain ⟨c1, hc⟩ : ∃ c, c = w2.heap.size := ⟨_, rfl⟩
  rw [← hc] at hcu ⊢
  have HGC : Hid (w.heap.size ≤ c1) := by show _ ≤ _; rw [hc]; exact hb2.size
  have HBC : Hid (w.heap.size ≤ c1) := HGC.out
  have HCU : Hid (CurAt w3 c1 a len cap) := hcu
  have HNCv1 : Hid (qv1 ≠ c1) := fun e => by have h1 := (Array.getElem?_eq_some_iff.1 HBv1_2.out).1; omega
  have HNCv2 : Hid (qv2 ≠ c1) := fun e => by have h1 := (Array.getElem?_eq_some_iff.1 HBv2_2.out).1; omega
  clear hc hcu
  have hb3 : Below w.heap.size w (w3) := hb2.trans (bw.mono hb2.size)
  have HM3 : Hid ((w2).heap.size ≤ (w3).heap.size) := bw.size
  have HBv1_3 : Hid ((w3).heap[qv1]? = some (.cells #[.int .i64 0, .string ⟨#[]⟩, .slice none 0 0, .string ⟨#[]⟩] 39)) := blk_below HBv1_2.out bw
  have HBv2_3 : Hid ((w3).heap[qv2]? = some (.cells #[.int .i64 0, .slice none 0 0, .string ⟨#[]⟩] 27)) := blk_below HBv2_2.out bw
  clear hb2 HBv1_2 HBv2_2 bw
  have EU_3 : Hid (CurAt w3 c1 a len cap) := HCU.out
  clear HCU
  go_wp2_with fail
  refine (l1Below_any c1 w.heap.size 3 a len cap zs _ EU_3.out (HCO.out _ hb3) HBC.out (by decide) (by decide)).mono ?_
  rintro e w4 ⟨n2, rfl, hn02, hn12, hcu, hg⟩
  have hb4 : Below w.heap.size w (w4) := hb3.grown hg hb3.size (by intro k hk; cases hk; exact HGC.out)
  have HM4 : Hid ((w3).heap.size ≤ (w4).heap.size) := hg.size
  have HBv1_4 : Hid ((w4).heap[qv1]? = some (.cells #[.int .i64 0, .string ⟨#[]⟩, .slice none 0 0, .string ⟨#[]⟩] 39)) := (hg.block _ (Array.getElem?_eq_some_iff.1 HBv1_3.out).1 (fun e => HNCv1.out (Option.some.inj e))).trans HBv1_3.out
  have HBv2_4 : Hid ((w4).heap[qv2]? = some (.cells #[.int .i64 0, .slice none 0 0, .string ⟨#[]⟩] 27)) := (hg.block _ (Array.getElem?_eq_some_iff.1 HBv2_3.out).1 (fun e => HNCv2.out (Option.some.inj e))).trans HBv2_3.out
  have EU_4 : Hid (CurAt w4 c1 a len cap) := hcu
  clear hb3 HBv1_3 HBv2_3 EU_3 hg hcu
  by_cases hc1 : 0 < n2
  · go_wp2_with fail
    refine (l3DrawReq_any c1 w.heap.size a len cap zs _ EU_4.out (HCO.out _ hb4) HBC.out).mono ?_
    rintro e w5 ⟨m3, pp3, vv, f3, b3, rfl, hm3, hp3, ownQ3, hl3, hs3, hbz3, hcu, hg⟩
    obtain ⟨oQ3, pQ3, rfl⟩ := slice_of_owns ownQ3
    have HFQ3 : Hid (f3.length ≤ 40 ∧ ShortF f3) := ⟨hl3, hs3⟩
    have HPQ3 : Hid (pp3.size ≤ 64) := hp3
    clear hl3 hs3 hm3 hbz3 hp3
    have hb5 : Below w.heap.size w (w5) := hb4.grown hg hb4.size (by intro k hk; cases hk; exact HGC.out)
    have HM5 : Hid ((w4).heap.size ≤ (w5).heap.size) := hg.size
    have HBv1_5 : Hid ((w5).heap[qv1]? = some (.cells #[.int .i64 0, .string ⟨#[]⟩, .slice none 0 0, .string ⟨#[]⟩] 39)) := (hg.block _ (Array.getElem?_eq_some_iff.1 HBv1_4.out).1 (fun e => HNCv1.out (Option.some.inj e))).trans HBv1_4.out
    have HBv2_5 : Hid ((w5).heap[qv2]? = some (.cells #[.int .i64 0, .slice none 0 0, .string ⟨#[]⟩] 27)) := (hg.block _ (Array.getElem?_eq_some_iff.1 HBv2_4.out).1 (fun e => HNCv2.out (Option.some.inj e))).trans HBv2_4.out
    have EU_5 : Hid (CurAt w5 c1 a len cap) := hcu
    have HOQ3_5 : Hid ((w5).ownsRow w.heap.size 131 2 (.slice oQ3 f3.length pQ3) f3.length (flatF f3)) := owns_wide ownQ3 hb4.size
    have LOQ3 : Hid (∀ g, (Value.ownBlock (.slice oQ3 f3.length pQ3)) = some g → (w4).heap.size ≤ g) := fun g hg => owns_ge ownQ3 hg
    have HIQ3 : Hid (∀ g, (Value.ownBlock (.slice oQ3 f3.length pQ3)) = some g → g < (w5).heap.size) := fun g hg => owns_lt ownQ3 hg
    clear ownQ3
    clear hb4 HBv1_4 HBv2_4 EU_4 hg hcu
    go_upto_region 4 with fail
    obtain ⟨qv3, hqv3⟩ : ∃ q, q = (w5).heap.size := ⟨_, rfl⟩
    obtain ⟨w6, hW6⟩ : ∃ W, W = (w5).alloc (.cells #[.int .i64 m3, .string pp3, .slice oQ3 f3.length pQ3, .string b3] 39) := ⟨_, rfl⟩
    have hz6 : (w5).heap.size = qv3 := hqv3.symm
    first | rw [← hW6, ← hqv3] | rw [← hW6]
    have hs6 : w6.heap.size = qv3 + 1 := by rw [hW6, ← hz6]; simp
    have bw : Below (w5).heap.size (w5) w6 := by rw [hW6]; exact (Below.refl _ _).alloc (Nat.le_refl _) _
    have hb6 : Below w.heap.size w (w6) := hb5.trans (bw.mono hb5.size)
    have HM6 : Hid ((w5).heap.size ≤ (w6).heap.size) := bw.size
    have HOQ3_6 : Hid ((w6).ownsRow w.heap.size 131 2 (.slice oQ3 f3.length pQ3) f3.length (flatF f3)) := owns_below HOQ3_5.out bw (fun g hg => owns_lt HOQ3_5.out hg)
    have HBv1_6 : Hid ((w6).heap[qv1]? = some (.cells #[.int .i64 0, .string ⟨#[]⟩, .slice none 0 0, .string ⟨#[]⟩] 39)) := blk_below HBv1_5.out bw
    have HBv2_6 : Hid ((w6).heap[qv2]? = some (.cells #[.int .i64 0, .slice none 0 0, .string ⟨#[]⟩] 27)) := blk_below HBv2_5.out bw
    have EU_6 : Hid (CurAt w6 c1 a len cap) := EU_5.out.below bw EU_5.out.lt
    have HNv1v3 : Hid (qv1 ≠ qv3) := fun e => by have h1 := (Array.getElem?_eq_some_iff.1 HBv1_5.out).1; omega
    have HNv2v3 : Hid (qv2 ≠ qv3) := fun e => by have h1 := (Array.getElem?_eq_some_iff.1 HBv2_5.out).1; omega
    have HBv3_6 : Hid ((w6).heap[qv3]? = some (.cells #[.int .i64 m3, .string pp3, .slice oQ3 f3.length pQ3, .string b3] 39)) := by show _ = _; rw [hW6, ← hz6]; exact heap_alloc_new _ _
    have HGv3 : Hid (w.heap.size ≤ qv3) := by show _ ≤ _; rw [← hz6]; exact hb5.size
    have HNCv3 : Hid (qv3 ≠ c1) := fun e => by have h1 := EU_5.out.lt; omega
    clear hb5 HOQ3_5 HBv1_5 HBv2_5 EU_5 bw hW6 hz6
    clear hs6 hqv3
    have cv3_0 : (w6).cell? ⟨qv3, 0, none⟩ = some (.int .i64 m3) := (cell_of HBv3_6.out 0).trans rfl
    have fcv3_0 : (w6).frozen? ⟨qv3, 0, none⟩ = false := frozen_of HBv3_6.out 0
    go_upto_region 5 with fail
    obtain ⟨w7, hW7⟩ : ∃ W, W = (w6).setCell ⟨qv3, 0, none⟩ (.int .i64 1) := ⟨_, rfl⟩
    rw [← hW7]
    have hb7 : Below w.heap.size w (w7) := by rw [hW7]; exact (hb6.setCell (p := ⟨qv3, 0, none⟩) HGv3.out _)
    have HM7 : Hid ((w6).heap.size ≤ w7.heap.size) := by show _ ≤ _; rw [hW7]; simp
    have HOQ3_7 : Hid ((w7).ownsRow w.heap.size 131 2 (.slice oQ3 f3.length pQ3) f3.length (flatF f3)) := by show World.ownsRow _ _ _ _ _ _ _; rw [hW7]; exact owns_same HOQ3_6.out (fun g hg => heap_setCell_other _ _ g _ (own_ne HOQ3_6.out HBv3_6.out (by decide) g hg))
    have HBv1_7 : Hid ((w7).heap[qv1]? = some (.cells #[.int .i64 0, .string ⟨#[]⟩, .slice none 0 0, .string ⟨#[]⟩] 39)) := by show _ = _; rw [hW7, heap_setCell_other _ _ _ _ HNv1v3.out]; exact HBv1_6.out
    have HBv2_7 : Hid ((w7).heap[qv2]? = some (.cells #[.int .i64 0, .slice none 0 0, .string ⟨#[]⟩] 27)) := by show _ = _; rw [hW7, heap_setCell_other _ _ _ _ HNv2v3.out]; exact HBv2_6.out
    have EU_7 : Hid (CurAt w7 c1 a len cap) := by show CurAt _ _ _ _ _; rw [hW7]; exact cur_set EU_6.out HNCv3.out _ _
    have HBv3_7 : Hid ((w7).heap[qv3]? = some (.cells #[.int .i64 1, .string pp3, .slice oQ3 f3.length pQ3, .string b3] 39)) := by show _ = _; rw [hW7]; have h := heap_set _ _ 0 _ _ _ (.int .i64 1) HBv3_6.out; simpa using h
    clear hb6 HOQ3_6 HBv1_6 HBv2_6 HBv3_6 EU_6 hW7
    clear cv3_0 fcv3_0
    have cv3_3 : (w7).cell? ⟨qv3, 3, none⟩ = some (.string b3) := (cell_of HBv3_7.out 3).trans rfl
    have fcv3_3 : (w7).frozen? ⟨qv3, 3, none⟩ = false := frozen_of HBv3_7.out 3
    go_upto_region 6 with fail
    obtain ⟨w8, hW8⟩ : ∃ W, W = (w7).setCell ⟨qv3, 3, none⟩ (.string ⟨#[]⟩) := ⟨_, rfl⟩
    rw [← hW8]
    have hb8 : Below w.heap.size w (w8) := by rw [hW8]; exact (hb7.setCell (p := ⟨qv3, 3, none⟩) HGv3.out _)
    have HM8 : Hid ((w7).heap.size ≤ w8.heap.size) := by show _ ≤ _; rw [hW8]; simp
    have HOQ3_8 : Hid ((w8).ownsRow w.heap.size 131 2 (.slice oQ3 f3.length pQ3) f3.length (flatF f3)) := by show World.ownsRow _ _ _ _ _ _ _; rw [hW8]; exact owns_same HOQ3_7.out (fun g hg => heap_setCell_other _ _ g _ (own_ne HOQ3_7.out HBv3_7.out (by decide) g hg))
    have HBv1_8 : Hid ((w8).heap[qv1]? = some (.cells #[.int .i64 0, .string ⟨#[]⟩, .slice none 0 0, .string ⟨#[]⟩] 39)) := by show _ = _; rw [hW8, heap_setCell_other _ _ _ _ HNv1v3.out]; exact HBv1_7.out
    have HBv2_8 : Hid ((w8).heap[qv2]? = some (.cells #[.int .i64 0, .slice none 0 0, .string ⟨#[]⟩] 27)) := by show _ = _; rw [hW8, heap_setCell_other _ _ _ _ HNv2v3.out]; exact HBv2_7.out
    have EU_8 : Hid (CurAt w8 c1 a len cap) := by show CurAt _ _ _ _ _; rw [hW8]; exact cur_set EU_7.out HNCv3.out _ _
    have HBv3_8 : Hid ((w8).heap[qv3]? = some (.cells #[.int .i64 1, .string pp3, .slice oQ3 f3.length pQ3, .string ⟨#[]⟩] 39)) := by show _ = _; rw [hW8]; have h := heap_set _ _ 3 _ _ _ (.string ⟨#[]⟩) HBv3_7.out; simpa using h
    clear hb7 HOQ3_7 HBv1_7 HBv2_7 HBv3_7 EU_7 hW8
    clear cv3_3 fcv3_3
    have cv3_2 : (w8).cell? ⟨qv3, 2, none⟩ = some (.slice oQ3 f3.length pQ3) := (cell_of HBv3_8.out 2).trans rfl
    go_wp2_with fail
    refine (specDrop_any _ _ _ f3 ⟨#[99, 97, 99, 104, 101, 45, 99, 111, 110, 116, 114, 111, 108]⟩ _ (FieldsV.of_owns HOQ3_8.out) (by have := HFQ3.out.1; omega)).mono ?_
    rintro e w9 ⟨vv, rfl, ownD4, bw⟩
    obtain ⟨f4, hf4⟩ : ∃ l, l = dropF f3 ⟨#[99, 97, 99, 104, 101, 45, 99, 111, 110, 116, 114, 111, 108]⟩ := ⟨_, rfl⟩
    rw [← hf4] at ownD4
    have HFD4 : Hid (f4.length ≤ 40 ∧ ShortF f4) := by show _ ∧ _; rw [hf4]; exact ⟨Nat.le_trans (drop_len _ _) HFQ3.out.1, HFQ3.out.2.drop _⟩
    clear hf4
    obtain ⟨oD4, pD4, rfl⟩ := slice_of_owns ownD4
    have hb9 : Below w.heap.size w (w9) := hb8.trans (bw.mono hb8.size)
    have HM9 : Hid ((w8).heap.size ≤ (w9).heap.size) := bw.size
    have HOQ3_9 : Hid ((w9).ownsRow w.heap.size 131 2 (.slice oQ3 f3.length pQ3) f3.length (flatF f3)) := owns_below HOQ3_8.out bw (fun g hg => owns_lt HOQ3_8.out hg)
    have HBv1_9 : Hid ((w9).heap[qv1]? = some (.cells #[.int .i64 0, .string ⟨#[]⟩, .slice none 0 0, .string ⟨#[]⟩] 39)) := blk_below HBv1_8.out bw
    have HBv2_9 : Hid ((w9).heap[qv2]? = some (.cells #[.int .i64 0, .slice none 0 0, .string ⟨#[]⟩] 27)) := blk_below HBv2_8.out bw
    have HBv3_9 : Hid ((w9).heap[qv3]? = some (.cells #[.int .i64 1, .string pp3, .slice oQ3 f3.length pQ3, .string ⟨#[]⟩] 39)) := blk_below HBv3_8.out bw
    have EU_9 : Hid (CurAt w9 c1 a len cap) := EU_8.out.below bw EU_8.out.lt
    have HOD4_9 : Hid ((w9).ownsRow w.heap.size 131 2 (.slice oD4 f4.length pD4) f4.length (flatF f4)) := owns_wide ownD4 hb8.size
    have LOD4 : Hid (∀ g, (Value.ownBlock (.slice oD4 f4.length pD4)) = some g → (w8).heap.size ≤ g) := fun g hg => owns_ge ownD4 hg
    have HID4 : Hid (∀ g, (Value.ownBlock (.slice oD4 f4.length pD4)) = some g → g < (w9).heap.size) := fun g hg => owns_lt ownD4 hg
    clear ownD4
    clear hb8 HOQ3_8 HBv1_8 HBv2_8 HBv3_8 EU_8 bw
    clear cv3_2
    have cv3_2 : (w9).cell? ⟨qv3, 2, none⟩ = some (.slice oQ3 f3.length pQ3) := (cell_of HBv3_9.out 2).trans rfl
    have fcv3_2 : (w9).frozen? ⟨qv3, 2, none⟩ = false := frozen_of HBv3_9.out 2
    go_upto_region 7 with fail
    obtain ⟨w10, hW10⟩ : ∃ W, W = (w9).setCell ⟨qv3, 2, none⟩ (.slice oD4 f4.length pD4) := ⟨_, rfl⟩
    rw [← hW10]
    have hb10 : Below w.heap.size w (w10) := by rw [hW10]; exact (hb9.setCell (p := ⟨qv3, 2, none⟩) HGv3.out _)
    have HM10 : Hid ((w9).heap.size ≤ w10.heap.size) := by show _ ≤ _; rw [hW10]; simp
    have HOQ3_10 : Hid ((w10).ownsRow w.heap.size 131 2 (.slice oQ3 f3.length pQ3) f3.length (flatF f3)) := by show World.ownsRow _ _ _ _ _ _ _; rw [hW10]; exact owns_same HOQ3_9.out (fun g hg => heap_setCell_other _ _ g _ (own_ne HOQ3_9.out HBv3_9.out (by decide) g hg))
    have HOD4_10 : Hid ((w10).ownsRow w.heap.size 131 2 (.slice oD4 f4.length pD4) f4.length (flatF f4)) := by show World.ownsRow _ _ _ _ _ _ _; rw [hW10]; exact owns_same HOD4_9.out (fun g hg => heap_setCell_other _ _ g _ (own_ne HOD4_9.out HBv3_9.out (by decide) g hg))
    have HBv1_10 : Hid ((w10).heap[qv1]? = some (.cells #[.int .i64 0, .string ⟨#[]⟩, .slice none 0 0, .string ⟨#[]⟩] 39)) := by show _ = _; rw [hW10, heap_setCell_other _ _ _ _ HNv1v3.out]; exact HBv1_9.out
    have HBv2_10 : Hid ((w10).heap[qv2]? = some (.cells #[.int .i64 0, .slice none 0 0, .string ⟨#[]⟩] 27)) := by show _ = _; rw [hW10, heap_setCell_other _ _ _ _ HNv2v3.out]; exact HBv2_9.out
    have EU_10 : Hid (CurAt w10 c1 a len cap) := by show CurAt _ _ _ _ _; rw [hW10]; exact cur_set EU_9.out HNCv3.out _ _
    have HBv3_10 : Hid ((w10).heap[qv3]? = some (.cells #[.int .i64 1, .string pp3, .slice oD4 f4.length pD4, .string ⟨#[]⟩] 39)) := by show _ = _; rw [hW10]; have h := heap_set _ _ 2 _ _ _ (.slice oD4 f4.length pD4) HBv3_9.out; simpa using h
    clear hb9 HOQ3_9 HOD4_9 HBv1_9 HBv2_9 HBv3_9 EU_9 hW10
    clear cv3_2 fcv3_2
    go_wp2_with fail
    refine (l3DrawResp_any c1 w.heap.size a len cap zs _ EU_10.out (HCO.out _ hb10) HBC.out).mono ?_
    rintro e w11 ⟨m5, vv, f5, b5, rfl, hm5, ownR5, hl5, hs5, hbz5, hcu, hg⟩
    obtain ⟨oR5, pR5, rfl⟩ := slice_of_owns ownR5
    have HFR5 : Hid (f5.length ≤ 40 ∧ ShortF f5) := ⟨hl5, hs5⟩
    have HDR5 : Hid (b5.size ≤ 14) := hbz5
    clear hl5 hs5 hm5 hbz5
    have hb11 : Below w.heap.size w (w11) := hb10.grown hg hb10.size (by intro k hk; cases hk; exact HGC.out)
    have HM11 : Hid ((w10).heap.size ≤ (w11).heap.size) := hg.size
    have HOQ3_11 : Hid ((w11).ownsRow w.heap.size 131 2 (.slice oQ3 f3.length pQ3) f3.length (flatF f3)) := owns_same HOQ3_10.out (fun g hgg => hg.block g (owns_lt HOQ3_10.out hgg) (fun e => own_cur HOQ3_10.out EU_10.out (by decide) g hgg (Option.some.inj e)))
    have HOD4_11 : Hid ((w11).ownsRow w.heap.size 131 2 (.slice oD4 f4.length pD4) f4.length (flatF f4)) := owns_same HOD4_10.out (fun g hgg => hg.block g (owns_lt HOD4_10.out hgg) (fun e => own_cur HOD4_10.out EU_10.out (by decide) g hgg (Option.some.inj e)))
    have HBv1_11 : Hid ((w11).heap[qv1]? = some (.cells #[.int .i64 0, .string ⟨#[]⟩, .slice none 0 0, .string ⟨#[]⟩] 39)) := (hg.block _ (Array.getElem?_eq_some_iff.1 HBv1_10.out).1 (fun e => HNCv1.out (Option.some.inj e))).trans HBv1_10.out
    have HBv2_11 : Hid ((w11).heap[qv2]? = some (.cells #[.int .i64 0, .slice none 0 0, .string ⟨#[]⟩] 27)) := (hg.block _ (Array.getElem?_eq_some_iff.1 HBv2_10.out).1 (fun e => HNCv2.out (Option.some.inj e))).trans HBv2_10.out
    have HBv3_11 : Hid ((w11).heap[qv3]? = some (.cells #[.int .i64 1, .string pp3, .slice oD4 f4.length pD4, .string ⟨#[]⟩] 39)) := (hg.block _ (Array.getElem?_eq_some_iff.1 HBv3_10.out).1 (fun e => HNCv3.out (Option.some.inj e))).trans HBv3_10.out
    have EU_11 : Hid (CurAt w11 c1 a len cap) := hcu
    have HOR5_11 : Hid ((w11).ownsRow w.heap.size 131 2 (.slice oR5 f5.length pR5) f5.length (flatF f5)) := owns_wide ownR5 hb10.size
    have LOR5 : Hid (∀ g, (Value.ownBlock (.slice oR5 f5.length pR5)) = some g → (w10).heap.size ≤ g) := fun g hg => owns_ge ownR5 hg
    have HIR5 : Hid (∀ g, (Value.ownBlock (.slice oR5 f5.length pR5)) = some g → g < (w11).heap.size) := fun g hg => owns_lt ownR5 hg
    clear ownR5
    clear hb10 HOQ3_10 HOD4_10 HBv1_10 HBv2_10 HBv3_10 EU_10 hg hcu
    go_upto_region 8 with fail
    obtain ⟨qv4, hqv4⟩ : ∃ q, q = (w11).heap.size := ⟨_, rfl⟩
    obtain ⟨w12, hW12⟩ : ∃ W, W = (w11).alloc (.cells #[.int .i64 m5, .slice oR5 f5.length pR5, .string b5] 27) := ⟨_, rfl⟩
    have hz12 : (w11).heap.size = qv4 := hqv4.symm
    first | rw [← hW12, ← hqv4] | rw [← hW12]
    have hs12 : w12.heap.size = qv4 + 1 := by rw [hW12, ← hz12]; simp
    have bw : Below (w11).heap.size (w11) w12 := by rw [hW12]; exact (Below.refl _ _).alloc (Nat.le_refl _) _
    have hb12 : Below w.heap.size w (w12) := hb11.trans (bw.mono hb11.size)
    have HM12 : Hid ((w11).heap.size ≤ (w12).heap.size) := bw.size
    have HOQ3_12 : Hid ((w12).ownsRow w.heap.size 131 2 (.slice oQ3 f3.length pQ3) f3.length (flatF f3)) := owns_below HOQ3_11.out bw (fun g hg => owns_lt HOQ3_11.out hg)
    have HOD4_12 : Hid ((w12).ownsRow w.heap.size 131 2 (.slice oD4 f4.length pD4) f4.length (flatF f4)) := owns_below HOD4_11.out bw (fun g hg => owns_lt HOD4_11.out hg)
    have HOR5_12 : Hid ((w12).ownsRow w.heap.size 131 2 (.slice oR5 f5.length pR5) f5.length (flatF f5)) := owns_below HOR5_11.out bw (fun g hg => owns_lt HOR5_11.out hg)
    have HBv1_12 : Hid ((w12).heap[qv1]? = some (.cells #[.int .i64 0, .string ⟨#[]⟩, .slice none 0 0, .string ⟨#[]⟩] 39)) := blk_below HBv1_11.out bw
    have HBv2_12 : Hid ((w12).heap[qv2]? = some (.cells #[.int .i64 0, .slice none 0 0, .string ⟨#[]⟩] 27)) := blk_below HBv2_11.out bw
    have HBv3_12 : Hid ((w12).heap[qv3]? = some (.cells #[.int .i64 1, .string pp3, .slice oD4 f4.length pD4, .string ⟨#[]⟩] 39)) := blk_below HBv3_11.out bw
    have EU_12 : Hid (CurAt w12 c1 a len cap) := EU_11.out.below bw EU_11.out.lt
    have HNv1v4 : Hid (qv1 ≠ qv4) := fun e => by have h1 := (Array.getElem?_eq_some_iff.1 HBv1_11.out).1; omega
    have HNv2v4 : Hid (qv2 ≠ qv4) := fun e => by have h1 := (Array.getElem?_eq_some_iff.1 HBv2_11.out).1; omega
    have HNv3v4 : Hid (qv3 ≠ qv4) := fun e => by have h1 := (Array.getElem?_eq_some_iff.1 HBv3_11.out).1; omega
    have HBv4_12 : Hid ((w12).heap[qv4]? = some (.cells #[.int .i64 m5, .slice oR5 f5.length pR5, .string b5] 27)) := by show _ = _; rw [hW12, ← hz12]; exact heap_alloc_new _ _
    have HGv4 : Hid (w.heap.size ≤ qv4) := by show _ ≤ _; rw [← hz12]; exact hb11.size
    have HNCv4 : Hid (qv4 ≠ c1) := fun e => by have h1 := EU_11.out.lt; omega
    clear hb11 HOQ3_11 HOD4_11 HOR5_11 HBv1_11 HBv2_11 HBv3_11 EU_11 bw hW12 hz12
    clear hs12 hqv4
    have cv4_0 : (w12).cell? ⟨qv4, 0, none⟩ = some (.int .i64 m5) := (cell_of HBv4_12.out 0).trans rfl
    have fcv4_0 : (w12).frozen? ⟨qv4, 0, none⟩ = false := frozen_of HBv4_12.out 0
    go_upto_region 9 with fail
    obtain ⟨w13, hW13⟩ : ∃ W, W = (w12).setCell ⟨qv4, 0, none⟩ (.int .i64 200) := ⟨_, rfl⟩
    rw [← hW13]
    have hb13 : Below w.heap.size w (w13) := by rw [hW13]; exact (hb12.setCell (p := ⟨qv4, 0, none⟩) HGv4.out _)
    have HM13 : Hid ((w12).heap.size ≤ w13.heap.size) := by show _ ≤ _; rw [hW13]; simp
    have HOQ3_13 : Hid ((w13).ownsRow w.heap.size 131 2 (.slice oQ3 f3.length pQ3) f3.length (flatF f3)) := by show World.ownsRow _ _ _ _ _ _ _; rw [hW13]; exact owns_same HOQ3_12.out (fun g hg => heap_setCell_other _ _ g _ (own_ne HOQ3_12.out HBv4_12.out (by decide) g hg))
    have HOD4_13 : Hid ((w13).ownsRow w.heap.size 131 2 (.slice oD4 f4.length pD4) f4.length (flatF f4)) := by show World.ownsRow _ _ _ _ _ _ _; rw [hW13]; exact owns_same HOD4_12.out (fun g hg => heap_setCell_other _ _ g _ (own_ne HOD4_12.out HBv4_12.out (by decide) g hg))
    have HOR5_13 : Hid ((w13).ownsRow w.heap.size 131 2 (.slice oR5 f5.length pR5) f5.length (flatF f5)) := by show World.ownsRow _ _ _ _ _ _ _; rw [hW13]; exact owns_same HOR5_12.out (fun g hg => heap_setCell_other _ _ g _ (own_ne HOR5_12.out HBv4_12.out (by decide) g hg))
    have HBv1_13 : Hid ((w13).heap[qv1]? = some (.cells #[.int .i64 0, .string ⟨#[]⟩, .slice none 0 0, .string ⟨#[]⟩] 39)) := by show _ = _; rw [hW13, heap_setCell_other _ _ _ _ HNv1v4.out]; exact HBv1_12.out
    have HBv2_13 : Hid ((w13).heap[qv2]? = some (.cells #[.int .i64 0, .slice none 0 0, .string ⟨#[]⟩] 27)) := by show _ = _; rw [hW13, heap_setCell_other _ _ _ _ HNv2v4.out]; exact HBv2_12.out
    have HBv3_13 : Hid ((w13).heap[qv3]? = some (.cells #[.int .i64 1, .string pp3, .slice oD4 f4.length pD4, .string ⟨#[]⟩] 39)) := by show _ = _; rw [hW13, heap_setCell_other _ _ _ _ HNv3v4.out]; exact HBv3_12.out
    have EU_13 : Hid (CurAt w13 c1 a len cap) := by show CurAt _ _ _ _ _; rw [hW13]; exact cur_set EU_12.out HNCv4.out _ _
    have HBv4_13 : Hid ((w13).heap[qv4]? = some (.cells #[.int .i64 200, .slice oR5 f5.length pR5, .string b5] 27)) := by show _ = _; rw [hW13]; have h := heap_set _ _ 0 _ _ _ (.int .i64 200) HBv4_12.out; simpa using h
    clear hb12 HOQ3_12 HOD4_12 HOR5_12 HBv1_12 HBv2_12 HBv3_12 HBv4_12 EU_12 hW13
    clear cv4_0 fcv4_0
    have cv4_1 : (w13).cell? ⟨qv4, 1, none⟩ = some (.slice oR5 f5.length pR5) := (cell_of HBv4_13.out 1).trans rfl
    go_wp2_with fail
    refine (specPut_any _ _ _ f5 ⟨#[99, 97, 99, 104, 101, 45, 99, 111, 110, 116, 114, 111, 108]⟩ ⟨#[109, 97, 120, 45, 97, 103, 101, 61, 53]⟩ _ (FieldsV.of_owns HOR5_13.out) (by have := HFR5.out.1; omega)).mono ?_
    rintro e w14 ⟨vv, rfl, ownD6, bw⟩
    obtain ⟨f6, hf6⟩ : ∃ l, l = putF f5 ⟨#[99, 97, 99, 104, 101, 45, 99, 111, 110, 116, 114, 111, 108]⟩ ⟨#[109, 97, 120, 45, 97, 103, 101, 61, 53]⟩ := ⟨_, rfl⟩
    rw [← hf6] at ownD6
    have HFD6 : Hid (f6.length ≤ 41 ∧ ShortF f6) := by show _ ∧ _; rw [hf6]; exact ⟨Nat.le_trans (put_len _ _ _) (Nat.succ_le_succ HFR5.out.1), HFR5.out.2.put (by decide) (by decide)⟩
    clear hf6
    obtain ⟨oD6, pD6, rfl⟩ := slice_of_owns ownD6
    have hb14 : Below w.heap.size w (w14) := hb13.trans (bw.mono hb13.size)
    have HM14 : Hid ((w13).heap.size ≤ (w14).heap.size) := bw.size
    have HOQ3_14 : Hid ((w14).ownsRow w.heap.size 131 2 (.slice oQ3 f3.length pQ3) f3.length (flatF f3)) := owns_below HOQ3_13.out bw (fun g hg => owns_lt HOQ3_13.out hg)
    have HOD4_14 : Hid ((w14).ownsRow w.heap.size 131 2 (.slice oD4 f4.length pD4) f4.length (flatF f4)) := owns_below HOD4_13.out bw (fun g hg => owns_lt HOD4_13.out hg)
    have HOR5_14 : Hid ((w14).ownsRow w.heap.size 131 2 (.slice oR5 f5.length pR5) f5.length (flatF f5)) := owns_below HOR5_13.out bw (fun g hg => owns_lt HOR5_13.out hg)
    have HBv1_14 : Hid ((w14).heap[qv1]? = some (.cells #[.int .i64 0, .string ⟨#[]⟩, .slice none 0 0, .string ⟨#[]⟩] 39)) := blk_below HBv1_13.out bw
    have HBv2_14 : Hid ((w14).heap[qv2]? = some (.cells #[.int .i64 0, .slice none 0 0, .string ⟨#[]⟩] 27)) := blk_below HBv2_13.out bw
    have HBv3_14 : Hid ((w14).heap[qv3]? = some (.cells #[.int .i64 1, .string pp3, .slice oD4 f4.length pD4, .string ⟨#[]⟩] 39)) := blk_below HBv3_13.out bw
    have HBv4_14 : Hid ((w14).heap[qv4]? = some (.cells #[.int .i64 200, .slice oR5 f5.length pR5, .string b5] 27)) := blk_below HBv4_13.out bw
    have EU_14 : Hid (CurAt w14 c1 a len cap) := EU_13.out.below bw EU_13.out.lt
    have HOD6_14 : Hid ((w14).ownsRow w.heap.size 131 2 (.slice oD6 f6.length pD6) f6.length (flatF f6)) := owns_wide ownD6 hb13.size
    have LOD6 : Hid (∀ g, (Value.ownBlock (.slice oD6 f6.length pD6)) = some g → (w13).heap.size ≤ g) := fun g hg => owns_ge ownD6 hg
    have HID6 : Hid (∀ g, (Value.ownBlock (.slice oD6 f6.length pD6)) = some g → g < (w14).heap.size) := fun g hg => owns_lt ownD6 hg
    clear ownD6
    clear hb13 HOQ3_13 HOD4_13 HOR5_13 HBv1_13 HBv2_13 HBv3_13 HBv4_13 EU_13 bw
    clear cv4_1
    have cv4_1 : (w14).cell? ⟨qv4, 1, none⟩ = some (.slice oR5 f5.length pR5) := (cell_of HBv4_14.out 1).trans rfl
    have fcv4_1 : (w14).frozen? ⟨qv4, 1, none⟩ = false := frozen_of HBv4_14.out 1
    go_upto_region 10 with fail
    obtain ⟨w15, hW15⟩ : ∃ W, W = (w14).setCell ⟨qv4, 1, none⟩ (.slice oD6 f6.length pD6) := ⟨_, rfl⟩
    rw [← hW15]
    have hb15 : Below w.heap.size w (w15) := by rw [hW15]; exact (hb14.setCell (p := ⟨qv4, 1, none⟩) HGv4.out _)
    have HM15 : Hid ((w14).heap.size ≤ w15.heap.size) := by show _ ≤ _; rw [hW15]; simp
    have HOQ3_15 : Hid ((w15).ownsRow w.heap.size 131 2 (.slice oQ3 f3.length pQ3) f3.length (flatF f3)) := by show World.ownsRow _ _ _ _ _ _ _; rw [hW15]; exact owns_same HOQ3_14.out (fun g hg => heap_setCell_other _ _ g _ (own_ne HOQ3_14.out HBv4_14.out (by decide) g hg))
    have HOD4_15 : Hid ((w15).ownsRow w.heap.size 131 2 (.slice oD4 f4.length pD4) f4.length (flatF f4)) := by show World.ownsRow _ _ _ _ _ _ _; rw [hW15]; exact owns_same HOD4_14.out (fun g hg => heap_setCell_other _ _ g _ (own_ne HOD4_14.out HBv4_14.out (by decide) g hg))
    have HOR5_15 : Hid ((w15).ownsRow w.heap.size 131 2 (.slice oR5 f5.length pR5) f5.length (flatF f5)) := by show World.ownsRow _ _ _ _ _ _ _; rw [hW15]; exact owns_same HOR5_14.out (fun g hg => heap_setCell_other _ _ g _ (own_ne HOR5_14.out HBv4_14.out (by decide) g hg))
    have HOD6_15 : Hid ((w15).ownsRow w.heap.size 131 2 (.slice oD6 f6.length pD6) f6.length (flatF f6)) := by show World.ownsRow _ _ _ _ _ _ _; rw [hW15]; exact owns_same HOD6_14.out (fun g hg => heap_setCell_other _ _ g _ (own_ne HOD6_14.out HBv4_14.out (by decide) g hg))
    have HBv1_15 : Hid ((w15).heap[qv1]? = some (.cells #[.int .i64 0, .string ⟨#[]⟩, .slice none 0 0, .string ⟨#[]⟩] 39)) := by show _ = _; rw [hW15, heap_setCell_other _ _ _ _ HNv1v4.out]; exact HBv1_14.out
    have HBv2_15 : Hid ((w15).heap[qv2]? = some (.cells #[.int .i64 0, .slice none 0 0, .string ⟨#[]⟩] 27)) := by show _ = _; rw [hW15, heap_setCell_other _ _ _ _ HNv2v4.out]; exact HBv2_14.out
    have HBv3_15 : Hid ((w15).heap[qv3]? = some (.cells #[.int .i64 1, .string pp3, .slice oD4 f4.length pD4, .string ⟨#[]⟩] 39)) := by show _ = _; rw [hW15, heap_setCell_other _ _ _ _ HNv3v4.out]; exact HBv3_14.out
    have EU_15 : Hid (CurAt w15 c1 a len cap) := by show CurAt _ _ _ _ _; rw [hW15]; exact cur_set EU_14.out HNCv4.out _ _
    have HBv4_15 : Hid ((w15).heap[qv4]? = some (.cells #[.int .i64 200, .slice oD6 f6.length pD6, .string b5] 27)) := by show _ = _; rw [hW15]; have h := heap_set _ _ 1 _ _ _ (.slice oD6 f6.length pD6) HBv4_14.out; simpa using h
    clear hb14 HOQ3_14 HOD4_14 HOR5_14 HOD6_14 HBv1_14 HBv2_14 HBv3_14 HBv4_14 EU_14 hW15
    clear cv4_1 fcv4_1
    go_upto_region 10 with fail
    refine wp_region_held_drew (S := fun W => W.heap[qv3]? = some (.cells #[.int .i64 1, .string pp3, .slice oD4 f4.length pD4, .string ⟨#[]⟩] 39) ∧ W.heap[qv4]? = some (.cells #[.int .i64 200, .slice oD6 f6.length pD6, .string b5] 27)) (by kernel_rfl) ⟨HBv3_15.out, HBv4_15.out⟩ (fun _ => ?_)
    obtain ⟨w16, hX⟩ : ∃ X, X = w15.drew := ⟨_, rfl⟩
    have bw : Below w15.heap.size w15 w16 := by rw [hX]; exact (Below.refl _ _).drew
    rw [← hX]
    have hb16 : Below w.heap.size w (w16) := hb15.trans (bw.mono hb15.size)
    have HM16 : Hid ((w15).heap.size ≤ (w16).heap.size) := bw.size
    have HOQ3_16 : Hid ((w16).ownsRow w.heap.size 131 2 (.slice oQ3 f3.length pQ3) f3.length (flatF f3)) := owns_below HOQ3_15.out bw (fun g hg => owns_lt HOQ3_15.out hg)
    have HOD4_16 : Hid ((w16).ownsRow w.heap.size 131 2 (.slice oD4 f4.length pD4) f4.length (flatF f4)) := owns_below HOD4_15.out bw (fun g hg => owns_lt HOD4_15.out hg)
    have HOR5_16 : Hid ((w16).ownsRow w.heap.size 131 2 (.slice oR5 f5.length pR5) f5.length (flatF f5)) := owns_below HOR5_15.out bw (fun g hg => owns_lt HOR5_15.out hg)
    have HOD6_16 : Hid ((w16).ownsRow w.heap.size 131 2 (.slice oD6 f6.length pD6) f6.length (flatF f6)) := owns_below HOD6_15.out bw (fun g hg => owns_lt HOD6_15.out hg)
    have HBv1_16 : Hid ((w16).heap[qv1]? = some (.cells #[.int .i64 0, .string ⟨#[]⟩, .slice none 0 0, .string ⟨#[]⟩] 39)) := blk_below HBv1_15.out bw
    have HBv2_16 : Hid ((w16).heap[qv2]? = some (.cells #[.int .i64 0, .slice none 0 0, .string ⟨#[]⟩] 27)) := blk_below HBv2_15.out bw
    have HBv3_16 : Hid ((w16).heap[qv3]? = some (.cells #[.int .i64 1, .string pp3, .slice oD4 f4.length pD4, .string ⟨#[]⟩] 39)) := blk_below HBv3_15.out bw
    have HBv4_16 : Hid ((w16).heap[qv4]? = some (.cells #[.int .i64 200, .slice oD6 f6.length pD6, .string b5] 27)) := blk_below HBv4_15.out bw
    have EU_16 : Hid (CurAt w16 c1 a len cap) := EU_15.out.below bw EU_15.out.lt
    have hS16 : w16.heap[qv3]? = some (.cells #[.int .i64 1, .string pp3, .slice oD4 f4.length pD4, .string ⟨#[]⟩] 39) ∧ w16.heap[qv4]? = some (.cells #[.int .i64 200, .slice oD6 f6.length pD6, .string b5] 27) := ⟨HBv3_16.out, HBv4_16.out⟩
    clear hb15 HOQ3_15 HOD4_15 HOR5_15 HOD6_15 HBv1_15 HBv2_15 HBv3_15 HBv4_15 EU_15 bw hX
    refine wpAnyH_takeD (i := 0) (v := .agg #[.int .i64 1, .string pp3, .slice oD4 f4.length pD4, .string ⟨#[]⟩]) (some 30) rfl rfl (by kernel_rfl) (by kernel_rfl) (by kernel_rfl) (fun _ _ _ h => h) (Or.inl ⟨by rfl, by intro W hW; obtain ⟨hhv3, hhv4⟩ := hW; have y0 := (cell_of hhv3 0).trans rfl; have y1 := (cell_of hhv3 1).trans rfl; have y2 := (cell_of hhv3 2).trans rfl; have y3 := (cell_of hhv3 3).trans rfl; go_simp⟩) hS16 ?_
    simp only [Act.put, List.setIfInBounds_toArray, List.set_cons_zero, List.set_cons_succ]
    refine wpAnyH_takeD (i := 1) (v := .agg #[.int .i64 200, .slice oD6 f6.length pD6, .string b5]) (some 31) rfl rfl (by kernel_rfl) (by kernel_rfl) (by kernel_rfl) (fun _ _ _ h => h) (Or.inl ⟨by rfl, by intro W hW; obtain ⟨hhv3, hhv4⟩ := hW; have y0 := (cell_of hhv4 0).trans rfl; have y1 := (cell_of hhv4 1).trans rfl; have y2 := (cell_of hhv4 2).trans rfl; go_simp⟩) hS16 ?_
    simp only [Act.put, List.setIfInBounds_toArray, List.set_cons_zero, List.set_cons_succ]
    refine wpAnyH_takeD (i := 2) (v := .pointer (some ⟨c1, 0, none⟩)) (some 32) rfl rfl (by kernel_rfl) (by kernel_rfl) (by kernel_rfl) (fun _ _ _ h => h) (Or.inl ⟨by rfl, by intro W _; go_simp⟩) hS16 ?_
    simp only [Act.put, List.setIfInBounds_toArray, List.set_cons_zero, List.set_cons_succ]
    refine wpAnyH_ready (rs := [3]) (by kernel_rfl) (by simp) ?_
    refine AllReadyH.cons rfl (fun K hK => ?_) AllReadyH.nil
    go_simp
    refine (l7DrawTime_any c1 w.heap.size a len cap zs _ EU_16.out (HCO.out _ hb16) HBC.out).mono ?_
    rintro e w17 ⟨tm7, rfl, ht07, ht17, hcu, hg⟩
    have HTM7 : Hid (-9223372036854775808 ≤ tm7 ∧ tm7 ≤ 9223372036854775807) := ⟨ht07, ht17⟩
    clear ht07 ht17
    have hb17 : Below w.heap.size w (w17) := hb16.grown hg hb16.size (by intro k hk; cases hk; exact HGC.out)
    have HM17 : Hid ((w16).heap.size ≤ (w17).heap.size) := hg.size
    have HOQ3_17 : Hid ((w17).ownsRow w.heap.size 131 2 (.slice oQ3 f3.length pQ3) f3.length (flatF f3)) := owns_same HOQ3_16.out (fun g hgg => hg.block g (owns_lt HOQ3_16.out hgg) (fun e => own_cur HOQ3_16.out EU_16.out (by decide) g hgg (Option.some.inj e)))
    have HOD4_17 : Hid ((w17).ownsRow w.heap.size 131 2 (.slice oD4 f4.length pD4) f4.length (flatF f4)) := owns_same HOD4_16.out (fun g hgg => hg.block g (owns_lt HOD4_16.out hgg) (fun e => own_cur HOD4_16.out EU_16.out (by decide) g hgg (Option.some.inj e)))
    have HOR5_17 : Hid ((w17).ownsRow w.heap.size 131 2 (.slice oR5 f5.length pR5) f5.length (flatF f5)) := owns_same HOR5_16.out (fun g hgg => hg.block g (owns_lt HOR5_16.out hgg) (fun e => own_cur HOR5_16.out EU_16.out (by decide) g hgg (Option.some.inj e)))
    have HOD6_17 : Hid ((w17).ownsRow w.heap.size 131 2 (.slice oD6 f6.length pD6) f6.length (flatF f6)) := owns_same HOD6_16.out (fun g hgg => hg.block g (owns_lt HOD6_16.out hgg) (fun e => own_cur HOD6_16.out EU_16.out (by decide) g hgg (Option.some.inj e)))
    have HBv1_17 : Hid ((w17).heap[qv1]? = some (.cells #[.int .i64 0, .string ⟨#[]⟩, .slice none 0 0, .string ⟨#[]⟩] 39)) := (hg.block _ (Array.getElem?_eq_some_iff.1 HBv1_16.out).1 (fun e => HNCv1.out (Option.some.inj e))).trans HBv1_16.out
    have HBv2_17 : Hid ((w17).heap[qv2]? = some (.cells #[.int .i64 0, .slice none 0 0, .string ⟨#[]⟩] 27)) := (hg.block _ (Array.getElem?_eq_some_iff.1 HBv2_16.out).1 (fun e => HNCv2.out (Option.some.inj e))).trans HBv2_16.out
    have HBv3_17 : Hid ((w17).heap[qv3]? = some (.cells #[.int .i64 1, .string pp3, .slice oD4 f4.length pD4, .string ⟨#[]⟩] 39)) := (hg.block _ (Array.getElem?_eq_some_iff.1 HBv3_16.out).1 (fun e => HNCv3.out (Option.some.inj e))).trans HBv3_16.out
    have HBv4_17 : Hid ((w17).heap[qv4]? = some (.cells #[.int .i64 200, .slice oD6 f6.length pD6, .string b5] 27)) := (hg.block _ (Array.getElem?_eq_some_iff.1 HBv4_16.out).1 (fun e => HNCv4.out (Option.some.inj e))).trans HBv4_16.out
    have EU_17 : Hid (CurAt w17 c1 a len cap) := hcu
    clear hb16 HOQ3_16 HOD4_16 HOR5_16 HOD6_16 HBv1_16 HBv2_16 HBv3_16 HBv4_16 EU_16 hg hcu
    have hS17 : w17.heap[qv3]? = some (.cells #[.int .i64 1, .string pp3, .slice oD4 f4.length pD4, .string ⟨#[]⟩] 39) ∧ w17.heap[qv4]? = some (.cells #[.int .i64 200, .slice oD6 f6.length pD6, .string b5] 27) := ⟨HBv3_17.out, HBv4_17.out⟩
    refine hK.out _ _ hS17 (fun _ => ?_)
    clear hK K hS16
    refine wpAnyH_ready (rs := [4]) (by kernel_rfl) (by simp) ?_
    refine AllReadyH.cons rfl (fun K hK => ?_) AllReadyH.nil
    have ce0 : (w17).cell? ⟨qv1, 0, none⟩ = some (.int .i64 0) := (cell_of HBv1_17.out 0).trans rfl
    have fe0 : (w17).frozen? ⟨qv1, 0, none⟩ = false := frozen_of HBv1_17.out 0
    have ce1 : (w17).cell? ⟨qv1, 1, none⟩ = some (.string ⟨#[]⟩) := (cell_of HBv1_17.out 1).trans rfl
    have fe1 : (w17).frozen? ⟨qv1, 1, none⟩ = false := frozen_of HBv1_17.out 1
    have ce2 : (w17).cell? ⟨qv1, 2, none⟩ = some (.slice none 0 0) := (cell_of HBv1_17.out 2).trans rfl
    have fe2 : (w17).frozen? ⟨qv1, 2, none⟩ = false := frozen_of HBv1_17.out 2
    have ce3 : (w17).cell? ⟨qv1, 3, none⟩ = some (.string ⟨#[]⟩) := (cell_of HBv1_17.out 3).trans rfl
    have fe3 : (w17).frozen? ⟨qv1, 3, none⟩ = false := frozen_of HBv1_17.out 3
    obtain ⟨w18, hY⟩ : ∃ Y, Y = ((((w17.setCell ⟨qv1, 0, none⟩ (.int .i64 1)).setCell ⟨qv1, 1, none⟩ (.string pp3)).setCell ⟨qv1, 2, none⟩ (.slice oD4 f4.length pD4)).setCell ⟨qv1, 3, none⟩ (.string ⟨#[]⟩)) := ⟨_, rfl⟩
    have HY : Hid (((((w17.setCell ⟨qv1, 0, none⟩ (.int .i64 1)).setCell ⟨qv1, 1, none⟩ (.string pp3)).setCell ⟨qv1, 2, none⟩ (.slice oD4 f4.length pD4)).setCell ⟨qv1, 3, none⟩ (.string ⟨#[]⟩)) = w18) := hY.symm
    have hb18 : Below w.heap.size w (w18) := by rw [hY]; exact ((((hb17.setCell (p := ⟨qv1, 0, none⟩) HGv1.out _).setCell (p := ⟨qv1, 1, none⟩) HGv1.out _).setCell (p := ⟨qv1, 2, none⟩) HGv1.out _).setCell (p := ⟨qv1, 3, none⟩) HGv1.out _)
    have HM18 : Hid ((w17).heap.size ≤ w18.heap.size) := by show _ ≤ _; rw [hY]; simp
    have HOQ3_18 : Hid ((w18).ownsRow w.heap.size 131 2 (.slice oQ3 f3.length pQ3) f3.length (flatF f3)) := by show World.ownsRow _ _ _ _ _ _ _; rw [hY]; exact owns_same HOQ3_17.out (fun g hg => by have hne := own_ne HOQ3_17.out HBv1_17.out (by decide) g hg; rw [heap_setCell_other _ _ g _ hne, heap_setCell_other _ _ g _ hne, heap_setCell_other _ _ g _ hne, heap_setCell_other _ _ g _ hne])
    have HOD4_18 : Hid ((w18).ownsRow w.heap.size 131 2 (.slice oD4 f4.length pD4) f4.length (flatF f4)) := by show World.ownsRow _ _ _ _ _ _ _; rw [hY]; exact owns_same HOD4_17.out (fun g hg => by have hne := own_ne HOD4_17.out HBv1_17.out (by decide) g hg; rw [heap_setCell_other _ _ g _ hne, heap_setCell_other _ _ g _ hne, heap_setCell_other _ _ g _ hne, heap_setCell_other _ _ g _ hne])
    have HOR5_18 : Hid ((w18).ownsRow w.heap.size 131 2 (.slice oR5 f5.length pR5) f5.length (flatF f5)) := by show World.ownsRow _ _ _ _ _ _ _; rw [hY]; exact owns_same HOR5_17.out (fun g hg => by have hne := own_ne HOR5_17.out HBv1_17.out (by decide) g hg; rw [heap_setCell_other _ _ g _ hne, heap_setCell_other _ _ g _ hne, heap_setCell_other _ _ g _ hne, heap_setCell_other _ _ g _ hne])
    have HOD6_18 : Hid ((w18).ownsRow w.heap.size 131 2 (.slice oD6 f6.length pD6) f6.length (flatF f6)) := by show World.ownsRow _ _ _ _ _ _ _; rw [hY]; exact owns_same HOD6_17.out (fun g hg => by have hne := own_ne HOD6_17.out HBv1_17.out (by decide) g hg; rw [heap_setCell_other _ _ g _ hne, heap_setCell_other _ _ g _ hne, heap_setCell_other _ _ g _ hne, heap_setCell_other _ _ g _ hne])
    have HBv2_18 : Hid ((w18).heap[qv2]? = some (.cells #[.int .i64 0, .slice none 0 0, .string ⟨#[]⟩] 27)) := by show _ = _; rw [hY, heap_setCell_other _ _ _ _ HNv1v2.out.symm, heap_setCell_other _ _ _ _ HNv1v2.out.symm, heap_setCell_other _ _ _ _ HNv1v2.out.symm, heap_setCell_other _ _ _ _ HNv1v2.out.symm]; exact HBv2_17.out
    have HBv3_18 : Hid ((w18).heap[qv3]? = some (.cells #[.int .i64 1, .string pp3, .slice oD4 f4.length pD4, .string ⟨#[]⟩] 39)) := by show _ = _; rw [hY, heap_setCell_other _ _ _ _ HNv1v3.out.symm, heap_setCell_other _ _ _ _ HNv1v3.out.symm, heap_setCell_other _ _ _ _ HNv1v3.out.symm, heap_setCell_other _ _ _ _ HNv1v3.out.symm]; exact HBv3_17.out
    have HBv4_18 : Hid ((w18).heap[qv4]? = some (.cells #[.int .i64 200, .slice oD6 f6.length pD6, .string b5] 27)) := by show _ = _; rw [hY, heap_setCell_other _ _ _ _ HNv1v4.out.symm, heap_setCell_other _ _ _ _ HNv1v4.out.symm, heap_setCell_other _ _ _ _ HNv1v4.out.symm, heap_setCell_other _ _ _ _ HNv1v4.out.symm]; exact HBv4_17.out
    have EU_18 : Hid (CurAt w18 c1 a len cap) := by show CurAt _ _ _ _ _; rw [hY]; exact (cur_set (cur_set (cur_set (cur_set EU_17.out HNCv1.out 0 _) HNCv1.out 1 _) HNCv1.out 2 _) HNCv1.out 3 _)
    have HBv1_18 : Hid ((w18).heap[qv1]? = some (.cells #[.int .i64 1, .string pp3, .slice oD4 f4.length pD4, .string ⟨#[]⟩] 39)) := by show _ = _; rw [hY]; have h := (heap_set _ qv1 3 _ _ _ (.string ⟨#[]⟩) (heap_set _ qv1 2 _ _ _ (.slice oD4 f4.length pD4) (heap_set _ qv1 1 _ _ _ (.string pp3) (heap_set _ qv1 0 _ _ _ (.int .i64 1) HBv1_17.out)))); simpa using h
    clear hY hb17 HOQ3_17 HOD4_17 HOR5_17 HOD6_17 HBv1_17 HBv2_17 HBv3_17 HBv4_17 EU_17
    go_simp
    rw [HY.out]
    have hS18 : w18.heap[qv3]? = some (.cells #[.int .i64 1, .string pp3, .slice oD4 f4.length pD4, .string ⟨#[]⟩] 39) ∧ w18.heap[qv4]? = some (.cells #[.int .i64 200, .slice oD6 f6.length pD6, .string b5] 27) := ⟨HBv3_18.out, HBv4_18.out⟩
    refine hK.out _ _ hS18 (fun _ => ?_)
    clear hK K HY hS17 ce0 fe0 ce1 fe1 ce2 fe2 ce3 fe3
    refine wpAnyH_ready (rs := [5]) (by kernel_rfl) (by simp) ?_
    refine AllReadyH.cons rfl (fun K hK => ?_) AllReadyH.nil
    have ce0 : (w18).cell? ⟨qv2, 0, none⟩ = some (.int .i64 0) := (cell_of HBv2_18.out 0).trans rfl
    have fe0 : (w18).frozen? ⟨qv2, 0, none⟩ = false := frozen_of HBv2_18.out 0
    have ce1 : (w18).cell? ⟨qv2, 1, none⟩ = some (.slice none 0 0) := (cell_of HBv2_18.out 1).trans rfl
    have fe1 : (w18).frozen? ⟨qv2, 1, none⟩ = false := frozen_of HBv2_18.out 1
    have ce2 : (w18).cell? ⟨qv2, 2, none⟩ = some (.string ⟨#[]⟩) := (cell_of HBv2_18.out 2).trans rfl
    have fe2 : (w18).frozen? ⟨qv2, 2, none⟩ = false := frozen_of HBv2_18.out 2
    obtain ⟨w19, hY⟩ : ∃ Y, Y = (((w18.setCell ⟨qv2, 0, none⟩ (.int .i64 200)).setCell ⟨qv2, 1, none⟩ (.slice oD6 f6.length pD6)).setCell ⟨qv2, 2, none⟩ (.string b5)) := ⟨_, rfl⟩
    have HY : Hid ((((w18.setCell ⟨qv2, 0, none⟩ (.int .i64 200)).setCell ⟨qv2, 1, none⟩ (.slice oD6 f6.length pD6)).setCell ⟨qv2, 2, none⟩ (.string b5)) = w19) := hY.symm
    have hb19 : Below w.heap.size w (w19) := by rw [hY]; exact (((hb18.setCell (p := ⟨qv2, 0, none⟩) HGv2.out _).setCell (p := ⟨qv2, 1, none⟩) HGv2.out _).setCell (p := ⟨qv2, 2, none⟩) HGv2.out _)
    have HM19 : Hid ((w18).heap.size ≤ w19.heap.size) := by show _ ≤ _; rw [hY]; simp
    have HOQ3_19 : Hid ((w19).ownsRow w.heap.size 131 2 (.slice oQ3 f3.length pQ3) f3.length (flatF f3)) := by show World.ownsRow _ _ _ _ _ _ _; rw [hY]; exact owns_same HOQ3_18.out (fun g hg => by have hne := own_ne HOQ3_18.out HBv2_18.out (by decide) g hg; rw [heap_setCell_other _ _ g _ hne, heap_setCell_other _ _ g _ hne, heap_setCell_other _ _ g _ hne])
    have HOD4_19 : Hid ((w19).ownsRow w.heap.size 131 2 (.slice oD4 f4.length pD4) f4.length (flatF f4)) := by show World.ownsRow _ _ _ _ _ _ _; rw [hY]; exact owns_same HOD4_18.out (fun g hg => by have hne := own_ne HOD4_18.out HBv2_18.out (by decide) g hg; rw [heap_setCell_other _ _ g _ hne, heap_setCell_other _ _ g _ hne, heap_setCell_other _ _ g _ hne])
    have HOR5_19 : Hid ((w19).ownsRow w.heap.size 131 2 (.slice oR5 f5.length pR5) f5.length (flatF f5)) := by show World.ownsRow _ _ _ _ _ _ _; rw [hY]; exact owns_same HOR5_18.out (fun g hg => by have hne := own_ne HOR5_18.out HBv2_18.out (by decide) g hg; rw [heap_setCell_other _ _ g _ hne, heap_setCell_other _ _ g _ hne, heap_setCell_other _ _ g _ hne])
    have HOD6_19 : Hid ((w19).ownsRow w.heap.size 131 2 (.slice oD6 f6.length pD6) f6.length (flatF f6)) := by show World.ownsRow _ _ _ _ _ _ _; rw [hY]; exact owns_same HOD6_18.out (fun g hg => by have hne := own_ne HOD6_18.out HBv2_18.out (by decide) g hg; rw [heap_setCell_other _ _ g _ hne, heap_setCell_other _ _ g _ hne, heap_setCell_other _ _ g _ hne])
    have HBv1_19 : Hid ((w19).heap[qv1]? = some (.cells #[.int .i64 1, .string pp3, .slice oD4 f4.length pD4, .string ⟨#[]⟩] 39)) := by show _ = _; rw [hY, heap_setCell_other _ _ _ _ HNv1v2.out, heap_setCell_other _ _ _ _ HNv1v2.out, heap_setCell_other _ _ _ _ HNv1v2.out]; exact HBv1_18.out
    have HBv3_19 : Hid ((w19).heap[qv3]? = some (.cells #[.int .i64 1, .string pp3, .slice oD4 f4.length pD4, .string ⟨#[]⟩] 39)) := by show _ = _; rw [hY, heap_setCell_other _ _ _ _ HNv2v3.out.symm, heap_setCell_other _ _ _ _ HNv2v3.out.symm, heap_setCell_other _ _ _ _ HNv2v3.out.symm]; exact HBv3_18.out
    have HBv4_19 : Hid ((w19).heap[qv4]? = some (.cells #[.int .i64 200, .slice oD6 f6.length pD6, .string b5] 27)) := by show _ = _; rw [hY, heap_setCell_other _ _ _ _ HNv2v4.out.symm, heap_setCell_other _ _ _ _ HNv2v4.out.symm, heap_setCell_other _ _ _ _ HNv2v4.out.symm]; exact HBv4_18.out
    have EU_19 : Hid (CurAt w19 c1 a len cap) := by show CurAt _ _ _ _ _; rw [hY]; exact (cur_set (cur_set (cur_set EU_18.out HNCv2.out 0 _) HNCv2.out 1 _) HNCv2.out 2 _)
    have HBv2_19 : Hid ((w19).heap[qv2]? = some (.cells #[.int .i64 200, .slice oD6 f6.length pD6, .string b5] 27)) := by show _ = _; rw [hY]; have h := (heap_set _ qv2 2 _ _ _ (.string b5) (heap_set _ qv2 1 _ _ _ (.slice oD6 f6.length pD6) (heap_set _ qv2 0 _ _ _ (.int .i64 200) HBv2_18.out))); simpa using h
    clear hY hb18 HOQ3_18 HOD4_18 HOR5_18 HOD6_18 HBv1_18 HBv2_18 HBv3_18 HBv4_18 EU_18
    go_simp
    rw [HY.out]
    have hS19 : w19.heap[qv3]? = some (.cells #[.int .i64 1, .string pp3, .slice oD4 f4.length pD4, .string ⟨#[]⟩] 39) ∧ w19.heap[qv4]? = some (.cells #[.int .i64 200, .slice oD6 f6.length pD6, .string b5] 27) := ⟨HBv3_19.out, HBv4_19.out⟩
    refine hK.out _ _ hS19 (fun _ => ?_)
    clear hK K HY hS18 ce0 fe0 ce1 fe1 ce2 fe2
    refine wpAnyH_takeD (i := 6) (v := .int .i64 tm7) (some 4) rfl rfl (by kernel_rfl) (by kernel_rfl) (by kernel_rfl) (fun _ _ _ h => h) (Or.inl ⟨by rfl, by intro W _; go_simp⟩) hS19 ?_
    simp only [Act.put, List.setIfInBounds_toArray, List.set_cons_zero, List.set_cons_succ]
    clear hS19
    refine wpAnyH_done (by kernel_rfl) ?_ _
    go_wp2_with fail
    have kv1_0 : (w19).cell? ⟨qv1, 0, none⟩ = some (.int .i64 1) := (cell_of HBv1_19.out 0).trans rfl
    have kv1_1 : (w19).cell? ⟨qv1, 1, none⟩ = some (.string pp3) := (cell_of HBv1_19.out 1).trans rfl
    have kv1_2 : (w19).cell? ⟨qv1, 2, none⟩ = some (.slice oD4 f4.length pD4) := (cell_of HBv1_19.out 2).trans rfl
    have kv1_3 : (w19).cell? ⟨qv1, 3, none⟩ = some (.string ⟨#[]⟩) := (cell_of HBv1_19.out 3).trans rfl
    have kv2_0 : (w19).cell? ⟨qv2, 0, none⟩ = some (.int .i64 200) := (cell_of HBv2_19.out 0).trans rfl
    have kv2_1 : (w19).cell? ⟨qv2, 1, none⟩ = some (.slice oD6 f6.length pD6) := (cell_of HBv2_19.out 1).trans rfl
    have kv2_2 : (w19).cell? ⟨qv2, 2, none⟩ = some (.string b5) := (cell_of HBv2_19.out 2).trans rfl
    refine bodyPost_ret (v := .tuple #[.agg #[.int .i64 1, .string pp3, .slice oD4 f4.length pD4, .string ⟨#[]⟩], .agg #[.int .i64 200, .slice oD6 f6.length pD6, .string b5], .int .i64 tm7]) (by simp [results, Tryz.results16, go_sem, kv1_0, kv1_1, kv1_2, kv1_3, kv2_0, kv2_1, kv2_2]) rfl ?_
    exact ⟨_, _, _, _, _, _, _, _, _, _, rfl, HPQ3.out, HOD4_19.out, ⟨Nat.le_trans HFD4.out.1 (by decide), HFD4.out.2⟩, by decide, HOD6_19.out, ⟨Nat.le_trans HFD6.out.1 (by decide), HFD6.out.2⟩, Nat.le_trans HDR5.out (by decide), HTM7.out, hb19⟩
  · go_wp2_with fail
    refine (l9Draw_any a len cap zs _ ((HCO.out _ hb4).upTo hb4.size)).mono ?_
    rintro e w5 ⟨m3, pp3, vv1, f3, b3, st3, vv2, g3, d3, rfl, hm3, hp3, ownQ3, hl3, hs3, hbz3, hst3, ownR3, hl23, hs23, hd3, ne3, bw⟩
    obtain ⟨oQ3, pQ3, rfl⟩ := slice_of_owns ownQ3
    obtain ⟨oR3, pR3, rfl⟩ := slice_of_owns ownR3
    have HFQ3 : Hid (f3.length ≤ 40 ∧ ShortF f3) := ⟨hl3, hs3⟩
    have HFR3 : Hid (g3.length ≤ 40 ∧ ShortF g3) := ⟨hl23, hs23⟩
    have HPQ3 : Hid (pp3.size ≤ 64) := hp3
    have HBQ : Hid (b3.size ≤ 140) := hbz3
    have HDR3 : Hid (d3.size ≤ 140) := hd3
    have AP3 : Hid (∀ j, (Value.slice oQ3 f3.length pQ3).ownBlock = some j → (Value.slice oR3 g3.length pR3).ownBlock ≠ some j) := ne3
    clear hl3 hs3 hm3 hbz3 hp3 hst3 hl23 hs23 hd3 ne3
    have hb5 : Below w.heap.size w (w5) := hb4.trans (bw.mono hb4.size)
    have HM5 : Hid ((w4).heap.size ≤ (w5).heap.size) := bw.size
    have HBv1_5 : Hid ((w5).heap[qv1]? = some (.cells #[.int .i64 0, .string ⟨#[]⟩, .slice none 0 0, .string ⟨#[]⟩] 39)) := blk_below HBv1_4.out bw
    have HBv2_5 : Hid ((w5).heap[qv2]? = some (.cells #[.int .i64 0, .slice none 0 0, .string ⟨#[]⟩] 27)) := blk_below HBv2_4.out bw
    have EU_5 : Hid (CurAt w5 c1 a len cap) := EU_4.out.below bw EU_4.out.lt
    have HOQ3_5 : Hid ((w5).ownsRow w.heap.size 131 2 (.slice oQ3 f3.length pQ3) f3.length (flatF f3)) := owns_wide ownQ3 hb4.size
    have LOQ3 : Hid (∀ g, (Value.ownBlock (.slice oQ3 f3.length pQ3)) = some g → (w4).heap.size ≤ g) := fun g hg => owns_ge ownQ3 hg
    have HIQ3 : Hid (∀ g, (Value.ownBlock (.slice oQ3 f3.length pQ3)) = some g → g < (w5).heap.size) := fun g hg => owns_lt ownQ3 hg
    clear ownQ3
    have HOR3_5 : Hid ((w5).ownsRow w.heap.size 131 2 (.slice oR3 g3.length pR3) g3.length (flatF g3)) := owns_wide ownR3 hb4.size
    have LOR3 : Hid (∀ g, (Value.ownBlock (.slice oR3 g3.length pR3)) = some g → (w4).heap.size ≤ g) := fun g hg => owns_ge ownR3 hg
    have HIR3 : Hid (∀ g, (Value.ownBlock (.slice oR3 g3.length pR3)) = some g → g < (w5).heap.size) := fun g hg => owns_lt ownR3 hg
    clear ownR3
    clear hb4 HBv1_4 HBv2_4 EU_4 bw
    go_upto_region 12 with fail
    obtain ⟨qv3, hqv3⟩ : ∃ q, q = (w5).heap.size := ⟨_, rfl⟩
    obtain ⟨w6, hW6⟩ : ∃ W, W = (w5).alloc (.cells #[.int .i64 m3, .string pp3, .slice oQ3 f3.length pQ3, .string b3] 39) := ⟨_, rfl⟩
    have hz6 : (w5).heap.size = qv3 := hqv3.symm
    first | rw [← hW6, ← hqv3] | rw [← hW6]
    have hs6 : w6.heap.size = qv3 + 1 := by rw [hW6, ← hz6]; simp
    have bw : Below (w5).heap.size (w5) w6 := by rw [hW6]; exact (Below.refl _ _).alloc (Nat.le_refl _) _
    have hb6 : Below w.heap.size w (w6) := hb5.trans (bw.mono hb5.size)
    have HM6 : Hid ((w5).heap.size ≤ (w6).heap.size) := bw.size
    have HOQ3_6 : Hid ((w6).ownsRow w.heap.size 131 2 (.slice oQ3 f3.length pQ3) f3.length (flatF f3)) := owns_below HOQ3_5.out bw (fun g hg => owns_lt HOQ3_5.out hg)
    have HOR3_6 : Hid ((w6).ownsRow w.heap.size 131 2 (.slice oR3 g3.length pR3) g3.length (flatF g3)) := owns_below HOR3_5.out bw (fun g hg => owns_lt HOR3_5.out hg)
    have HBv1_6 : Hid ((w6).heap[qv1]? = some (.cells #[.int .i64 0, .string ⟨#[]⟩, .slice none 0 0, .string ⟨#[]⟩] 39)) := blk_below HBv1_5.out bw
    have HBv2_6 : Hid ((w6).heap[qv2]? = some (.cells #[.int .i64 0, .slice none 0 0, .string ⟨#[]⟩] 27)) := blk_below HBv2_5.out bw
    have EU_6 : Hid (CurAt w6 c1 a len cap) := EU_5.out.below bw EU_5.out.lt
    have HNv1v3 : Hid (qv1 ≠ qv3) := fun e => by have h1 := (Array.getElem?_eq_some_iff.1 HBv1_5.out).1; omega
    have HNv2v3 : Hid (qv2 ≠ qv3) := fun e => by have h1 := (Array.getElem?_eq_some_iff.1 HBv2_5.out).1; omega
    have HBv3_6 : Hid ((w6).heap[qv3]? = some (.cells #[.int .i64 m3, .string pp3, .slice oQ3 f3.length pQ3, .string b3] 39)) := by show _ = _; rw [hW6, ← hz6]; exact heap_alloc_new _ _
    have HGv3 : Hid (w.heap.size ≤ qv3) := by show _ ≤ _; rw [← hz6]; exact hb5.size
    have HNCv3 : Hid (qv3 ≠ c1) := fun e => by have h1 := EU_5.out.lt; omega
    clear hb5 HOQ3_5 HOR3_5 HBv1_5 HBv2_5 EU_5 bw hW6 hz6
    obtain ⟨qv4, hqv4⟩ : ∃ q, q = qv3 + 1 := ⟨_, rfl⟩
    obtain ⟨w7, hW7⟩ : ∃ W, W = (w6).alloc (.cells #[.int .i64 st3, .slice oR3 g3.length pR3, .string d3] 27) := ⟨_, rfl⟩
    have hz7 : (w6).heap.size = qv4 := by rw [hqv4]; exact hs6
    first | rw [← hW7, ← hqv4] | rw [← hW7]
    have hs7 : w7.heap.size = qv4 + 1 := by rw [hW7, ← hz7]; simp
    have bw : Below (w6).heap.size (w6) w7 := by rw [hW7]; exact (Below.refl _ _).alloc (Nat.le_refl _) _
    have hb7 : Below w.heap.size w (w7) := hb6.trans (bw.mono hb6.size)
    have HM7 : Hid ((w6).heap.size ≤ (w7).heap.size) := bw.size
    have HOQ3_7 : Hid ((w7).ownsRow w.heap.size 131 2 (.slice oQ3 f3.length pQ3) f3.length (flatF f3)) := owns_below HOQ3_6.out bw (fun g hg => owns_lt HOQ3_6.out hg)
    have HOR3_7 : Hid ((w7).ownsRow w.heap.size 131 2 (.slice oR3 g3.length pR3) g3.length (flatF g3)) := owns_below HOR3_6.out bw (fun g hg => owns_lt HOR3_6.out hg)
    have HBv1_7 : Hid ((w7).heap[qv1]? = some (.cells #[.int .i64 0, .string ⟨#[]⟩, .slice none 0 0, .string ⟨#[]⟩] 39)) := blk_below HBv1_6.out bw
    have HBv2_7 : Hid ((w7).heap[qv2]? = some (.cells #[.int .i64 0, .slice none 0 0, .string ⟨#[]⟩] 27)) := blk_below HBv2_6.out bw
    have HBv3_7 : Hid ((w7).heap[qv3]? = some (.cells #[.int .i64 m3, .string pp3, .slice oQ3 f3.length pQ3, .string b3] 39)) := blk_below HBv3_6.out bw
    have EU_7 : Hid (CurAt w7 c1 a len cap) := EU_6.out.below bw EU_6.out.lt
    have HNv1v4 : Hid (qv1 ≠ qv4) := fun e => by have h1 := (Array.getElem?_eq_some_iff.1 HBv1_6.out).1; omega
    have HNv2v4 : Hid (qv2 ≠ qv4) := fun e => by have h1 := (Array.getElem?_eq_some_iff.1 HBv2_6.out).1; omega
    have HNv3v4 : Hid (qv3 ≠ qv4) := fun e => by have h1 := (Array.getElem?_eq_some_iff.1 HBv3_6.out).1; omega
    have HBv4_7 : Hid ((w7).heap[qv4]? = some (.cells #[.int .i64 st3, .slice oR3 g3.length pR3, .string d3] 27)) := by show _ = _; rw [hW7, ← hz7]; exact heap_alloc_new _ _
    have HGv4 : Hid (w.heap.size ≤ qv4) := by show _ ≤ _; rw [← hz7]; exact hb6.size
    have HNCv4 : Hid (qv4 ≠ c1) := fun e => by have h1 := EU_6.out.lt; omega
    clear hb6 HOQ3_6 HOR3_6 HBv1_6 HBv2_6 HBv3_6 EU_6 bw hW7 hz7
    clear hs7 hqv4 hs6 hqv3
    go_upto_region 12 with fail
    refine wp_region_held_drew (S := fun W => W.heap[qv3]? = some (.cells #[.int .i64 m3, .string pp3, .slice oQ3 f3.length pQ3, .string b3] 39) ∧ W.heap[qv4]? = some (.cells #[.int .i64 st3, .slice oR3 g3.length pR3, .string d3] 27)) (by kernel_rfl) ⟨HBv3_7.out, HBv4_7.out⟩ (fun _ => ?_)
    obtain ⟨w8, hX⟩ : ∃ X, X = w7.drew := ⟨_, rfl⟩
    have bw : Below w7.heap.size w7 w8 := by rw [hX]; exact (Below.refl _ _).drew
    rw [← hX]
    have hb8 : Below w.heap.size w (w8) := hb7.trans (bw.mono hb7.size)
    have HM8 : Hid ((w7).heap.size ≤ (w8).heap.size) := bw.size
    have HOQ3_8 : Hid ((w8).ownsRow w.heap.size 131 2 (.slice oQ3 f3.length pQ3) f3.length (flatF f3)) := owns_below HOQ3_7.out bw (fun g hg => owns_lt HOQ3_7.out hg)
    have HOR3_8 : Hid ((w8).ownsRow w.heap.size 131 2 (.slice oR3 g3.length pR3) g3.length (flatF g3)) := owns_below HOR3_7.out bw (fun g hg => owns_lt HOR3_7.out hg)
    have HBv1_8 : Hid ((w8).heap[qv1]? = some (.cells #[.int .i64 0, .string ⟨#[]⟩, .slice none 0 0, .string ⟨#[]⟩] 39)) := blk_below HBv1_7.out bw
    have HBv2_8 : Hid ((w8).heap[qv2]? = some (.cells #[.int .i64 0, .slice none 0 0, .string ⟨#[]⟩] 27)) := blk_below HBv2_7.out bw
    have HBv3_8 : Hid ((w8).heap[qv3]? = some (.cells #[.int .i64 m3, .string pp3, .slice oQ3 f3.length pQ3, .string b3] 39)) := blk_below HBv3_7.out bw
    have HBv4_8 : Hid ((w8).heap[qv4]? = some (.cells #[.int .i64 st3, .slice oR3 g3.length pR3, .string d3] 27)) := blk_below HBv4_7.out bw
    have EU_8 : Hid (CurAt w8 c1 a len cap) := EU_7.out.below bw EU_7.out.lt
    have hS8 : w8.heap[qv3]? = some (.cells #[.int .i64 m3, .string pp3, .slice oQ3 f3.length pQ3, .string b3] 39) ∧ w8.heap[qv4]? = some (.cells #[.int .i64 st3, .slice oR3 g3.length pR3, .string d3] 27) := ⟨HBv3_8.out, HBv4_8.out⟩
    clear hb7 HOQ3_7 HOR3_7 HBv1_7 HBv2_7 HBv3_7 HBv4_7 EU_7 bw hX
    refine wpAnyH_takeD (i := 0) (v := .agg #[.int .i64 m3, .string pp3, .slice oQ3 f3.length pQ3, .string b3]) (some 39) rfl rfl (by kernel_rfl) (by kernel_rfl) (by kernel_rfl) (fun _ _ _ h => h) (Or.inl ⟨by rfl, by intro W hW; obtain ⟨hhv3, hhv4⟩ := hW; have y0 := (cell_of hhv3 0).trans rfl; have y1 := (cell_of hhv3 1).trans rfl; have y2 := (cell_of hhv3 2).trans rfl; have y3 := (cell_of hhv3 3).trans rfl; go_simp⟩) hS8 ?_
    simp only [Act.put, List.setIfInBounds_toArray, List.set_cons_zero, List.set_cons_succ]
    refine wpAnyH_takeD (i := 1) (v := .agg #[.int .i64 st3, .slice oR3 g3.length pR3, .string d3]) (some 40) rfl rfl (by kernel_rfl) (by kernel_rfl) (by kernel_rfl) (fun _ _ _ h => h) (Or.inl ⟨by rfl, by intro W hW; obtain ⟨hhv3, hhv4⟩ := hW; have y0 := (cell_of hhv4 0).trans rfl; have y1 := (cell_of hhv4 1).trans rfl; have y2 := (cell_of hhv4 2).trans rfl; go_simp⟩) hS8 ?_
    simp only [Act.put, List.setIfInBounds_toArray, List.set_cons_zero, List.set_cons_succ]
    refine wpAnyH_takeD (i := 2) (v := .slice a len cap) (some 41) rfl rfl (by kernel_rfl) (by kernel_rfl) (by kernel_rfl) (fun _ _ _ h => h) (Or.inl ⟨by rfl, by intro W _; go_simp⟩) hS8 ?_
    simp only [Act.put, List.setIfInBounds_toArray, List.set_cons_zero, List.set_cons_succ]
    refine wpAnyH_ready (rs := [3]) (by kernel_rfl) (by simp) ?_
    refine AllReadyH.cons rfl (fun K hK => ?_) AllReadyH.nil
    go_simp
    clear EU_8
    refine (l1New_any w.heap.size a len cap zs _ (HCO.out _ hb8)).mono ?_
    rintro e w9 ⟨rfl, hcu, bw⟩
    obtain ⟨c4, hc⟩ : ∃ c, c = w8.heap.size := ⟨_, rfl⟩
    rw [← hc] at hcu ⊢
    have HGC : Hid (w.heap.size ≤ c4) := by show _ ≤ _; rw [hc]; exact hb8.size
    have HBC : Hid (w.heap.size ≤ c4) := HGC.out
    have HCU : Hid (CurAt w9 c4 a len cap) := hcu
    have HNCv1 : Hid (qv1 ≠ c4) := fun e => by have h1 := (Array.getElem?_eq_some_iff.1 HBv1_8.out).1; omega
    have HNCv2 : Hid (qv2 ≠ c4) := fun e => by have h1 := (Array.getElem?_eq_some_iff.1 HBv2_8.out).1; omega
    have HNCv3 : Hid (qv3 ≠ c4) := fun e => by have h1 := (Array.getElem?_eq_some_iff.1 HBv3_8.out).1; omega
    have HNCv4 : Hid (qv4 ≠ c4) := fun e => by have h1 := (Array.getElem?_eq_some_iff.1 HBv4_8.out).1; omega
    clear hc hcu
    have hb9 : Below w.heap.size w (w9) := hb8.trans (bw.mono hb8.size)
    have HM9 : Hid ((w8).heap.size ≤ (w9).heap.size) := bw.size
    have HOQ3_9 : Hid ((w9).ownsRow w.heap.size 131 2 (.slice oQ3 f3.length pQ3) f3.length (flatF f3)) := owns_below HOQ3_8.out bw (fun g hg => owns_lt HOQ3_8.out hg)
    have HOR3_9 : Hid ((w9).ownsRow w.heap.size 131 2 (.slice oR3 g3.length pR3) g3.length (flatF g3)) := owns_below HOR3_8.out bw (fun g hg => owns_lt HOR3_8.out hg)
    have HBv1_9 : Hid ((w9).heap[qv1]? = some (.cells #[.int .i64 0, .string ⟨#[]⟩, .slice none 0 0, .string ⟨#[]⟩] 39)) := blk_below HBv1_8.out bw
    have HBv2_9 : Hid ((w9).heap[qv2]? = some (.cells #[.int .i64 0, .slice none 0 0, .string ⟨#[]⟩] 27)) := blk_below HBv2_8.out bw
    have HBv3_9 : Hid ((w9).heap[qv3]? = some (.cells #[.int .i64 m3, .string pp3, .slice oQ3 f3.length pQ3, .string b3] 39)) := blk_below HBv3_8.out bw
    have HBv4_9 : Hid ((w9).heap[qv4]? = some (.cells #[.int .i64 st3, .slice oR3 g3.length pR3, .string d3] 27)) := blk_below HBv4_8.out bw
    clear hb8 HOQ3_8 HOR3_8 HBv1_8 HBv2_8 HBv3_8 HBv4_8 bw
    have EU_9 : Hid (CurAt w9 c4 a len cap) := HCU.out
    clear HCU
    have hS9 : w9.heap[qv3]? = some (.cells #[.int .i64 m3, .string pp3, .slice oQ3 f3.length pQ3, .string b3] 39) ∧ w9.heap[qv4]? = some (.cells #[.int .i64 st3, .slice oR3 g3.length pR3, .string d3] 27) := ⟨HBv3_9.out, HBv4_9.out⟩
    refine hK.out _ _ hS9 (fun _ => ?_)
    clear hK K hS8
    refine wpAnyH_ready (rs := [4]) (by kernel_rfl) (by simp) ?_
    refine AllReadyH.cons rfl (fun K hK => ?_) AllReadyH.nil
    go_simp
    refine (l7DrawTime_any c4 w.heap.size a len cap zs _ EU_9.out (HCO.out _ hb9) HBC.out).mono ?_
    rintro e w10 ⟨tm5, rfl, ht05, ht15, hcu, hg⟩
    have HTM5 : Hid (-9223372036854775808 ≤ tm5 ∧ tm5 ≤ 9223372036854775807) := ⟨ht05, ht15⟩
    clear ht05 ht15
    have hb10 : Below w.heap.size w (w10) := hb9.grown hg hb9.size (by intro k hk; cases hk; exact HGC.out)
    have HM10 : Hid ((w9).heap.size ≤ (w10).heap.size) := hg.size
    have HOQ3_10 : Hid ((w10).ownsRow w.heap.size 131 2 (.slice oQ3 f3.length pQ3) f3.length (flatF f3)) := owns_same HOQ3_9.out (fun g hgg => hg.block g (owns_lt HOQ3_9.out hgg) (fun e => own_cur HOQ3_9.out EU_9.out (by decide) g hgg (Option.some.inj e)))
    have HOR3_10 : Hid ((w10).ownsRow w.heap.size 131 2 (.slice oR3 g3.length pR3) g3.length (flatF g3)) := owns_same HOR3_9.out (fun g hgg => hg.block g (owns_lt HOR3_9.out hgg) (fun e => own_cur HOR3_9.out EU_9.out (by decide) g hgg (Option.some.inj e)))
    have HBv1_10 : Hid ((w10).heap[qv1]? = some (.cells #[.int .i64 0, .string ⟨#[]⟩, .slice none 0 0, .string ⟨#[]⟩] 39)) := (hg.block _ (Array.getElem?_eq_some_iff.1 HBv1_9.out).1 (fun e => HNCv1.out (Option.some.inj e))).trans HBv1_9.out
    have HBv2_10 : Hid ((w10).heap[qv2]? = some (.cells #[.int .i64 0, .slice none 0 0, .string ⟨#[]⟩] 27)) := (hg.block _ (Array.getElem?_eq_some_iff.1 HBv2_9.out).1 (fun e => HNCv2.out (Option.some.inj e))).trans HBv2_9.out
    have HBv3_10 : Hid ((w10).heap[qv3]? = some (.cells #[.int .i64 m3, .string pp3, .slice oQ3 f3.length pQ3, .string b3] 39)) := (hg.block _ (Array.getElem?_eq_some_iff.1 HBv3_9.out).1 (fun e => HNCv3.out (Option.some.inj e))).trans HBv3_9.out
    have HBv4_10 : Hid ((w10).heap[qv4]? = some (.cells #[.int .i64 st3, .slice oR3 g3.length pR3, .string d3] 27)) := (hg.block _ (Array.getElem?_eq_some_iff.1 HBv4_9.out).1 (fun e => HNCv4.out (Option.some.inj e))).trans HBv4_9.out
    have EU_10 : Hid (CurAt w10 c4 a len cap) := hcu
    clear hb9 HOQ3_9 HOR3_9 HBv1_9 HBv2_9 HBv3_9 HBv4_9 EU_9 hg hcu
    have hS10 : w10.heap[qv3]? = some (.cells #[.int .i64 m3, .string pp3, .slice oQ3 f3.length pQ3, .string b3] 39) ∧ w10.heap[qv4]? = some (.cells #[.int .i64 st3, .slice oR3 g3.length pR3, .string d3] 27) := ⟨HBv3_10.out, HBv4_10.out⟩
    refine hK.out _ _ hS10 (fun _ => ?_)
    clear hK K hS9
    refine wpAnyH_ready (rs := [5]) (by kernel_rfl) (by simp) ?_
    refine AllReadyH.cons rfl (fun K hK => ?_) AllReadyH.nil
    have ce0 : (w10).cell? ⟨qv1, 0, none⟩ = some (.int .i64 0) := (cell_of HBv1_10.out 0).trans rfl
    have fe0 : (w10).frozen? ⟨qv1, 0, none⟩ = false := frozen_of HBv1_10.out 0
    have ce1 : (w10).cell? ⟨qv1, 1, none⟩ = some (.string ⟨#[]⟩) := (cell_of HBv1_10.out 1).trans rfl
    have fe1 : (w10).frozen? ⟨qv1, 1, none⟩ = false := frozen_of HBv1_10.out 1
    have ce2 : (w10).cell? ⟨qv1, 2, none⟩ = some (.slice none 0 0) := (cell_of HBv1_10.out 2).trans rfl
    have fe2 : (w10).frozen? ⟨qv1, 2, none⟩ = false := frozen_of HBv1_10.out 2
    have ce3 : (w10).cell? ⟨qv1, 3, none⟩ = some (.string ⟨#[]⟩) := (cell_of HBv1_10.out 3).trans rfl
    have fe3 : (w10).frozen? ⟨qv1, 3, none⟩ = false := frozen_of HBv1_10.out 3
    obtain ⟨w11, hY⟩ : ∃ Y, Y = ((((w10.setCell ⟨qv1, 0, none⟩ (.int .i64 m3)).setCell ⟨qv1, 1, none⟩ (.string pp3)).setCell ⟨qv1, 2, none⟩ (.slice oQ3 f3.length pQ3)).setCell ⟨qv1, 3, none⟩ (.string b3)) := ⟨_, rfl⟩
    have HY : Hid (((((w10.setCell ⟨qv1, 0, none⟩ (.int .i64 m3)).setCell ⟨qv1, 1, none⟩ (.string pp3)).setCell ⟨qv1, 2, none⟩ (.slice oQ3 f3.length pQ3)).setCell ⟨qv1, 3, none⟩ (.string b3)) = w11) := hY.symm
    have hb11 : Below w.heap.size w (w11) := by rw [hY]; exact ((((hb10.setCell (p := ⟨qv1, 0, none⟩) HGv1.out _).setCell (p := ⟨qv1, 1, none⟩) HGv1.out _).setCell (p := ⟨qv1, 2, none⟩) HGv1.out _).setCell (p := ⟨qv1, 3, none⟩) HGv1.out _)
    have HM11 : Hid ((w10).heap.size ≤ w11.heap.size) := by show _ ≤ _; rw [hY]; simp
    have HOQ3_11 : Hid ((w11).ownsRow w.heap.size 131 2 (.slice oQ3 f3.length pQ3) f3.length (flatF f3)) := by show World.ownsRow _ _ _ _ _ _ _; rw [hY]; exact owns_same HOQ3_10.out (fun g hg => by have hne := own_ne HOQ3_10.out HBv1_10.out (by decide) g hg; rw [heap_setCell_other _ _ g _ hne, heap_setCell_other _ _ g _ hne, heap_setCell_other _ _ g _ hne, heap_setCell_other _ _ g _ hne])
    have HOR3_11 : Hid ((w11).ownsRow w.heap.size 131 2 (.slice oR3 g3.length pR3) g3.length (flatF g3)) := by show World.ownsRow _ _ _ _ _ _ _; rw [hY]; exact owns_same HOR3_10.out (fun g hg => by have hne := own_ne HOR3_10.out HBv1_10.out (by decide) g hg; rw [heap_setCell_other _ _ g _ hne, heap_setCell_other _ _ g _ hne, heap_setCell_other _ _ g _ hne, heap_setCell_other _ _ g _ hne])
    have HBv2_11 : Hid ((w11).heap[qv2]? = some (.cells #[.int .i64 0, .slice none 0 0, .string ⟨#[]⟩] 27)) := by show _ = _; rw [hY, heap_setCell_other _ _ _ _ HNv1v2.out.symm, heap_setCell_other _ _ _ _ HNv1v2.out.symm, heap_setCell_other _ _ _ _ HNv1v2.out.symm, heap_setCell_other _ _ _ _ HNv1v2.out.symm]; exact HBv2_10.out
    have HBv3_11 : Hid ((w11).heap[qv3]? = some (.cells #[.int .i64 m3, .string pp3, .slice oQ3 f3.length pQ3, .string b3] 39)) := by show _ = _; rw [hY, heap_setCell_other _ _ _ _ HNv1v3.out.symm, heap_setCell_other _ _ _ _ HNv1v3.out.symm, heap_setCell_other _ _ _ _ HNv1v3.out.symm, heap_setCell_other _ _ _ _ HNv1v3.out.symm]; exact HBv3_10.out
    have HBv4_11 : Hid ((w11).heap[qv4]? = some (.cells #[.int .i64 st3, .slice oR3 g3.length pR3, .string d3] 27)) := by show _ = _; rw [hY, heap_setCell_other _ _ _ _ HNv1v4.out.symm, heap_setCell_other _ _ _ _ HNv1v4.out.symm, heap_setCell_other _ _ _ _ HNv1v4.out.symm, heap_setCell_other _ _ _ _ HNv1v4.out.symm]; exact HBv4_10.out
    have EU_11 : Hid (CurAt w11 c4 a len cap) := by show CurAt _ _ _ _ _; rw [hY]; exact (cur_set (cur_set (cur_set (cur_set EU_10.out HNCv1.out 0 _) HNCv1.out 1 _) HNCv1.out 2 _) HNCv1.out 3 _)
    have HBv1_11 : Hid ((w11).heap[qv1]? = some (.cells #[.int .i64 m3, .string pp3, .slice oQ3 f3.length pQ3, .string b3] 39)) := by show _ = _; rw [hY]; have h := (heap_set _ qv1 3 _ _ _ (.string b3) (heap_set _ qv1 2 _ _ _ (.slice oQ3 f3.length pQ3) (heap_set _ qv1 1 _ _ _ (.string pp3) (heap_set _ qv1 0 _ _ _ (.int .i64 m3) HBv1_10.out)))); simpa using h
    clear hY hb10 HOQ3_10 HOR3_10 HBv1_10 HBv2_10 HBv3_10 HBv4_10 EU_10
    go_simp
    rw [HY.out]
    have hS11 : w11.heap[qv3]? = some (.cells #[.int .i64 m3, .string pp3, .slice oQ3 f3.length pQ3, .string b3] 39) ∧ w11.heap[qv4]? = some (.cells #[.int .i64 st3, .slice oR3 g3.length pR3, .string d3] 27) := ⟨HBv3_11.out, HBv4_11.out⟩
    refine hK.out _ _ hS11 (fun _ => ?_)
    clear hK K HY hS10 ce0 fe0 ce1 fe1 ce2 fe2 ce3 fe3
    refine wpAnyH_ready (rs := [6]) (by kernel_rfl) (by simp) ?_
    refine AllReadyH.cons rfl (fun K hK => ?_) AllReadyH.nil
    have ce0 : (w11).cell? ⟨qv2, 0, none⟩ = some (.int .i64 0) := (cell_of HBv2_11.out 0).trans rfl
    have fe0 : (w11).frozen? ⟨qv2, 0, none⟩ = false := frozen_of HBv2_11.out 0
    have ce1 : (w11).cell? ⟨qv2, 1, none⟩ = some (.slice none 0 0) := (cell_of HBv2_11.out 1).trans rfl
    have fe1 : (w11).frozen? ⟨qv2, 1, none⟩ = false := frozen_of HBv2_11.out 1
    have ce2 : (w11).cell? ⟨qv2, 2, none⟩ = some (.string ⟨#[]⟩) := (cell_of HBv2_11.out 2).trans rfl
    have fe2 : (w11).frozen? ⟨qv2, 2, none⟩ = false := frozen_of HBv2_11.out 2
    obtain ⟨w12, hY⟩ : ∃ Y, Y = (((w11.setCell ⟨qv2, 0, none⟩ (.int .i64 st3)).setCell ⟨qv2, 1, none⟩ (.slice oR3 g3.length pR3)).setCell ⟨qv2, 2, none⟩ (.string d3)) := ⟨_, rfl⟩
    have HY : Hid ((((w11.setCell ⟨qv2, 0, none⟩ (.int .i64 st3)).setCell ⟨qv2, 1, none⟩ (.slice oR3 g3.length pR3)).setCell ⟨qv2, 2, none⟩ (.string d3)) = w12) := hY.symm
    have hb12 : Below w.heap.size w (w12) := by rw [hY]; exact (((hb11.setCell (p := ⟨qv2, 0, none⟩) HGv2.out _).setCell (p := ⟨qv2, 1, none⟩) HGv2.out _).setCell (p := ⟨qv2, 2, none⟩) HGv2.out _)
    have HM12 : Hid ((w11).heap.size ≤ w12.heap.size) := by show _ ≤ _; rw [hY]; simp
    have HOQ3_12 : Hid ((w12).ownsRow w.heap.size 131 2 (.slice oQ3 f3.length pQ3) f3.length (flatF f3)) := by show World.ownsRow _ _ _ _ _ _ _; rw [hY]; exact owns_same HOQ3_11.out (fun g hg => by have hne := own_ne HOQ3_11.out HBv2_11.out (by decide) g hg; rw [heap_setCell_other _ _ g _ hne, heap_setCell_other _ _ g _ hne, heap_setCell_other _ _ g _ hne])
    have HOR3_12 : Hid ((w12).ownsRow w.heap.size 131 2 (.slice oR3 g3.length pR3) g3.length (flatF g3)) := by show World.ownsRow _ _ _ _ _ _ _; rw [hY]; exact owns_same HOR3_11.out (fun g hg => by have hne := own_ne HOR3_11.out HBv2_11.out (by decide) g hg; rw [heap_setCell_other _ _ g _ hne, heap_setCell_other _ _ g _ hne, heap_setCell_other _ _ g _ hne])
    have HBv1_12 : Hid ((w12).heap[qv1]? = some (.cells #[.int .i64 m3, .string pp3, .slice oQ3 f3.length pQ3, .string b3] 39)) := by show _ = _; rw [hY, heap_setCell_other _ _ _ _ HNv1v2.out, heap_setCell_other _ _ _ _ HNv1v2.out, heap_setCell_other _ _ _ _ HNv1v2.out]; exact HBv1_11.out
    have HBv3_12 : Hid ((w12).heap[qv3]? = some (.cells #[.int .i64 m3, .string pp3, .slice oQ3 f3.length pQ3, .string b3] 39)) := by show _ = _; rw [hY, heap_setCell_other _ _ _ _ HNv2v3.out.symm, heap_setCell_other _ _ _ _ HNv2v3.out.symm, heap_setCell_other _ _ _ _ HNv2v3.out.symm]; exact HBv3_11.out
    have HBv4_12 : Hid ((w12).heap[qv4]? = some (.cells #[.int .i64 st3, .slice oR3 g3.length pR3, .string d3] 27)) := by show _ = _; rw [hY, heap_setCell_other _ _ _ _ HNv2v4.out.symm, heap_setCell_other _ _ _ _ HNv2v4.out.symm, heap_setCell_other _ _ _ _ HNv2v4.out.symm]; exact HBv4_11.out
    have EU_12 : Hid (CurAt w12 c4 a len cap) := by show CurAt _ _ _ _ _; rw [hY]; exact (cur_set (cur_set (cur_set EU_11.out HNCv2.out 0 _) HNCv2.out 1 _) HNCv2.out 2 _)
    have HBv2_12 : Hid ((w12).heap[qv2]? = some (.cells #[.int .i64 st3, .slice oR3 g3.length pR3, .string d3] 27)) := by show _ = _; rw [hY]; have h := (heap_set _ qv2 2 _ _ _ (.string d3) (heap_set _ qv2 1 _ _ _ (.slice oR3 g3.length pR3) (heap_set _ qv2 0 _ _ _ (.int .i64 st3) HBv2_11.out))); simpa using h
    clear hY hb11 HOQ3_11 HOR3_11 HBv1_11 HBv2_11 HBv3_11 HBv4_11 EU_11
    go_simp
    rw [HY.out]
    have hS12 : w12.heap[qv3]? = some (.cells #[.int .i64 m3, .string pp3, .slice oQ3 f3.length pQ3, .string b3] 39) ∧ w12.heap[qv4]? = some (.cells #[.int .i64 st3, .slice oR3 g3.length pR3, .string d3] 27) := ⟨HBv3_12.out, HBv4_12.out⟩
    refine hK.out _ _ hS12 (fun _ => ?_)
    clear hK K HY hS11 ce0 fe0 ce1 fe1 ce2 fe2
    refine wpAnyH_takeD (i := 7) (v := .int .i64 tm5) (some 4) rfl rfl (by kernel_rfl) (by kernel_rfl) (by kernel_rfl) (fun _ _ _ h => h) (Or.inl ⟨by rfl, by intro W _; go_simp⟩) hS12 ?_
    simp only [Act.put, List.setIfInBounds_toArray, List.set_cons_zero, List.set_cons_succ]
    clear hS12
    refine wpAnyH_done (by kernel_rfl) ?_ _
    go_wp2_with fail
    have kv1_0 : (w12).cell? ⟨qv1, 0, none⟩ = some (.int .i64 m3) := (cell_of HBv1_12.out 0).trans rfl
    have kv1_1 : (w12).cell? ⟨qv1, 1, none⟩ = some (.string pp3) := (cell_of HBv1_12.out 1).trans rfl
    have kv1_2 : (w12).cell? ⟨qv1, 2, none⟩ = some (.slice oQ3 f3.length pQ3) := (cell_of HBv1_12.out 2).trans rfl
    have kv1_3 : (w12).cell? ⟨qv1, 3, none⟩ = some (.string b3) := (cell_of HBv1_12.out 3).trans rfl
    have kv2_0 : (w12).cell? ⟨qv2, 0, none⟩ = some (.int .i64 st3) := (cell_of HBv2_12.out 0).trans rfl
    have kv2_1 : (w12).cell? ⟨qv2, 1, none⟩ = some (.slice oR3 g3.length pR3) := (cell_of HBv2_12.out 1).trans rfl
    have kv2_2 : (w12).cell? ⟨qv2, 2, none⟩ = some (.string d3) := (cell_of HBv2_12.out 2).trans rfl
    refine bodyPost_ret (v := .tuple #[.agg #[.int .i64 m3, .string pp3, .slice oQ3 f3.length pQ3, .string b3], .agg #[.int .i64 st3, .slice oR3 g3.length pR3, .string d3], .int .i64 tm5]) (by simp [results, Tryz.results16, go_sem, kv1_0, kv1_1, kv1_2, kv1_3, kv2_0, kv2_1, kv2_2]) rfl ?_
    exact ⟨_, _, _, _, _, _, _, _, _, _, rfl, HPQ3.out, HOQ3_12.out, ⟨Nat.le_trans HFQ3.out.1 (by decide), HFQ3.out.2⟩, HBQ.out, HOR3_12.out, ⟨Nat.le_trans HFR3.out.1 (by decide), HFR3.out.2⟩, Nat.le_trans HDR3.out (by decide), HTM5.out, hb12⟩

end Go.Proofs.YtdlhicdfldecgaaGreatDoor

namespace Go.Proofs.YtdlhicdfldecgaaGreatDoor
open Go.RowKit
open Go.Lib hiding intOf

theorem timeOk_any (t : Int) (w : World) :
    Calls Tryz.prog 34 #[.int .i64 t] w fun e w' => e = .returned (.bool (decide ((0 : Int) ≤ t ∧ t ≤ 1000000))) ∧ w' = w := by
  obtain ⟨D, hD⟩ : ∃ D, D = decide ((0 : Int) ≤ t ∧ t ≤ 1000000) := ⟨_, rfl⟩
  rw [← hD]
  by_cases h1 : 0 ≤ t
  · by_cases h2 : t ≤ 1000000
    · have HD : Hid (D = true) := by show _ = _; rw [hD]; exact decide_eq_true ⟨h1, h2⟩
      clear hD
      go_enter Tryz.func34, Tryz.ntmps34
      go_wp2
      go_ret
      exact ⟨by rw [HD.out]; rfl, rfl⟩
    · have HD : Hid (D = false) := by show _ = _; rw [hD]; exact decide_eq_false (fun h => h2 h.2)
      clear hD
      go_enter Tryz.func34, Tryz.ntmps34
      go_wp2
      go_ret
      exact ⟨by rw [HD.out]; rfl, rfl⟩
  · have HD : Hid (D = false) := by show _ = _; rw [hD]; exact decide_eq_false (fun h => h1 h.1)
    clear hD
    go_enter Tryz.func34, Tryz.ntmps34
    go_wp2
    go_ret
    exact ⟨by rw [HD.out]; rfl, rfl⟩

set_option maxHeartbeats 1000000 in
theorem valuesOk_any (oa : Option Addr) (m cm : Nat) (xs : List ByteArray) (w : World) (hx : TextsA w oa m xs) (hm : m ≤ 2000000) (hsz : ∀ i, i < m → (textAt xs i).size ≤ maxLen) :
    Calls Tryz.prog 38 #[.slice oa m cm] w fun e w' => BoolIs (∀ y ∈ xs, ValOk y) w e w' := by
  have HV : Hid (∀ W, Below w.heap.size w W → TextsA W oa m xs) := fun W h => hx.below h
  have HL : Hid (xs.length = m) := hx.1
  have HS : Hid (∀ i, i < m → (textAt xs i).size ≤ maxLen) := hsz
  clear hx hsz
  go_enter Tryz.func38, Tryz.ntmps38
  go_wp2
  go_loopw [7] (fun i wr => ∃ j : Nat, j ≤ m ∧ i = .int .i64 (j : Int) ∧ Hid (Below w.heap.size w wr) ∧ Hid (∀ x ∈ xs.take j, ValOk x)) (fun i _ => m - (intOf i).toNat)
  case atStart => exact ⟨0, Nat.zero_le _, rfl, Below.refl _ _, fun x hx => by simp at hx⟩
  case round =>
    obtain ⟨j, hj, rfl, HW, HN⟩ := hrel
    by_cases hlt : (j : Int) < (m : Int)
    · have hjx : j < xs.length := by rw [HL.out]; omega
      obtain ⟨g, hog, hg, hc⟩ := (HV.out wr HW.out).2 j (by omega)
      subst hog
      have hs := HS.out j (by omega)
      obtain ⟨x, hxx⟩ : ∃ x, x = textAt xs j := ⟨_, rfl⟩
      rw [← hxx] at hc hs
      have HM : Hid (x ∈ xs) := by show _ ∈ _; rw [hxx]; exact textAt_mem xs j hjx
      have HTK : Hid (xs.take (j + 1) = xs.take j ++ [x]) := by show _ = _; rw [take_textAt xs j hjx, hxx]
      clear hxx hjx
      go_wp2_with fail
      refine (implValueOk_any x _ hs).mono ?_
      rintro e w90 ⟨tx, rfl, htx, bw⟩
      have HW2 : Hid (Below w.heap.size w w90) := HW.out.trans (bw.mono HW.out.size)
      clear bw hc HW
      cases tx with
      | false =>
        have HF : Hid (¬ ∀ y ∈ xs, ValOk y) := fun h => nomatch htx.2 (h x HM.out)
        clear htx HN
        go_wp2_with fail
        go_ret
        exact BoolIs.no HF.out HW2.out
      | true =>
        have HN2 : Hid (∀ y ∈ xs.take (j + 1), ValOk y) := by
          intro y hy
          rw [HTK.out] at hy
          rcases List.mem_append.1 hy with hy | hy
          · exact HN.out y hy
          · rw [List.mem_singleton.1 hy]; exact htx.1 rfl
        clear htx HN
        go_wp2_with fail
        go_roundw
        case rel => exact ⟨j + 1, by omega, by go_num, HW2, HN2⟩
        case measure => simp [intOf]; omega
    · have HA : Hid (∀ y ∈ xs, ValOk y) := by
        have h := HN.out
        rw [List.take_of_length_le (by rw [HL.out]; omega)] at h
        exact h
      clear HN
      go_wp2_with fail
      go_ret
      exact ⟨true, rfl, ⟨fun _ => HA.out, fun _ => rfl⟩, HW.out⟩

theorem equalT_any (oa ob : Option Addr) (m cm k ck : Nat) (xs ys : List ByteArray) (w : World) (hx : TextsA w oa m xs) (hm : m ≤ 2000000) (hy : TextsA w ob k ys) (hk : k ≤ 2000000) :
    Calls Tryz.prog 35 #[.slice oa m cm, .slice ob k ck] w fun e w' => e = .returned (.bool (decide (xs = ys))) ∧ Below w.heap.size w w' := by
  by_cases hmk : m = k
  · subst hmk
    by_cases h0 : m = 0
    · subst h0
      refine (Tryz.slices_Equal_string_empty oa ob cm 0 ck w (by omega)).mono ?_
      rintro e w1 ⟨rfl, rfl⟩
      refine ⟨?_, Below.refl _ _⟩
      rw [List.length_eq_zero_iff.1 hx.1, List.length_eq_zero_iff.1 hy.1]
      simp
    · obtain ⟨g, rfl, _, _⟩ := hx.2 0 (by omega)
      obtain ⟨q, rfl, _, _⟩ := hy.2 0 (by omega)
      refine (Tryz.slices_Equal_string g 0 m cm q 0 m ck xs ys w (by rw [hx.1]; exact Nat.le_refl _) (by rw [hy.1]; exact Nat.le_refl _) (by omega) (by omega) (fun j hj => ?_) (fun j hj => ?_)).mono ?_
      · obtain ⟨g2, e2, _, h3⟩ := hx.2 j (by rw [← hx.1]; exact hj)
        cases e2
        rw [Nat.zero_add]
        exact h3
      · obtain ⟨g2, e2, _, h3⟩ := hy.2 j (by rw [← hy.1]; exact hj)
        cases e2
        rw [Nat.zero_add]
        exact h3
      · rintro e w1 ⟨rfl, n, rfl⟩
        refine ⟨?_, ⟨rfl, rfl, rfl, Nat.le_refl _, fun _ _ => rfl⟩⟩
        rw [List.take_of_length_le (by rw [hx.1]; exact Nat.le_refl _), List.take_of_length_le (by rw [hy.1]; exact Nat.le_refl _)]
  · refine (Tryz.slices_Equal_string_lens oa ob m cm k ck w hmk).mono ?_
    rintro e w1 ⟨rfl, rfl⟩
    refine ⟨?_, Below.refl _ _⟩
    rw [decide_eq_false (fun h => hmk (by rw [← hx.1, ← hy.1, h]))]

end Go.Proofs.YtdlhicdfldecgaaGreatDoor

namespace Go.Proofs.YtdlhicdfldecgaaGreatDoor
open Go.RowKit
open Go.Lib hiding intOf

set_option maxHeartbeats 1000000 in
theorem namesOk_any (oa : Option Addr) (m cm : Nat) (xs : List ByteArray) (w : World) (hx : TextsA w oa m xs) (hm : m ≤ 2000000) (hsz : ∀ i, i < m → (textAt xs i).size ≤ maxLen) :
    Calls Tryz.prog 37 #[.slice oa m cm] w fun e w' => BoolIs (NamesP xs) w e w' := by
  by_cases h4 : (4 : Int) < (m : Int)
  · have HF : Hid (¬ NamesP xs) := fun h => by have := h.2; rw [hx.1] at this; omega
    clear hx hsz
    go_enter Tryz.func37, Tryz.ntmps37
    go_wp2_with fail
    go_ret
    exact BoolIs.no HF.out (Below.refl _ _)
  have HX : Hid (∀ W, Below w.heap.size w W → TextsA W oa m xs) := fun W h => hx.below h
  have HL : Hid (xs.length = m) := hx.1
  have HS : Hid (∀ i, i < m → (textAt xs i).size ≤ maxLen) := hsz
  clear hx hsz
  go_enter Tryz.func37, Tryz.ntmps37
  go_wp2_with fail
  go_loopw [10] (fun i wr => ∃ j : Nat, j ≤ m ∧ i = .int .i64 (j : Int) ∧ Below w.heap.size w wr ∧ Hid (∀ x ∈ xs.take j, TokOk x)) (fun i _ => m - (intOf i).toNat)
  case atStart => exact ⟨0, Nat.zero_le _, rfl, Below.refl _ _, fun x hx => by simp at hx⟩
  case round =>
    obtain ⟨j, hj, rfl, hbw, HN⟩ := hrel
    by_cases hlt : (j : Int) < (m : Int)
    · have hjx : j < xs.length := by rw [HL.out]; omega
      obtain ⟨g, rfl, hg, hc⟩ := (HX.out wr hbw).2 j (by omega)
      have hs := HS.out j (by omega)
      obtain ⟨x, hxx⟩ : ∃ x, x = textAt xs j := ⟨_, rfl⟩
      rw [← hxx] at hc hs
      have HM : Hid (x ∈ xs) := by show _ ∈ _; rw [hxx]; exact textAt_mem xs j hjx
      have HT : Hid (xs.take (j + 1) = xs.take j ++ [x]) := by show _ = _; rw [take_textAt xs j hjx, hxx]
      clear hxx hjx
      go_wp2_with fail
      refine (implTokenOk_any x _ hs).mono ?_
      rintro e w1 ⟨t, rfl, ht, b1⟩
      have hb1 : Below w.heap.size w w1 := hbw.trans (b1.mono hbw.size)
      clear b1 hbw hc
      cases t with
      | false =>
        have HF : Hid (¬ NamesP xs) := fun h => nomatch ht.2 (h.1 x HM.out)
        clear ht HN
        go_wp2_with fail
        go_ret
        exact BoolIs.no HF.out hb1
      | true =>
        have HN2 : Hid (∀ y ∈ xs.take (j + 1), TokOk y) := by
          intro y hy
          rw [HT.out] at hy
          rcases List.mem_append.1 hy with hy | hy
          · exact HN.out y hy
          · rw [List.mem_singleton.1 hy]; exact ht.1 rfl
        clear ht HN
        go_wp2_with fail
        go_roundw
        case rel => exact ⟨j + 1, by omega, by go_num, hb1, HN2⟩
        case measure => simp [intOf]; omega
    · have HQ : Hid (NamesP xs) := ⟨by
        have h := HN.out
        rw [List.take_of_length_le (by rw [HL.out]; omega)] at h
        exact h, by rw [HL.out]; omega⟩
      clear HN
      go_wp2_with fail
      go_ret
      exact ⟨true, rfl, ⟨fun _ => HQ.out, fun _ => rfl⟩, hbw⟩

end Go.Proofs.YtdlhicdfldecgaaGreatDoor
