/- What the proof of FnExactJudgeOnce leans on: contracts of the program's and the specification's functions, and plain facts (part 8 of 11). -/
import Derived.Test.YtbmhonfgffjpcaaGreatFnExactJudgeOnceG
set_option maxHeartbeats 16000000
set_option maxRecDepth 100000
namespace Go.Proofs.YtbmhonfgffjpcaaGreat
open Go.RowKit
open Go.Lib hiding intOf
theorem path_cls (n : Int) : PathB n ↔ (cls n ≠ 4 ∧ cls n ≠ 7) := by
 have := cls_spec n
 unfold PathB
 constructor
 · intro h; omega
 · intro h; omega
theorem path_small {n : Int} (h : PathB n) : n < 128 := by unfold PathB at h; omega
theorem isPathRune_any (r : Int) (w : World) :
  Calls Tryz.prog 183 #[.int .i32 r] w fun e w' => BoolIs (PathB r) w e w' := by
 have HP : Hid (PathB r ↔ (cls r ≠ 4 ∧ cls r ≠ 7)) := path_cls r
 go_enter Tryz.func183, Tryz.ntmps183
 go_wp2_with fail
 refine (classOf_any r _).mono ?_
 rintro e w1 ⟨rfl, hb⟩
 generalize cls r = c at HP ⊢
 by_cases h4 : c = 4
 ·
  have HN : Hid (¬ PathB r) := fun h => (HP.out.1 h).1 h4
  subst h4
  go_wp2_with fail
  go_ret
  exact BoolIs.no HN.out hb
 ·
  have h5 : (c != 4) = true := by rw [bne_iff_ne]; exact h4
  by_cases h7 : c = 7
  ·
   have HN : Hid (¬ PathB r) := fun h => (HP.out.1 h).2 h7
   subst h7
   go_wp2_with fail
   go_ret
   exact BoolIs.no HN.out hb
  ·
   have h8 : (c != 7) = true := by rw [bne_iff_ne]; exact h7
   have HY : Hid (PathB r) := HP.out.2 ⟨h4, h7⟩
   go_wp2_with fail
   go_ret
   exact BoolIs.yes HY.out hb
theorem allRunes_path (s : ByteArray) (w : World) :
  Calls Tryz.prog 182 #[.string s, .func (.func 183) #[] #[]] w fun e w' => BoolIs (AllB PathB s) w e w' := by
 go_enter Tryz.func182, Tryz.ntmps182
 go_wp2
 go_loopw [6] (fun _ wr => ∃ pos : Nat, wr.heap[w.heap.size]? = some (.stringIter s pos) ∧ Below w.heap.size w wr ∧ Hid (AllTo PathB s pos)) (fun _ wr => s.size - wr.iterPos w.heap.size)
 case atStart => exact ⟨0, World.iter_heap _ _ _, (Below.refl _ _).alloc (Nat.le_refl _) _, allTo_zero _ _⟩
 case round =>
  obtain ⟨pos, hh, hbw, hall⟩ := hrel
  by_cases hp : pos < s.size
  ·
   have hnx := fun ty => run_next_any_at (P := Tryz.prog) wr w.heap.size s pos ty hh hp
   go_wp2_with (go_at_call 183; refine (isPathRune_any _ _).mono ?_; rintro e w1 ⟨b, rfl, hbt, hb1⟩)
   ·
    have hbf : b = false := by simpa using ‹(!b) = true›
    have hno : ¬ PathB ((Utf8.decode s pos).1 : Int) := fun h => by rw [hbt.2 h] at hbf; cases hbf
    go_ret
    exact BoolIs.no (rune_no (fun _ => path_small) s pos hp hno) (iter_step hh hbw hb1).2
   ·
    have hbf : b = true := by simpa using ‹(!b) = false›
    obtain ⟨hv, hone⟩ := rune_ok (fun _ => path_small) s pos hp (hbt.1 hbf)
    rw [hone] at hb1
    obtain ⟨h1, h2⟩ := iter_step hh hbw hb1
    exact ⟨⟨pos + 1, h1, h2, allTo_succ hall.out hp hv⟩, by rw [iterPos_of h1, iterPos_of hh]; omega⟩
  ·
   have hnx := fun ty => run_next_end_at (P := Tryz.prog) wr w.heap.size s pos ty hh hp
   go_wp2
   go_ret
   exact BoolIs.yes (allTo_end hall.out hp) hbw
theorem pathOk_any (s : ByteArray) (w : World) (hs : s.size ≤ maxLen) :
  Calls Tryz.prog 154 #[.string s] w fun e w' => BoolIs (PathOk s) w e w' := by
 unfold maxLen at hs
 by_cases h1 : (1 : Int) ≤ (s.size : Int)
 ·
  have h0 : 0 < s.size := by omega
  by_cases h2 : (s.size : Int) ≤ 60
  ·
   by_cases h3 : ((s[0]'h0).toNat : Int) = 47
   ·
    have h4 : (((s[0]'h0).toNat : Int) == 47) = true := by rw [beq_iff_eq]; exact h3
    have H3 : Hid ((s[0]'h0).toNat = 47) := by show _ = _; omega
    clear h3
    go_enter Tryz.func154, Tryz.ntmps154
    go_wp2_with fail
    refine (allRunes_path s _).mono ?_
    rintro e w1 ⟨b, rfl, hbt, hb1⟩
    cases b
    ·
     have HN : Hid (¬ PathOk s) := fun h => by have := hbt.2 h.1; cases this
     clear hbt
     go_wp2_with fail
     go_ret
     exact BoolIs.no HN.out hb1
    ·
     have HY : Hid (PathOk s) := ⟨hbt.1 rfl, by omega, by omega, h0, H3.out⟩
     clear hbt
     go_wp2_with fail
     go_ret
     exact BoolIs.yes HY.out hb1
   ·
    have h4 : (((s[0]'h0).toNat : Int) == 47) = false := by rw [beq_eq_false_iff_ne]; exact h3
    have HN : Hid (¬ PathOk s) := fun h => by obtain ⟨_, _, _, _, h5⟩ := h; omega
    clear h3
    go_enter Tryz.func154, Tryz.ntmps154
    go_wp2_with fail
    go_ret
    exact BoolIs.no HN.out (Below.refl _ _)
  ·
   have HN : Hid (¬ PathOk s) := fun h => by obtain ⟨_, _, h5, _⟩ := h; omega
   have hd : decide ((s.size : Int) ≤ 60) = false := by simpa using h2
   go_enter Tryz.func154, Tryz.ntmps154
   go_wp2_with fail
   go_ret
   exact BoolIs.no HN.out (Below.refl _ _)
 ·
  have HN : Hid (¬ PathOk s) := fun h => by obtain ⟨_, h5, _⟩ := h; omega
  have hd : decide ((1 : Int) ≤ (s.size : Int)) = false := by simpa using h1
  go_enter Tryz.func154, Tryz.ntmps154
  go_wp2_with fail
  go_ret
  exact BoolIs.no HN.out (Below.refl _ _)
theorem methB_none {m : Int} (h : ¬ (1 ≤ m ∧ m ≤ 4)) : methB m = ⟨#[]⟩ := by
 unfold methB
 rw [if_neg (by omega), if_neg (by omega), if_neg (by omega), if_neg (by omega)]
theorem methodName_any (m : Int) (w : World) :
  Calls Tryz.prog 189 #[.int .i64 m] w fun e w' => e = .returned (.string (methB m)) ∧ w' = w := by
 by_cases h1 : m = 1
 ·
  subst h1
  go_enter Tryz.func189, Tryz.ntmps189
  go_wp2
  go_ret
  exact ⟨rfl, rfl⟩
 ·
  by_cases h2 : m = 2
  ·
   subst h2
   go_enter Tryz.func189, Tryz.ntmps189
   go_wp2
   go_ret
   exact ⟨rfl, rfl⟩
  ·
   by_cases h3 : m = 3
   ·
    subst h3
    go_enter Tryz.func189, Tryz.ntmps189
    go_wp2
    go_ret
    exact ⟨rfl, rfl⟩
   ·
    by_cases h4 : m = 4
    ·
     subst h4
     go_enter Tryz.func189, Tryz.ntmps189
     go_wp2
     go_ret
     exact ⟨rfl, rfl⟩
    ·
     have HE : Hid (methB m = ⟨#[]⟩) := methB_none (by omega)
     have e1 : (m == 1) = false := by rw [beq_eq_false_iff_ne]; exact h1
     have e2 : (m == 2) = false := by rw [beq_eq_false_iff_ne]; exact h2
     have e3 : (m == 3) = false := by rw [beq_eq_false_iff_ne]; exact h3
     have e4 : (m == 4) = false := by rw [beq_eq_false_iff_ne]; exact h4
     go_enter Tryz.func189, Tryz.ntmps189
     go_wp2
     go_ret
     exact ⟨by rw [HE.out]; rfl, rfl⟩
/-- What is right of what stands behind the first line. -/
def RestP (fs : List (ByteArray × ByteArray)) (b : ByteArray) : Prop := FldsOk fs ∧ b.size ≤ 120
theorem restOk_any (v : Value) (b : ByteArray) (n base : Nat) (fs : List (ByteArray × ByteArray)) (w : World) (hv : FieldsV w base v n fs) (hn : n ≤ 1073741824) (hsz : WalkF n fs) (hb : b.size ≤ maxLen) :
  Calls Tryz.prog 190 #[.agg #[v, .string b]] w fun e w' => BoolIs (RestP fs b) w e w' := by
 obtain ⟨oa, cap, rfl, _⟩ := hv.slice
 obtain ⟨r, hr⟩ := exq (w.heap.size)
 have HR : Hid (∀ W, Below (w.alloc (.cells #[.slice oa n cap, .string b] 228)).heap.size (w.alloc (.cells #[.slice oa n cap, .string b] 228)) W → (W.cell? ⟨r, 0, none⟩ = some (.slice oa n cap) ∧ W.cell? ⟨r, 1, none⟩ = some (.string b)) ∧ FieldsV W base (.slice oa n cap) n fs ∧ Below w.heap.size w W) := fun W h => by
  have hh := kept_new h
  rw [← hr] at hh
  exact ⟨⟨by simp [World.cell?, hh], by simp [World.cell?, hh]⟩, hv.below (below_new h), below_new h⟩
 obtain ⟨_, hv0, _⟩ := HR.out _ (Below.refl _ _)
 unfold maxLen at hb
 go_enter Tryz.func190, Tryz.ntmps190
 go_wp2_with fail
 refine (ok_any _ n base fs _ hv0 hn hsz).mono ?_
 rintro e w1 ⟨b1, rfl, kb1, bb1⟩
 rw [← hr]
 obtain ⟨⟨c0, c1⟩, _, hbw1⟩ := HR.out w1 bb1
 clear hv hv0 hsz bb1 hr
 cases b1
 ·
  have HF : Hid (¬ RestP fs b) := fun h => by have := kb1.2 h.1; cases this
  clear kb1
  go_wp2_with fail
  go_ret
  exact BoolIs.no HF.out hbw1
 ·
  have HT : Hid (FldsOk fs) := kb1.1 rfl
  clear kb1
  by_cases h120 : (b.size : Int) ≤ 120
  ·
   have HY : Hid (RestP fs b) := ⟨HT.out, by omega⟩
   go_wp2_with fail
   go_ret
   exact BoolIs.yes HY.out hbw1
  ·
   have HF : Hid (¬ RestP fs b) := fun h => by have := h.2; omega
   have hd : decide ((b.size : Int) ≤ 120) = false := by simpa using h120
   go_wp2_with fail
   go_ret
   exact BoolIs.no HF.out hbw1
theorem meth_empty {m : Int} (h : 1 ≤ m ∧ m ≤ 4) : (methB m).toList.isEmpty = false := by
 refine isEmpty_no ?_
 rcases meth_cases h with rfl | rfl | rfl | rfl <;> decide
theorem reqOk_any (m : Int) (p : ByteArray) (v : Value) (b : ByteArray) (n base : Nat) (fs : List (ByteArray × ByteArray)) (w : World) (hv : FieldsV w base v n fs) (hn : n ≤ 1073741824) (hsz : WalkF n fs) (hp : p.size ≤ maxLen) (hb : b.size ≤ maxLen) :
  Calls Tryz.prog 162 #[.agg #[v, .string b, .int .i64 m, .string p]] w fun e w' => BoolIs (ReqP m p fs b) w e w' := by
 obtain ⟨oa, cap, rfl, _⟩ := hv.slice
 obtain ⟨r, hr⟩ := exq (w.heap.size)
 have HR : Hid (∀ W, Below (w.alloc (.cells #[.slice oa n cap, .string b, .int .i64 m, .string p] 230)).heap.size (w.alloc (.cells #[.slice oa n cap, .string b, .int .i64 m, .string p] 230)) W → (W.cell? ⟨r, 0, none⟩ = some (.slice oa n cap) ∧ W.cell? ⟨r, 1, none⟩ = some (.string b) ∧ W.cell? ⟨r, 2, none⟩ = some (.int .i64 m) ∧ W.cell? ⟨r, 3, none⟩ = some (.string p)) ∧ FieldsV W base (.slice oa n cap) n fs ∧ Below w.heap.size w W) := fun W h => by
  have hh := kept_new h
  rw [← hr] at hh
  exact ⟨⟨by simp [World.cell?, hh], by simp [World.cell?, hh], by simp [World.cell?, hh], by simp [World.cell?, hh]⟩, hv.below (below_new h), below_new h⟩
 have HSZ : Hid (WalkF n fs) := hsz
 have HP : Hid (p.size ≤ maxLen) := hp
 have HBS : Hid (b.size ≤ maxLen) := hb
 clear hv hsz hp hb
 go_enter Tryz.func162, Tryz.ntmps162
 go_wp2_with fail
 refine (methodName_any m _).mono ?_
 rintro e w1 ⟨rfl, hw1⟩
 have hb1 : Below (w.alloc (.cells #[.slice oa n cap, .string b, .int .i64 m, .string p] 230)).heap.size (w.alloc (.cells #[.slice oa n cap, .string b, .int .i64 m, .string p] 230)) w1 := by rw [hw1]; exact Below.refl _ _
 clear hw1
 rw [← hr]
 obtain ⟨⟨c0, c1, c2, c3⟩, _, hbw1⟩ := HR.out w1 hb1
 by_cases hm : 1 ≤ m ∧ m ≤ 4
 ·
  have e1 := meth_empty hm
  have HM : Hid (1 ≤ m ∧ m ≤ 4) := hm
  generalize methB m = mt at e1 ⊢
  clear hr hm
  go_wp2_with fail
  refine (pathOk_any p _ HP.out).mono ?_
  rintro e w2 ⟨b1, rfl, kb1, bb2⟩
  have hb2 := hb1.trans (bb2.mono hb1.size)
  clear c0 c1 c2 c3 bb2 hb1 hbw1
  obtain ⟨⟨c0, c1, c2, c3⟩, hv2, hbw2⟩ := HR.out w2 hb2
  have HV2 : Hid (FieldsV w2 base (.slice oa n cap) n fs) := hv2
  clear hv2
  cases b1
  ·
   have HF : Hid (¬ ReqP m p fs b) := fun h => by have := kb1.2 h.2.1; cases this
   clear kb1
   go_wp2_with fail
   go_ret
   exact BoolIs.no HF.out hbw2
  ·
   have HT : Hid (PathOk p) := kb1.1 rfl
   clear kb1
   go_wp2_with fail
   refine (restOk_any _ b n base fs _ HV2.out hn HSZ.out HBS.out).mono ?_
   rintro e w3 ⟨b2, rfl, kb2, bb3⟩
   have hb3 := hb2.trans (bb3.mono hb2.size)
   clear c0 c1 c2 c3 bb3 hb2 hbw2
   obtain ⟨_, _, hbw3⟩ := HR.out w3 hb3
   cases b2
   ·
    have HF : Hid (¬ ReqP m p fs b) := fun h => by have := kb2.2 h.2.2; cases this
    clear kb2
    go_wp2_with fail
    go_ret
    exact BoolIs.no HF.out hbw3
   ·
    have HY : Hid (ReqP m p fs b) := ⟨HM.out, HT.out, kb2.1 rfl⟩
    clear kb2
    go_wp2_with fail
    go_ret
    exact BoolIs.yes HY.out hbw3
 ·
  have HF : Hid (¬ ReqP m p fs b) := fun h => hm h.1
  rw [methB_none hm]
  clear hr hm
  go_wp2_with fail
  go_ret
  exact BoolIs.no HF.out hbw1
theorem respOk_any (st : Int) (v : Value) (b : ByteArray) (n base : Nat) (fs : List (ByteArray × ByteArray)) (w : World) (hv : FieldsV w base v n fs) (hn : n ≤ 1073741824) (hsz : WalkF n fs) (hb : b.size ≤ maxLen) :
  Calls Tryz.prog 181 #[.agg #[v, .string b, .int .i64 st]] w fun e w' => BoolIs (RespP st fs b) w e w' := by
 obtain ⟨oa, cap, rfl, _⟩ := hv.slice
 obtain ⟨r, hr⟩ := exq (w.heap.size)
 have HR : Hid (∀ W, Below (w.alloc (.cells #[.slice oa n cap, .string b, .int .i64 st] 251)).heap.size (w.alloc (.cells #[.slice oa n cap, .string b, .int .i64 st] 251)) W → (W.cell? ⟨r, 0, none⟩ = some (.slice oa n cap) ∧ W.cell? ⟨r, 1, none⟩ = some (.string b) ∧ W.cell? ⟨r, 2, none⟩ = some (.int .i64 st)) ∧ FieldsV W base (.slice oa n cap) n fs ∧ Below w.heap.size w W) := fun W h => by
  have hh := kept_new h
  rw [← hr] at hh
  exact ⟨⟨by simp [World.cell?, hh], by simp [World.cell?, hh], by simp [World.cell?, hh]⟩, hv.below (below_new h), below_new h⟩
 obtain ⟨_, hv0, hbw0⟩ := HR.out _ (Below.refl _ _)
 have HV0 : Hid (FieldsV (w.alloc (.cells #[.slice oa n cap, .string b, .int .i64 st] 251)) base (.slice oa n cap) n fs) := hv0
 have HSZ : Hid (WalkF n fs) := hsz
 have HBS : Hid (b.size ≤ maxLen) := hb
 clear hv hv0 hsz hb
 by_cases h1 : 100 ≤ st
 ·
  by_cases h2 : st ≤ 599
  ·
   go_enter Tryz.func181, Tryz.ntmps181
   go_wp2_with fail
   refine (restOk_any _ b n base fs _ HV0.out hn HSZ.out HBS.out).mono ?_
   rintro e w3 ⟨b2, rfl, kb2, bb3⟩
   obtain ⟨_, _, hbw3⟩ := HR.out w3 bb3
   clear bb3 hbw0
   cases b2
   ·
    have HF : Hid (¬ RespP st fs b) := fun h => by have := kb2.2 h.2; cases this
    clear kb2
    go_wp2_with fail
    go_ret
    exact BoolIs.no HF.out hbw3
   ·
    have HY : Hid (RespP st fs b) := ⟨⟨h1, h2⟩, kb2.1 rfl⟩
    clear kb2
    go_wp2_with fail
    go_ret
    exact BoolIs.yes HY.out hbw3
  ·
   have HF : Hid (¬ RespP st fs b) := fun h => h2 h.1.2
   have hd : decide (st ≤ 599) = false := by simpa using h2
   go_enter Tryz.func181, Tryz.ntmps181
   go_wp2_with fail
   go_ret
   exact BoolIs.no HF.out hbw0
 ·
  have HF : Hid (¬ RespP st fs b) := fun h => h1 h.1.1
  have hd : decide (100 ≤ st) = false := by simpa using h1
  go_enter Tryz.func181, Tryz.ntmps181
  go_wp2_with fail
  go_ret
  exact BoolIs.no HF.out hbw0
theorem requestOf_any (m : Int) (p : ByteArray) (oa : Option Addr) (n cap : Nat) (b : ByteArray) (w : World) :
  Calls Tryz.prog 161 #[.agg #[.int .i64 m, .string p, .slice oa n cap, .string b]] w fun e w' => e = .returned (.agg #[.slice oa n cap, .string b, .int .i64 m, .string p]) ∧ Below w.heap.size w w' := by
 go_enter Tryz.func161, Tryz.ntmps161
 go_wp2
 exact bodyPost_ret (v := .agg #[.slice oa n cap, .string b, .int .i64 m, .string p]) (by simp [results, Tryz.results161, go_sem]) rfl ⟨rfl, ((Below.refl _ _).alloc (Nat.le_refl _) _).alloc (by simp) _⟩
theorem answerOf_any (m : Int) (oa : Option Addr) (n cap : Nat) (b : ByteArray) (w : World) :
  Calls Tryz.prog 180 #[.agg #[.int .i64 m, .slice oa n cap, .string b]] w fun e w' => e = .returned (.agg #[.slice oa n cap, .string b, .int .i64 m]) ∧ Below w.heap.size w w' := by
 go_enter Tryz.func180, Tryz.ntmps180
 go_wp2
 exact bodyPost_ret (v := .agg #[.slice oa n cap, .string b, .int .i64 m]) (by simp [results, Tryz.results180, go_sem]) rfl ⟨rfl, ((Below.refl _ _).alloc (Nat.le_refl _) _).alloc (by simp) _⟩
theorem implReqOk_any (m : Int) (p : ByteArray) (v : Value) (b : ByteArray) (n base : Nat) (fs : List (ByteArray × ByteArray)) (w : World) (hv : FieldsV w base v n fs) (hn : n ≤ 1073741824) (hsz : WalkF n fs) (hp : p.size ≤ maxLen) (hb : b.size ≤ maxLen) :
  Calls Tryz.prog 136 #[.agg #[.int .i64 m, .string p, v, .string b]] w fun e w' => BoolIs (ReqP m p fs b) w e w' := by
 obtain ⟨oa, cap, rfl, _⟩ := hv.slice
 have hb0 : Below w.heap.size w (w.alloc (.cells #[.int .i64 m, .string p, .slice oa n cap, .string b] 62)) := (Below.refl _ _).alloc (Nat.le_refl _) _
 go_enter Tryz.func136, Tryz.ntmps136
 go_wp2_with fail
 refine (requestOf_any m p oa n cap b _).mono ?_
 rintro e w1 ⟨rfl, bb1⟩
 have hb1 : Below w.heap.size w w1 := hb0.trans (bb1.mono hb0.size)
 have hv1 := hv.below hb1
 clear bb1 hb0 hv
 go_wp2_with fail
 refine (reqOk_any m p _ b n base fs _ hv1 hn hsz hp hb).mono ?_
 rintro e w2 ⟨b1, rfl, kb, bb2⟩
 have hb2 : Below w.heap.size w w2 := hb1.trans (bb2.mono hb1.size)
 have HK : Hid (b1 = true ↔ ReqP m p fs b) := kb
 clear hv1 hsz hb bb2 hb1 kb hp
 go_wp2_with fail
 go_ret
 exact ⟨b1, rfl, HK.out, hb2⟩
theorem implRespOk_any (m : Int) (v : Value) (b : ByteArray) (n base : Nat) (fs : List (ByteArray × ByteArray)) (w : World) (hv : FieldsV w base v n fs) (hn : n ≤ 1073741824) (hsz : WalkF n fs) (hb : b.size ≤ maxLen) :
  Calls Tryz.prog 153 #[.agg #[.int .i64 m, v, .string b]] w fun e w' => BoolIs (RespP m fs b) w e w' := by
 obtain ⟨oa, cap, rfl, _⟩ := hv.slice
 have hb0 : Below w.heap.size w (w.alloc (.cells #[.int .i64 m, .slice oa n cap, .string b] 64)) := (Below.refl _ _).alloc (Nat.le_refl _) _
 go_enter Tryz.func153, Tryz.ntmps153
 go_wp2_with fail
 refine (answerOf_any m oa n cap b _).mono ?_
 rintro e w1 ⟨rfl, bb1⟩
 have hb1 : Below w.heap.size w w1 := hb0.trans (bb1.mono hb0.size)
 have hv1 := hv.below hb1
 clear bb1 hb0 hv
 go_wp2_with fail
 refine (respOk_any m _ b n base fs _ hv1 hn hsz hb).mono ?_
 rintro e w2 ⟨b1, rfl, kb, bb2⟩
 have hb2 : Below w.heap.size w w2 := hb1.trans (bb2.mono hb1.size)
 have HK : Hid (b1 = true ↔ RespP m fs b) := kb
 clear hv1 hsz hb bb2 hb1 kb
 go_wp2_with fail
 go_ret
 exact ⟨b1, rfl, HK.out, hb2⟩
end Go.Proofs.YtbmhonfgffjpcaaGreat
namespace Go.Proofs.YtbmhonfgffjpcaaGreat
open Go.RowKit
open Go.Lib hiding intOf
theorem implObjOk_any (p : ByteArray) (o1 : Option Addr) (n1 c1 : Nat) (xs : List ByteArray) (o2 : Option Addr) (n2 c2 : Nat) (ys : List ByteArray) (st : Int) (v3 : Value) (n3 base : Nat) (fs : List (ByteArray × ByteArray)) (b : ByteArray) (t : Int) (w : World) (h1 : TextsA w o1 n1 xs) (h2 : TextsA w o2 n2 ys) (h3 : FieldsV w base v3 n3 fs) (hn1 : n1 ≤ 2000000) (hn2 : n2 ≤ 2000000) (hn3 : n3 ≤ 2000000) (hs1 : ∀ i, i < n1 → (textAt xs i).size ≤ maxLen) (hs2 : ∀ i, i < n2 → (textAt ys i).size ≤ maxLen) (hs3 : WalkF n3 fs) (hc : CopyF fs) (hp : p.size ≤ maxLen) (hx : b.size ≤ maxLen) (hg : (getV fs varyName).size ≤ 1048576) :
  Calls Tryz.prog 133 #[.agg #[.string p, .slice o1 n1 c1, .slice o2 n2 c2, .int .i64 st, v3, .string b, .int .i64 t]] w fun e w' => BoolIs (ObjP p xs ys st fs b t) w e w' := by
 obtain ⟨o3, c3, rfl, _⟩ := h3.slice
 have HV1 : Hid (∀ W, Below w.heap.size w W → TextsA W o1 n1 xs) := fun W h => h1.below h
 have HV2 : Hid (∀ W, Below w.heap.size w W → TextsA W o2 n2 ys) := fun W h => h2.below h
 have HV3 : Hid (∀ W, Below w.heap.size w W → FieldsV W base (.slice o3 n3 c3) n3 fs) := fun W h => h3.below h
 have HL1 : Hid (xs.length = n1) := h1.1
 have HL2 : Hid (ys.length = n2) := h2.1
 have HS1 : Hid (∀ i, i < n1 → (textAt xs i).size ≤ maxLen) := hs1
 have HS2 : Hid (∀ i, i < n2 → (textAt ys i).size ≤ maxLen) := hs2
 have HS3 : Hid (WalkF n3 fs) := hs3
 have HC : Hid (CopyF fs) := hc
 have HPM : Hid (p.size ≤ maxLen) := hp
 have HX : Hid (b.size ≤ maxLen) := hx
 have HG : Hid ((getV fs varyName).size ≤ 1048576) := hg
 obtain ⟨vl, hvl⟩ := exq (varyP fs)
 have HVL : Hid (varyP fs = vl) := hvl.symm
 have HVZ : Hid (vl.length ≤ 2000000) := by
  show _ ≤ _
  have hle := splitL_le (getV fs varyName)
  rw [hvl]
  unfold varyP
  rw [List.length_map]
  omega
 clear h1 h2 h3 hs1 hs2 hs3 hc hp hx hg hvl
 have hb0 : Below w.heap.size w w := Below.refl _ _
 go_enter Tryz.func133, Tryz.ntmps133
 go_upto_region 1 with fail
 obtain ⟨qv1, hqv1⟩ := exq ((w).heap.size)
 obtain ⟨w1, hW1⟩ := exq ((w).alloc (.cells #[.string p, .slice o1 n1 c1, .slice o2 n2 c2, .int .i64 st, .slice o3 n3 c3, .string b, .int .i64 t] 66))
 have hz1 : (w).heap.size = qv1 := hqv1.symm
 first | rw [← hW1, ← hqv1] | rw [← hW1]
 have hs1 := hsa hW1 hz1
 have bw := bal hW1
 have hb1 := hbt hb0 bw
 have HBv1_1 := hnew hW1 hz1
 clear hb0 bw hW1 hz1
 clear hs1 hqv1
 have cv1_3 := (k7c HBv1_1).2.2.2.1
 have cv1_4 := (k7c HBv1_1).2.2.2.2.1
 have cv1_5 := (k7c HBv1_1).2.2.2.2.2.1
 go_wp2_with fail
 refine (implRespOk_any st _ b n3 base fs _ (HV3.out _ hb1) (by omega) HS3.out HX.out).mono ?_
 rintro e w2 ⟨u1, rfl, htu1, bw⟩
 have hb2 := hbt hb1 bw
 have HBv1_2 := hblk HBv1_1 bw
 clear hb1 HBv1_1 bw
 clear cv1_3 cv1_4 cv1_5
 cases u1 with
 | false =>
  have HF : Hid (¬ ObjP p xs ys st fs b t) := fun h => nomatch htu1.2 h.1
  clear htu1
  go_wp2_with fail
  go_ret
  exact BoolIs.no HF.out hb2
 | true =>
  have HR : Hid (RespP st fs b) := htu1.1 rfl
  clear htu1
  have cv1_0 := (k7c HBv1_2).1
  go_wp2_with fail
  refine (pathOk_any p _ HPM.out).mono ?_
  rintro e w3 ⟨u2, rfl, htu2, bw⟩
  have hb3 := hbt hb2 bw
  have HBv1_3 := hblk HBv1_2 bw
  clear hb2 HBv1_2 bw
  clear cv1_0
  cases u2 with
  | false =>
   have HF : Hid (¬ ObjP p xs ys st fs b t) := fun h => nomatch htu2.2 h.2.1
   clear htu2
   go_wp2_with fail
   go_ret
   exact BoolIs.no HF.out hb3
  | true =>
   have HP : Hid (PathOk p) := htu2.1 rfl
   clear htu2
   have cv1_6 := (k7c HBv1_3).2.2.2.2.2.2
   go_wp2_with fail
   refine (timeOk_any t _).mono ?_
   rintro e w4 ⟨rfl, hwe⟩
   have bw : Below (w3).heap.size (w3) w4 := by rw [hwe]; exact Below.refl _ _
   clear hwe
   obtain ⟨u3, hu3⟩ : ∃ u3, u3 = decide ((0 : Int) ≤ t ∧ t ≤ 1000000) := ⟨_, rfl⟩
   rw [← hu3]
   have hb4 := hbt hb3 bw
   have HBv1_4 := hblk HBv1_3 bw
   clear hb3 HBv1_3 bw
   clear cv1_6
   cases u3 with
   | false =>
    have HF : Hid (¬ ObjP p xs ys st fs b t) := fun h => absurd h.2.2.1 (of_decide_eq_false hu3.symm)
    clear hu3
    go_wp2_with fail
    go_ret
    exact BoolIs.no HF.out hb4
   | true =>
    have HT : Hid (0 ≤ t ∧ t ≤ 1000000) := (show 0 ≤ t ∧ t ≤ 1000000 from of_decide_eq_true hu3.symm)
    clear hu3
    go_upto_region 3 with fail
    refine wp_region_held_drew (S := fun W => W.heap[qv1]? = some (.cells #[.string p, .slice o1 n1 c1, .slice o2 n2 c2, .int .i64 st, .slice o3 n3 c3, .string b, .int .i64 t] 66)) (by kernel_rfl) HBv1_4.out (fun _ => ?_)
    obtain ⟨w5, hX⟩ := exq w4.drew
    have bw := bdr hX
    rw [← hX]
    have hb5 := hbt hb4 bw
    have HBv1_5 := hblk HBv1_4 bw
    have hS5 := HBv1_5.out
    clear hb4 HBv1_4 bw hX
    refine tkP 0 (.pointer (some ⟨qv1, 1, none⟩)) 20 rfl rfl hS5 ?_
    go_frame
    refine tkL 1 (.slice o1 n1 c1) 21 rfl rfl (Or.inl ⟨by rfl, by intro W hW; have hhv1 := hW; have y1 := (cell_of hhv1 1).trans rfl; go_simp⟩) hS5 ?_
    go_frame
    refine tkP 2 (.pointer (some ⟨qv1, 3, none⟩)) 22 rfl rfl hS5 ?_
    go_frame
    refine tkP 3 (.pointer (some ⟨qv1, 4, none⟩)) 23 rfl rfl hS5 ?_
    go_frame
    refine tkL 4 (.slice o3 n3 c3) 24 rfl rfl (Or.inl ⟨by rfl, by intro W hW; have hhv1 := hW; have y4 := (cell_of hhv1 4).trans rfl; go_simp⟩) hS5 ?_
    go_frame
    refine rd1 5 rfl (fun K hK => ?_)
    go_simp
    refine (implVaryOf_any _ n3 base fs _ (HV3.out _ hb5) (by omega) HC.out HG.out).mono ?_
    rintro e w6 ⟨vv, rfl, ownY, bw⟩
    obtain ⟨oY, pY, rfl⟩ := slice_of_owns ownY
    rw [HVL.out] at ownY ⊢
    have hb6 := hbt hb5 bw
    have HBv1_6 := hblk HBv1_5 bw
    have HOY_6 := hwd ownY hb5.size
    clear ownY
    clear hb5 HBv1_5 bw
    have hS6 := HBv1_6.out
    refine hK.out _ _ hS6 (fun _ => ?_)
    clear hK K hS5
    refine rd1 6 rfl (fun K hK => ?_)
    go_simp
    refine (equalT_any _ _ _ _ _ _ xs vl _ (HV1.out _ hb6) (by omega) (texts_view HOY_6.out) HVZ.out).mono ?_
    rintro e w7 ⟨rfl, bw⟩
    obtain ⟨u5, hu5⟩ := exq (decide (xs = vl))
    rw [← hu5]
    have hb7 := hbt hb6 bw
    have HOY_7 := hown HOY_6 bw
    have HBv1_7 := hblk HBv1_6 bw
    clear hb6 HOY_6 HBv1_6 bw
    have hS7 := HBv1_7.out
    refine hK.out _ _ hS7 (fun _ => ?_)
    clear hK K hS6
    refine tkP 7 (.bool u5) 27 rfl rfl hS7 ?_
    go_frame
    cases u5 with
    | false =>
     have HF : Hid (¬ ObjP p xs ys st fs b t) := fun h => absurd (h.2.2.2.2.1.trans HVL.out) (of_decide_eq_false hu5.symm)
     clear hu5
     refine tkN 8 28 rfl rfl hS7 ?_
     go_frame
     refine tkN 9 29 rfl rfl hS7 ?_
     go_frame
     refine tkN 10 30 rfl rfl hS7 ?_
     go_frame
     refine tkP 11 (.bool false) 31 rfl rfl hS7 ?_
     go_frame
     refine tkP 12 (.bool false) 3 rfl rfl hS7 ?_
     go_frame
     clear hS7
     refine wpAnyH_done (by kernel_rfl) ?_ _
     go_wp2_with fail
     go_ret
     exact BoolIs.no HF.out hb7
    | true =>
     have HE : Hid (xs = vl) := (show xs = vl from of_decide_eq_true hu5.symm)
     clear hu5
     refine tkP 8 (.pointer (some ⟨qv1, 1, none⟩)) 28 rfl rfl hS7 ?_
     go_frame
     refine tkL 9 (.slice o1 n1 c1) 29 rfl rfl (Or.inl ⟨by rfl, by intro W hW; have hhv1 := hW; have y1 := (cell_of hhv1 1).trans rfl; go_simp⟩) hS7 ?_
     go_frame
     refine rd1 10 rfl (fun K hK => ?_)
     go_simp
     refine (namesOk_any _ _ _ xs _ (HV1.out _ hb7) (by omega) HS1.out).mono ?_
     rintro e w8 ⟨u4, rfl, htu4, bw⟩
     have hb8 := hbt hb7 bw
     have HOY_8 := hown HOY_7 bw
     have HBv1_8 := hblk HBv1_7 bw
     clear hb7 HOY_7 HBv1_7 bw
     have hS8 := HBv1_8.out
     refine hK.out _ _ hS8 (fun _ => ?_)
     clear hK K hS7
     refine tkP 11 (.bool u4) 31 rfl rfl hS8 ?_
     go_frame
     refine tkP 12 (.bool u4) 3 rfl rfl hS8 ?_
     go_frame
     clear hS8
     refine wpAnyH_done (by kernel_rfl) ?_ _
     cases u4 with
     | false =>
      have HF : Hid (¬ ObjP p xs ys st fs b t) := fun h => nomatch htu4.2 h.2.2.2.1
      clear htu4
      go_wp2_with fail
      go_ret
      exact BoolIs.no HF.out hb8
     | true =>
      have HNM : Hid (NamesP xs) := htu4.1 rfl
      clear htu4
      by_cases hc1 : (n2 : Int) = (n1 : Int)
      ·
       have hc1b : (((n2 : Int) : Int) == ((n1 : Int) : Int)) = true := by simpa using hc1
       have hc1n : (((n2 : Int) : Int) != ((n1 : Int) : Int)) = false := by simpa using hc1
       have HEQ : Hid ((n2 : Int) = (n1 : Int)) := hc1
       have hc1H : Hid ((n2 : Int) = (n1 : Int)) := hc1
       clear hc1
       have cv1_1 := (k7c HBv1_8).2.1
       have cv1_2 := (k7c HBv1_8).2.2.1
       go_wp2_with fail
       refine (valuesOk_any _ _ _ ys _ (HV2.out _ hb8) (by omega) HS2.out).mono ?_
       rintro e w9 ⟨u6, rfl, htu6, bw⟩
       have hb9 := hbt hb8 bw
       have HOY_9 := hown HOY_8 bw
       have HBv1_9 := hblk HBv1_8 bw
       clear hb8 HOY_8 HBv1_8 bw
       clear cv1_1 cv1_2
       go_wp2_with fail
       go_ret
       exact ⟨u6, rfl, ⟨fun h => ⟨HR.out, HP.out, HT.out, HNM.out, HE.out.trans HVL.out.symm, by have h1 := HL1.out; have h2 := HL2.out; have h3 := HEQ.out; omega, htu6.1 h⟩, fun h => htu6.2 h.2.2.2.2.2.2⟩, hb9⟩
      ·
       have hc1b : (((n2 : Int) : Int) == ((n1 : Int) : Int)) = false := by simpa using hc1
       have hc1n : (((n2 : Int) : Int) != ((n1 : Int) : Int)) = true := by simpa using hc1
       have HF : Hid (¬ ObjP p xs ys st fs b t) := fun h => by have h1 := h.2.2.2.2.2.1; have h2 := HL1.out; have h3 := HL2.out; omega
       have hc1H : Hid (¬ ((n2 : Int) = (n1 : Int))) := hc1
       clear hc1
       have cv1_1 := (k7c HBv1_8).2.1
       have cv1_2 := (k7c HBv1_8).2.2.1
       go_wp2_with fail
       go_ret
       exact BoolIs.no HF.out hb8
end Go.Proofs.YtbmhonfgffjpcaaGreat
namespace Go.Proofs.YtbmhonfgffjpcaaGreat
open Go.RowKit
open Go.Lib hiding intOf
theorem ruleOf_1 (a b : ByteArray) (t : Int) (w : World) :
  Calls Tryz.prog 159 #[.agg #[.int .i64 1, .string a, .string b, .int .i64 t]] w fun e w' => e = .returned (.iface 256 (.agg #[.string a])) ∧ Below w.heap.size w w' := by
 have hb0 : Below w.heap.size w w := Below.refl _ _
 go_enter Tryz.func159, Tryz.ntmps159
 go_upto_region 1 with fail
 obtain ⟨qv1, hqv1⟩ := exq ((w).heap.size)
 obtain ⟨w1, hW1⟩ := exq ((w).alloc (.cells #[.int .i64 1, .string a, .string b, .int .i64 t] 152))
 have hz1 : (w).heap.size = qv1 := hqv1.symm
 first | rw [← hW1, ← hqv1] | rw [← hW1]
 have hs1 := hsa hW1 hz1
 have bw := bal hW1
 have hb1 := hbt hb0 bw
 have HBv1_1 := hnew hW1 hz1
 clear hb0 bw hW1 hz1
 clear hs1 hqv1
 have cv1_0 := (k4c HBv1_1).1
 have cv1_1 := (k4c HBv1_1).2.1
 go_wp2_with fail
 go_ret
 exact ⟨rfl, hb1⟩
theorem ruleOf_2 (a b : ByteArray) (t : Int) (w : World) :
  Calls Tryz.prog 159 #[.agg #[.int .i64 2, .string a, .string b, .int .i64 t]] w fun e w' => e = .returned (.iface 258 (.agg #[.string a])) ∧ Below w.heap.size w w' := by
 have hb0 : Below w.heap.size w w := Below.refl _ _
 go_enter Tryz.func159, Tryz.ntmps159
 go_upto_region 1 with fail
 obtain ⟨qv1, hqv1⟩ := exq ((w).heap.size)
 obtain ⟨w1, hW1⟩ := exq ((w).alloc (.cells #[.int .i64 2, .string a, .string b, .int .i64 t] 152))
 have hz1 : (w).heap.size = qv1 := hqv1.symm
 first | rw [← hW1, ← hqv1] | rw [← hW1]
 have hs1 := hsa hW1 hz1
 have bw := bal hW1
 have hb1 := hbt hb0 bw
 have HBv1_1 := hnew hW1 hz1
 clear hb0 bw hW1 hz1
 clear hs1 hqv1
 have cv1_0 := (k4c HBv1_1).1
 have cv1_1 := (k4c HBv1_1).2.1
 go_wp2_with fail
 go_ret
 exact ⟨rfl, hb1⟩
theorem ruleOf_3 (a b : ByteArray) (t : Int) (w : World) :
  Calls Tryz.prog 159 #[.agg #[.int .i64 3, .string a, .string b, .int .i64 t]] w fun e w' => e = .returned (.iface 260 (.agg #[.string a, .string b])) ∧ Below w.heap.size w w' := by
 have hb0 : Below w.heap.size w w := Below.refl _ _
 go_enter Tryz.func159, Tryz.ntmps159
 go_upto_region 1 with fail
 obtain ⟨qv1, hqv1⟩ := exq ((w).heap.size)
 obtain ⟨w1, hW1⟩ := exq ((w).alloc (.cells #[.int .i64 3, .string a, .string b, .int .i64 t] 152))
 have hz1 : (w).heap.size = qv1 := hqv1.symm
 first | rw [← hW1, ← hqv1] | rw [← hW1]
 have hs1 := hsa hW1 hz1
 have bw := bal hW1
 have hb1 := hbt hb0 bw
 have HBv1_1 := hnew hW1 hz1
 clear hb0 bw hW1 hz1
 clear hs1 hqv1
 have cv1_0 := (k4c HBv1_1).1
 have cv1_1 := (k4c HBv1_1).2.1
 have cv1_2 := (k4c HBv1_1).2.2.1
 go_wp2_with fail
 go_ret
 exact ⟨rfl, hb1⟩
theorem ruleOf_no (k : Int) (a b : ByteArray) (t : Int) (w : World) (h1 : ¬ k = 1) (h2 : ¬ k = 2) (h3 : ¬ k = 3) :
  Calls Tryz.prog 159 #[.agg #[.int .i64 k, .string a, .string b, .int .i64 t]] w fun e w' => e = .returned .nilIface ∧ Below w.heap.size w w' := by
 have hk1 : ((k : Int) == (1 : Int)) = false := by simpa using h1
 have hk2 : ((k : Int) == (2 : Int)) = false := by simpa using h2
 have hk3 : ((k : Int) == (3 : Int)) = false := by simpa using h3
 clear h1 h2 h3
 have hb0 : Below w.heap.size w w := Below.refl _ _
 go_enter Tryz.func159, Tryz.ntmps159
 go_upto_region 1 with fail
 obtain ⟨qv1, hqv1⟩ := exq ((w).heap.size)
 obtain ⟨w1, hW1⟩ := exq ((w).alloc (.cells #[.int .i64 k, .string a, .string b, .int .i64 t] 152))
 have hz1 : (w).heap.size = qv1 := hqv1.symm
 first | rw [← hW1, ← hqv1] | rw [← hW1]
 have hs1 := hsa hW1 hz1
 have bw := bal hW1
 have hb1 := hbt hb0 bw
 have HBv1_1 := hnew hW1 hz1
 clear hb0 bw hW1 hz1
 clear hs1 hqv1
 have cv1_0 := (k4c HBv1_1).1
 go_wp2_with fail
 go_ret
 exact ⟨rfl, hb1⟩
theorem banOf_1 (a : ByteArray) (t : Int) (w : World) :
  Calls Tryz.prog 160 #[.iface 256 (.agg #[.string a]), .int .i64 t] w fun e w' => e = .returned (.agg #[.int .i64 1, .string a, .string ⟨#[]⟩, .int .i64 t]) ∧ Below w.heap.size w w' := by
 have hta1 : ∀ W : World, (Instr.typeAssert (.iface 256 (.agg #[.string a])) 222 256 true).run Tryz.prog W = .ok (.tuple #[.agg #[.string a], .bool true]) W := fun _ => by kernel_rfl
 have hta2 : ∀ W : World, (Instr.typeAssert (.iface 256 (.agg #[.string a])) 222 258 true).run Tryz.prog W = .ok (.tuple #[.agg #[.string ⟨#[]⟩], .bool false]) W := fun _ => by kernel_rfl
 have hta3 : ∀ W : World, (Instr.typeAssert (.iface 256 (.agg #[.string a])) 222 260 true).run Tryz.prog W = .ok (.tuple #[.agg #[.string ⟨#[]⟩, .string ⟨#[]⟩], .bool false]) W := fun _ => by kernel_rfl
 have hb0 : Below w.heap.size w w := Below.refl _ _
 go_enter Tryz.func160, Tryz.ntmps160
 go_upto_region 1 with fail
 obtain ⟨qv1, hqv1⟩ := exq ((w).heap.size)
 obtain ⟨w1, hW1⟩ := exq ((w).alloc (.cells #[.int .i64 0, .string ⟨#[]⟩, .string ⟨#[]⟩, .int .i64 0] 152))
 have hz1 : (w).heap.size = qv1 := hqv1.symm
 first | rw [← hW1, ← hqv1] | rw [← hW1]
 have hs1 := hsa hW1 hz1
 have bw := bal hW1
 have hb1 := hbt hb0 bw
 have HBv1_1 := hnew hW1 hz1
 have HGv1 := hge hz1 hb0
 clear hb0 bw hW1 hz1
 clear hs1 hqv1
 go_upto_region 4 with fail
 obtain ⟨qv2, hqv2⟩ := exq ((w1).heap.size)
 obtain ⟨w2, hW2⟩ := exq ((w1).alloc (.cells #[.string a] 256))
 have hz2 : (w1).heap.size = qv2 := hqv2.symm
 first | rw [← hW2, ← hqv2] | rw [← hW2]
 have hs2 := hsa hW2 hz2
 have bw := bal hW2
 have hb2 := hbt hb1 bw
 have HBv1_2 := hblk HBv1_1 bw
 have HNv1v2 : Hid (qv1 ≠ qv2) := fun e => by have h1 := (Array.getElem?_eq_some_iff.1 HBv1_1.out).1; omega
 have HBv2_2 := hnew hW2 hz2
 clear hb1 HBv1_1 bw hW2 hz2
 clear hs2 hqv2
 have cv1_0 := (k4c HBv1_2).1
 have fcv1_0 := hfz HBv1_2 0
 have cv1_1 := (k4c HBv1_2).2.1
 have fcv1_1 := hfz HBv1_2 1
 have cv1_2 := (k4c HBv1_2).2.2.1
 have fcv1_2 := hfz HBv1_2 2
 have cv1_3 := (k4c HBv1_2).2.2.2
 have fcv1_3 := hfz HBv1_2 3
 have cv2_0 := k1c HBv2_2
 go_wp2_with fail
 obtain ⟨w3, hW3⟩ := exq ((w2).setCell ⟨qv1, 0, none⟩ (.int .i64 1))
 rw [← hW3]
 have hb3 := hbS hW3 hb2 HGv1
 have HBv2_3 := hset hW3 HNv1v2.out.symm HBv2_2
 have HBv1_3 : Hid ((w3).heap[qv1]? = some (.cells #[.int .i64 1, .string ⟨#[]⟩, .string ⟨#[]⟩, .int .i64 0] 152)) := by show _ = _; rw [hW3]; have h := heap_set _ _ 0 _ _ _ (.int .i64 1) HBv1_2.out; simpa using h
 clear hb2 HBv1_2 HBv2_2 hW3
 obtain ⟨w4, hW4⟩ := exq ((w3).setCell ⟨qv1, 1, none⟩ (.string a))
 rw [← hW4]
 have hb4 := hbS hW4 hb3 HGv1
 have HBv2_4 := hset hW4 HNv1v2.out.symm HBv2_3
 have HBv1_4 : Hid ((w4).heap[qv1]? = some (.cells #[.int .i64 1, .string a, .string ⟨#[]⟩, .int .i64 0] 152)) := by show _ = _; rw [hW4]; have h := heap_set _ _ 1 _ _ _ (.string a) HBv1_3.out; simpa using h
 clear hb3 HBv1_3 HBv2_3 hW4
 obtain ⟨w5, hW5⟩ := exq ((w4).setCell ⟨qv1, 2, none⟩ (.string ⟨#[]⟩))
 rw [← hW5]
 have hb5 := hbS hW5 hb4 HGv1
 have HBv2_5 := hset hW5 HNv1v2.out.symm HBv2_4
 have HBv1_5 : Hid ((w5).heap[qv1]? = some (.cells #[.int .i64 1, .string a, .string ⟨#[]⟩, .int .i64 0] 152)) := by show _ = _; rw [hW5]; have h := heap_set _ _ 2 _ _ _ (.string ⟨#[]⟩) HBv1_4.out; simpa using h
 clear hb4 HBv1_4 HBv2_4 hW5
 obtain ⟨w6, hW6⟩ := exq ((w5).setCell ⟨qv1, 3, none⟩ (.int .i64 t))
 rw [← hW6]
 have hb6 := hbS hW6 hb5 HGv1
 have HBv2_6 := hset hW6 HNv1v2.out.symm HBv2_5
 have HBv1_6 : Hid ((w6).heap[qv1]? = some (.cells #[.int .i64 1, .string a, .string ⟨#[]⟩, .int .i64 t] 152)) := by show _ = _; rw [hW6]; have h := heap_set _ _ 3 _ _ _ (.int .i64 t) HBv1_5.out; simpa using h
 clear hb5 HBv1_5 HBv2_5 hW6
 have kv1_0 := (k4c HBv1_6).1
 have kv1_1 := (k4c HBv1_6).2.1
 have kv1_2 := (k4c HBv1_6).2.2.1
 have kv1_3 := (k4c HBv1_6).2.2.2
 refine bodyPost_ret (v := .agg #[.int .i64 1, .string a, .string ⟨#[]⟩, .int .i64 t]) (by simp [results, Tryz.results160, go_sem, kv1_0, kv1_1, kv1_2, kv1_3]) rfl ?_
 exact ⟨rfl, hb6⟩
theorem banOf_2 (a : ByteArray) (t : Int) (w : World) :
  Calls Tryz.prog 160 #[.iface 258 (.agg #[.string a]), .int .i64 t] w fun e w' => e = .returned (.agg #[.int .i64 2, .string a, .string ⟨#[]⟩, .int .i64 t]) ∧ Below w.heap.size w w' := by
 have hta1 : ∀ W : World, (Instr.typeAssert (.iface 258 (.agg #[.string a])) 222 256 true).run Tryz.prog W = .ok (.tuple #[.agg #[.string ⟨#[]⟩], .bool false]) W := fun _ => by kernel_rfl
 have hta2 : ∀ W : World, (Instr.typeAssert (.iface 258 (.agg #[.string a])) 222 258 true).run Tryz.prog W = .ok (.tuple #[.agg #[.string a], .bool true]) W := fun _ => by kernel_rfl
 have hta3 : ∀ W : World, (Instr.typeAssert (.iface 258 (.agg #[.string a])) 222 260 true).run Tryz.prog W = .ok (.tuple #[.agg #[.string ⟨#[]⟩, .string ⟨#[]⟩], .bool false]) W := fun _ => by kernel_rfl
 have hb0 : Below w.heap.size w w := Below.refl _ _
 go_enter Tryz.func160, Tryz.ntmps160
 go_upto_region 1 with fail
 obtain ⟨qv1, hqv1⟩ := exq ((w).heap.size)
 obtain ⟨w1, hW1⟩ := exq ((w).alloc (.cells #[.int .i64 0, .string ⟨#[]⟩, .string ⟨#[]⟩, .int .i64 0] 152))
 have hz1 : (w).heap.size = qv1 := hqv1.symm
 first | rw [← hW1, ← hqv1] | rw [← hW1]
 have hs1 := hsa hW1 hz1
 have bw := bal hW1
 have hb1 := hbt hb0 bw
 have HBv1_1 := hnew hW1 hz1
 have HGv1 := hge hz1 hb0
 clear hb0 bw hW1 hz1
 clear hs1 hqv1
 go_upto_region 7 with fail
 obtain ⟨qv2, hqv2⟩ := exq ((w1).heap.size)
 obtain ⟨w2, hW2⟩ := exq ((w1).alloc (.cells #[.string a] 258))
 have hz2 : (w1).heap.size = qv2 := hqv2.symm
 first | rw [← hW2, ← hqv2] | rw [← hW2]
 have hs2 := hsa hW2 hz2
 have bw := bal hW2
 have hb2 := hbt hb1 bw
 have HBv1_2 := hblk HBv1_1 bw
 have HNv1v2 : Hid (qv1 ≠ qv2) := fun e => by have h1 := (Array.getElem?_eq_some_iff.1 HBv1_1.out).1; omega
 have HBv2_2 := hnew hW2 hz2
 clear hb1 HBv1_1 bw hW2 hz2
 clear hs2 hqv2
 have cv1_0 := (k4c HBv1_2).1
 have fcv1_0 := hfz HBv1_2 0
 have cv1_1 := (k4c HBv1_2).2.1
 have fcv1_1 := hfz HBv1_2 1
 have cv1_2 := (k4c HBv1_2).2.2.1
 have fcv1_2 := hfz HBv1_2 2
 have cv1_3 := (k4c HBv1_2).2.2.2
 have fcv1_3 := hfz HBv1_2 3
 have cv2_0 := k1c HBv2_2
 go_wp2_with fail
 obtain ⟨w3, hW3⟩ := exq ((w2).setCell ⟨qv1, 0, none⟩ (.int .i64 2))
 rw [← hW3]
 have hb3 := hbS hW3 hb2 HGv1
 have HBv2_3 := hset hW3 HNv1v2.out.symm HBv2_2
 have HBv1_3 : Hid ((w3).heap[qv1]? = some (.cells #[.int .i64 2, .string ⟨#[]⟩, .string ⟨#[]⟩, .int .i64 0] 152)) := by show _ = _; rw [hW3]; have h := heap_set _ _ 0 _ _ _ (.int .i64 2) HBv1_2.out; simpa using h
 clear hb2 HBv1_2 HBv2_2 hW3
 obtain ⟨w4, hW4⟩ := exq ((w3).setCell ⟨qv1, 1, none⟩ (.string a))
 rw [← hW4]
 have hb4 := hbS hW4 hb3 HGv1
 have HBv2_4 := hset hW4 HNv1v2.out.symm HBv2_3
 have HBv1_4 : Hid ((w4).heap[qv1]? = some (.cells #[.int .i64 2, .string a, .string ⟨#[]⟩, .int .i64 0] 152)) := by show _ = _; rw [hW4]; have h := heap_set _ _ 1 _ _ _ (.string a) HBv1_3.out; simpa using h
 clear hb3 HBv1_3 HBv2_3 hW4
 obtain ⟨w5, hW5⟩ := exq ((w4).setCell ⟨qv1, 2, none⟩ (.string ⟨#[]⟩))
 rw [← hW5]
 have hb5 := hbS hW5 hb4 HGv1
 have HBv2_5 := hset hW5 HNv1v2.out.symm HBv2_4
 have HBv1_5 : Hid ((w5).heap[qv1]? = some (.cells #[.int .i64 2, .string a, .string ⟨#[]⟩, .int .i64 0] 152)) := by show _ = _; rw [hW5]; have h := heap_set _ _ 2 _ _ _ (.string ⟨#[]⟩) HBv1_4.out; simpa using h
 clear hb4 HBv1_4 HBv2_4 hW5
 obtain ⟨w6, hW6⟩ := exq ((w5).setCell ⟨qv1, 3, none⟩ (.int .i64 t))
 rw [← hW6]
 have hb6 := hbS hW6 hb5 HGv1
 have HBv2_6 := hset hW6 HNv1v2.out.symm HBv2_5
 have HBv1_6 : Hid ((w6).heap[qv1]? = some (.cells #[.int .i64 2, .string a, .string ⟨#[]⟩, .int .i64 t] 152)) := by show _ = _; rw [hW6]; have h := heap_set _ _ 3 _ _ _ (.int .i64 t) HBv1_5.out; simpa using h
 clear hb5 HBv1_5 HBv2_5 hW6
 have kv1_0 := (k4c HBv1_6).1
 have kv1_1 := (k4c HBv1_6).2.1
 have kv1_2 := (k4c HBv1_6).2.2.1
 have kv1_3 := (k4c HBv1_6).2.2.2
 refine bodyPost_ret (v := .agg #[.int .i64 2, .string a, .string ⟨#[]⟩, .int .i64 t]) (by simp [results, Tryz.results160, go_sem, kv1_0, kv1_1, kv1_2, kv1_3]) rfl ?_
 exact ⟨rfl, hb6⟩
theorem banOf_3 (a b : ByteArray) (t : Int) (w : World) :
  Calls Tryz.prog 160 #[.iface 260 (.agg #[.string a, .string b]), .int .i64 t] w fun e w' => e = .returned (.agg #[.int .i64 3, .string a, .string b, .int .i64 t]) ∧ Below w.heap.size w w' := by
 have hta1 : ∀ W : World, (Instr.typeAssert (.iface 260 (.agg #[.string a, .string b])) 222 256 true).run Tryz.prog W = .ok (.tuple #[.agg #[.string ⟨#[]⟩], .bool false]) W := fun _ => by kernel_rfl
 have hta2 : ∀ W : World, (Instr.typeAssert (.iface 260 (.agg #[.string a, .string b])) 222 258 true).run Tryz.prog W = .ok (.tuple #[.agg #[.string ⟨#[]⟩], .bool false]) W := fun _ => by kernel_rfl
 have hta3 : ∀ W : World, (Instr.typeAssert (.iface 260 (.agg #[.string a, .string b])) 222 260 true).run Tryz.prog W = .ok (.tuple #[.agg #[.string a, .string b], .bool true]) W := fun _ => by kernel_rfl
 have hb0 : Below w.heap.size w w := Below.refl _ _
 go_enter Tryz.func160, Tryz.ntmps160
 go_upto_region 1 with fail
 obtain ⟨qv1, hqv1⟩ := exq ((w).heap.size)
 obtain ⟨w1, hW1⟩ := exq ((w).alloc (.cells #[.int .i64 0, .string ⟨#[]⟩, .string ⟨#[]⟩, .int .i64 0] 152))
 have hz1 : (w).heap.size = qv1 := hqv1.symm
 first | rw [← hW1, ← hqv1] | rw [← hW1]
 have hs1 := hsa hW1 hz1
 have bw := bal hW1
 have hb1 := hbt hb0 bw
 have HBv1_1 := hnew hW1 hz1
 have HGv1 := hge hz1 hb0
 clear hb0 bw hW1 hz1
 clear hs1 hqv1
 go_upto_region 10 with fail
 obtain ⟨qv2, hqv2⟩ := exq ((w1).heap.size)
 obtain ⟨w2, hW2⟩ := exq ((w1).alloc (.cells #[.string a, .string b] 260))
 have hz2 : (w1).heap.size = qv2 := hqv2.symm
 first | rw [← hW2, ← hqv2] | rw [← hW2]
 have hs2 := hsa hW2 hz2
 have bw := bal hW2
 have hb2 := hbt hb1 bw
 have HBv1_2 := hblk HBv1_1 bw
 have HNv1v2 : Hid (qv1 ≠ qv2) := fun e => by have h1 := (Array.getElem?_eq_some_iff.1 HBv1_1.out).1; omega
 have HBv2_2 := hnew hW2 hz2
 clear hb1 HBv1_1 bw hW2 hz2
 clear hs2 hqv2
 have cv1_0 := (k4c HBv1_2).1
 have fcv1_0 := hfz HBv1_2 0
 have cv1_1 := (k4c HBv1_2).2.1
 have fcv1_1 := hfz HBv1_2 1
 have cv1_2 := (k4c HBv1_2).2.2.1
 have fcv1_2 := hfz HBv1_2 2
 have cv1_3 := (k4c HBv1_2).2.2.2
 have fcv1_3 := hfz HBv1_2 3
 have cv2_0 := (k2c HBv2_2).1
 have cv2_1 := (k2c HBv2_2).2
 go_wp2_with fail
 obtain ⟨w3, hW3⟩ := exq ((w2).setCell ⟨qv1, 0, none⟩ (.int .i64 3))
 rw [← hW3]
 have hb3 := hbS hW3 hb2 HGv1
 have HBv2_3 := hset hW3 HNv1v2.out.symm HBv2_2
 have HBv1_3 : Hid ((w3).heap[qv1]? = some (.cells #[.int .i64 3, .string ⟨#[]⟩, .string ⟨#[]⟩, .int .i64 0] 152)) := by show _ = _; rw [hW3]; have h := heap_set _ _ 0 _ _ _ (.int .i64 3) HBv1_2.out; simpa using h
 clear hb2 HBv1_2 HBv2_2 hW3
 obtain ⟨w4, hW4⟩ := exq ((w3).setCell ⟨qv1, 1, none⟩ (.string a))
 rw [← hW4]
 have hb4 := hbS hW4 hb3 HGv1
 have HBv2_4 := hset hW4 HNv1v2.out.symm HBv2_3
 have HBv1_4 : Hid ((w4).heap[qv1]? = some (.cells #[.int .i64 3, .string a, .string ⟨#[]⟩, .int .i64 0] 152)) := by show _ = _; rw [hW4]; have h := heap_set _ _ 1 _ _ _ (.string a) HBv1_3.out; simpa using h
 clear hb3 HBv1_3 HBv2_3 hW4
 obtain ⟨w5, hW5⟩ := exq ((w4).setCell ⟨qv1, 2, none⟩ (.string b))
 rw [← hW5]
 have hb5 := hbS hW5 hb4 HGv1
 have HBv2_5 := hset hW5 HNv1v2.out.symm HBv2_4
 have HBv1_5 : Hid ((w5).heap[qv1]? = some (.cells #[.int .i64 3, .string a, .string b, .int .i64 0] 152)) := by show _ = _; rw [hW5]; have h := heap_set _ _ 2 _ _ _ (.string b) HBv1_4.out; simpa using h
 clear hb4 HBv1_4 HBv2_4 hW5
 obtain ⟨w6, hW6⟩ := exq ((w5).setCell ⟨qv1, 3, none⟩ (.int .i64 t))
 rw [← hW6]
 have hb6 := hbS hW6 hb5 HGv1
 have HBv2_6 := hset hW6 HNv1v2.out.symm HBv2_5
 have HBv1_6 : Hid ((w6).heap[qv1]? = some (.cells #[.int .i64 3, .string a, .string b, .int .i64 t] 152)) := by show _ = _; rw [hW6]; have h := heap_set _ _ 3 _ _ _ (.int .i64 t) HBv1_5.out; simpa using h
 clear hb5 HBv1_5 HBv2_5 hW6
 have kv1_0 := (k4c HBv1_6).1
 have kv1_1 := (k4c HBv1_6).2.1
 have kv1_2 := (k4c HBv1_6).2.2.1
 have kv1_3 := (k4c HBv1_6).2.2.2
 refine bodyPost_ret (v := .agg #[.int .i64 3, .string a, .string b, .int .i64 t]) (by simp [results, Tryz.results160, go_sem, kv1_0, kv1_1, kv1_2, kv1_3]) rfl ?_
 exact ⟨rfl, hb6⟩
theorem right_1 (a : ByteArray) (w : World) (ha : a.size ≤ maxLen) :
  Calls Tryz.prog 247 #[.agg #[.string a]] w fun e w' => BoolIs (PathOk a) w e w' := by
 have HAM : Hid (a.size ≤ maxLen) := ha
 clear ha
 have hb0 : Below w.heap.size w w := Below.refl _ _
 go_enter Tryz.func247, Tryz.ntmps247
 go_upto_region 1 with fail
 obtain ⟨qv1, hqv1⟩ := exq ((w).heap.size)
 obtain ⟨w1, hW1⟩ := exq ((w).alloc (.cells #[.string a] 256))
 have hz1 : (w).heap.size = qv1 := hqv1.symm
 first | rw [← hW1, ← hqv1] | rw [← hW1]
 have hs1 := hsa hW1 hz1
 have bw := bal hW1
 have hb1 := hbt hb0 bw
 have HBv1_1 := hnew hW1 hz1
 clear hb0 bw hW1 hz1
 clear hs1 hqv1
 have cv1_0 := k1c HBv1_1
 go_wp2_with fail
 refine (pathOk_any a _ HAM.out).mono ?_
 rintro e w2 ⟨u, rfl, htu, bw⟩
 have hb2 := hbt hb1 bw
 have HBv1_2 := hblk HBv1_1 bw
 clear hb1 HBv1_1 bw
 clear cv1_0
 go_wp2_with fail
 go_ret
 exact ⟨u, rfl, htu, hb2⟩
theorem right_2 (a : ByteArray) (w : World) (ha : a.size ≤ maxLen) :
  Calls Tryz.prog 249 #[.agg #[.string a]] w fun e w' => BoolIs (PathOk a) w e w' := by
 have HAM : Hid (a.size ≤ maxLen) := ha
 clear ha
 have hb0 : Below w.heap.size w w := Below.refl _ _
 go_enter Tryz.func249, Tryz.ntmps249
 go_upto_region 1 with fail
 obtain ⟨qv1, hqv1⟩ := exq ((w).heap.size)
 obtain ⟨w1, hW1⟩ := exq ((w).alloc (.cells #[.string a] 258))
 have hz1 : (w).heap.size = qv1 := hqv1.symm
 first | rw [← hW1, ← hqv1] | rw [← hW1]
 have hs1 := hsa hW1 hz1
 have bw := bal hW1
 have hb1 := hbt hb0 bw
 have HBv1_1 := hnew hW1 hz1
 clear hb0 bw hW1 hz1
 clear hs1 hqv1
 have cv1_0 := k1c HBv1_1
 go_wp2_with fail
 refine (pathOk_any a _ HAM.out).mono ?_
 rintro e w2 ⟨u, rfl, htu, bw⟩
 have hb2 := hbt hb1 bw
 have HBv1_2 := hblk HBv1_1 bw
 clear hb1 HBv1_1 bw
 clear cv1_0
 go_wp2_with fail
 go_ret
 exact ⟨u, rfl, htu, hb2⟩
theorem right_3 (a b : ByteArray) (w : World) (ha : a.size ≤ maxLen) (hb : b.size ≤ maxLen) :
  Calls Tryz.prog 252 #[.agg #[.string a, .string b]] w fun e w' => BoolIs (TokOk a ∧ ValOk b) w e w' := by
 have HAM : Hid (a.size ≤ maxLen) := ha
 have HBM : Hid (b.size ≤ maxLen) := hb
 clear ha hb
 have hb0 : Below w.heap.size w w := Below.refl _ _
 go_enter Tryz.func252, Tryz.ntmps252
 go_upto_region 1 with fail
 obtain ⟨qv1, hqv1⟩ := exq ((w).heap.size)
 obtain ⟨w1, hW1⟩ := exq ((w).alloc (.cells #[.string a, .string b] 260))
 have hz1 : (w).heap.size = qv1 := hqv1.symm
 first | rw [← hW1, ← hqv1] | rw [← hW1]
 have hs1 := hsa hW1 hz1
 have bw := bal hW1
 have hb1 := hbt hb0 bw
 have HBv1_1 := hnew hW1 hz1
 clear hb0 bw hW1 hz1
 clear hs1 hqv1
 have cv1_0 := (k2c HBv1_1).1
 go_wp2_with fail
 refine (implTokenOk_any a _ HAM.out).mono ?_
 rintro e w2 ⟨u, rfl, htu, bw⟩
 have hb2 := hbt hb1 bw
 have HBv1_2 := hblk HBv1_1 bw
 clear hb1 HBv1_1 bw
 clear cv1_0
 cases u with
 | false =>
  have HU : Hid (¬ TokOk a) := fun h => nomatch htu.2 h
  clear htu
  go_wp2_with fail
  go_ret
  exact ⟨false, rfl, ⟨fun h => (by cases h), fun h => absurd h.1 HU.out⟩, hb2⟩
 | true =>
  have HU : Hid (TokOk a) := htu.1 rfl
  clear htu
  have cv1_1 := (k2c HBv1_2).2
  go_wp2_with fail
  refine (implValueOk_any b _ HBM.out).mono ?_
  rintro e w3 ⟨v, rfl, htv, bw⟩
  have hb3 := hbt hb2 bw
  have HBv1_3 := hblk HBv1_2 bw
  clear hb2 HBv1_2 bw
  clear cv1_1
  go_wp2_with fail
  go_ret
  exact ⟨v, rfl, ⟨fun h => ⟨HU.out, htv.1 h⟩, fun h => htv.2 h.2⟩, hb3⟩
end Go.Proofs.YtbmhonfgffjpcaaGreat
namespace Go.Proofs.YtbmhonfgffjpcaaGreat
open Go.RowKit
open Go.Lib hiding intOf
theorem guardBan : Tryz.prog.eqGuardType Tryz.prog.depth 152 = false := by kernel_rfl
open Classical in
theorem eqBanIn (k k' : Int) (a a' b b' : ByteArray) (t t' : Int) (w : World) : (Op.equalIn 10000 152 (.agg #[.int .i64 k, .string a, .string b, .int .i64 t]) (.agg #[.int .i64 k', .string a', .string b', .int .i64 t'])).run Tryz.prog w = .ok (decide (k = k' ∧ a = a' ∧ b = b' ∧ t = t')) w := by
 have u3 := Tryz.underlying3
 have a3 := Tryz.isAgg3
 have z3 := Tryz.sizeOf3
 have u9 := Tryz.underlying9
 have a9 := Tryz.isAgg9
 have z9 := Tryz.sizeOf9
 have hS : Tryz.prog.underlying 152 = some (.struct (Tryz.prog.fieldsOf 152)) := by kernel_rfl
 have hp : Tryz.prog.stoodInHeld 152 = false := by kernel_rfl
 rw [show (10000 : Nat) = 9999 + 1 from rfl, run_equalIn_agg w 9999 152 _ _ hS hp]
 simp only [Program.fieldsOf, Tryz.underlying152]
 have ea : ∀ x y : ByteArray, (x.toList == y.toList) = decide (x = y) := fun x y => by
  by_cases h : x = y
  · rw [decide_eq_true h]; exact (text_beq _ _).2 h
  · rw [decide_eq_false h]; exact text_beq_no h
 go_simp
 by_cases h1 : k = k'
 ·
  by_cases h2 : a = a'
  ·
   by_cases h3 : b = b'
   ·
    by_cases h4 : t = t'
    · simp [h1, h2, h3, h4]
    · simp [h1, h2, h3, h4]
   · simp [h1, h2, h3]
  · simp [h1, h2]
 · simp [h1]
open Classical in
theorem eqlBan (k k' : Int) (a a' b b' : ByteArray) (t t' : Int) (w : World) : (binOp .eql 152 (.agg #[.int .i64 k, .string a, .string b, .int .i64 t]) (.agg #[.int .i64 k', .string a', .string b', .int .i64 t'])).run Tryz.prog w = .ok (.bool (decide (k = k' ∧ a = a' ∧ b = b' ∧ t = t'))) w := by
 rw [run_eql_struct, eqBanIn]
 rfl
theorem implBanOk_1e (a : ByteArray) (t : Int) (w : World) (ha : a.size ≤ maxLen) :
  Calls Tryz.prog 135 #[.agg #[.int .i64 1, .string a, .string ⟨#[]⟩, .int .i64 t]] w fun e w' => BoolIs (BanP 1 a ⟨#[]⟩ t) w e w' := by
 classical
 have HAM : Hid (a.size ≤ maxLen) := ha
 have hnn : ∀ W : World, (binOp .neq 222 (.iface 256 (.agg #[.string a])) .nilIface).run Tryz.prog W = .ok (.bool true) W := fun _ => by kernel_rfl
 have hna : ∀ W : World, (nilAhead 157 256 (.agg #[.string a]) "loop.example/g00239/impl.right").run Tryz.prog W = .ok (some false) W := fun _ => by kernel_rfl
 have hmt : ∀ W : World, (method 157 256 (.agg #[.string a]) "loop.example/g00239/impl.right").run Tryz.prog W = .ok (247, .agg #[.string a]) W := fun _ => by kernel_rfl
 have hgb := guardBan
 have hqe : ∀ W : World, (binOp .eql 152 (.agg #[.int .i64 1, .string a, .string ⟨#[]⟩, .int .i64 t]) (.agg #[.int .i64 1, .string a, .string ⟨#[]⟩, .int .i64 t])).run Tryz.prog W = .ok (.bool true) W := fun W => by
  rw [eqlBan]
  first | (simp; done) | (have z := HB0.out; simp; exact fun e => z e.symm)
 clear ha
 have hb0 : Below w.heap.size w w := Below.refl _ _
 go_enter Tryz.func135, Tryz.ntmps135
 go_upto_region 1 with fail
 obtain ⟨qv1, hqv1⟩ := exq ((w).heap.size)
 obtain ⟨w1, hW1⟩ := exq ((w).alloc (.cells #[.int .i64 1, .string a, .string ⟨#[]⟩, .int .i64 t] 152))
 have hz1 : (w).heap.size = qv1 := hqv1.symm
 first | rw [← hW1, ← hqv1] | rw [← hW1]
 have hs1 := hsa hW1 hz1
 have bw := bal hW1
 have hb1 := hbt hb0 bw
 have HBv1_1 := hnew hW1 hz1
 clear hb0 bw hW1 hz1
 clear hs1 hqv1
 have cv1_0 := (k4c HBv1_1).1
 have cv1_1 := (k4c HBv1_1).2.1
 have cv1_2 := (k4c HBv1_1).2.2.1
 have cv1_3 := (k4c HBv1_1).2.2.2
 go_wp2_with fail
 refine (ruleOf_1 a ⟨#[]⟩ t _).mono ?_
 rintro e w2 ⟨rfl, bw⟩
 have hb2 := hbt hb1 bw
 have HBv1_2 := hblk HBv1_1 bw
 clear hb1 HBv1_1 bw
 clear cv1_0 cv1_1 cv1_2 cv1_3
 go_upto_region 2 with fail
 refine wp_region_held_drew (S := fun W => W.heap[qv1]? = some (.cells #[.int .i64 1, .string a, .string ⟨#[]⟩, .int .i64 t] 152)) (by kernel_rfl) HBv1_2.out (fun _ => ?_)
 obtain ⟨w3, hX⟩ := exq w2.drew
 have bw := bdr hX
 rw [← hX]
 have hb3 := hbt hb2 bw
 have HBv1_3 := hblk HBv1_2 bw
 have hS3 := HBv1_3.out
 clear hb2 HBv1_2 bw hX
 refine tkP 0 (.iface 256 (.agg #[.string a])) 6 rfl rfl hS3 ?_
 go_frame
 refine tkP 1 (.bool true) 7 rfl rfl hS3 ?_
 go_frame
 refine tkP 2 (.bool true) 8 rfl rfl hS3 ?_
 go_frame
 refine tkP 3 (.iface 256 (.agg #[.string a])) 9 rfl rfl hS3 ?_
 go_frame
 refine rd1 4 rfl (fun K hK => ?_)
 go_simp
 refine (right_1 a _ HAM.out).mono ?_
 rintro e w4 ⟨ur, rfl, htur, bw⟩
 have hb4 := hbt hb3 bw
 have HBv1_4 := hblk HBv1_3 bw
 clear hb3 HBv1_3 bw
 have hS4 := HBv1_4.out
 refine hK.out _ _ hS4 (fun _ => ?_)
 clear hK K hS3
 refine tkP 5 (.bool ur) 11 rfl rfl hS4 ?_
 go_frame
 refine tkP 6 (.bool ur) 12 rfl rfl hS4 ?_
 go_frame
 cases ur with
 | false =>
  have Hur : Hid (¬ (PathOk a)) := fun h => nomatch htur.2 h
  clear htur
  refine tkN 7 13 rfl rfl hS4 ?_
  go_frame
  refine tkN 8 14 rfl rfl hS4 ?_
  go_frame
  refine tkN 9 15 rfl rfl hS4 ?_
  go_frame
  refine tkP 10 (.bool false) 16 rfl rfl hS4 ?_
  go_frame
  refine tkP 11 (.bool false) 17 rfl rfl hS4 ?_
  go_frame
  refine tkN 12 18 rfl rfl hS4 ?_
  go_frame
  refine tkN 13 19 rfl rfl hS4 ?_
  go_frame
  refine tkN 14 20 rfl rfl hS4 ?_
  go_frame
  refine tkN 15 21 rfl rfl hS4 ?_
  go_frame
  refine tkN 16 22 rfl rfl hS4 ?_
  go_frame
  refine tkN 17 23 rfl rfl hS4 ?_
  go_frame
  refine tkP 18 (.bool false) 24 rfl rfl hS4 ?_
  go_frame
  refine tkP 19 (.bool false) 2 rfl rfl hS4 ?_
  go_frame
  clear hS4
  refine wpAnyH_done (by kernel_rfl) ?_ _
  go_wp2_with fail
  go_ret
  refine ⟨false, rfl, ?_, hb4⟩
  have zHur := Hur.out
  unfold BanP
  simp_all
 | true =>
  have Hur : Hid (PathOk a) := htur.1 rfl
  clear htur
  refine tkP 7 (.pointer (some ⟨qv1, 3, none⟩)) 13 rfl rfl hS4 ?_
  go_frame
  refine tkL 8 (.int .i64 t) 14 rfl rfl (Or.inl ⟨by rfl, by intro W hW; have hhv1 := hW; have y3 := (cell_of hhv1 3).trans rfl; go_simp⟩) hS4 ?_
  go_frame
  refine rd1 9 rfl (fun K hK => ?_)
  go_simp
  refine (timeOk_any t _).mono ?_
  rintro e w5 ⟨rfl, hwe⟩
  have bw : Below (w4).heap.size (w4) w5 := by rw [hwe]; exact Below.refl _ _
  clear hwe
  obtain ⟨ut, hut⟩ : ∃ u, u = decide ((0 : Int) ≤ t ∧ t ≤ 1000000) := ⟨_, rfl⟩
  rw [← hut]
  have hb5 := hbt hb4 bw
  have HBv1_5 := hblk HBv1_4 bw
  clear hb4 HBv1_4 bw
  have hS5 := HBv1_5.out
  refine hK.out _ _ hS5 (fun _ => ?_)
  clear hK K hS4
  refine tkP 10 (.bool ut) 16 rfl rfl hS5 ?_
  go_frame
  refine tkP 11 (.bool ut) 17 rfl rfl hS5 ?_
  go_frame
  cases ut with
  | false =>
   have Hut : Hid (¬ (0 ≤ t ∧ t ≤ 1000000)) := (show ¬ (0 ≤ t ∧ t ≤ 1000000) from of_decide_eq_false hut.symm)
   clear hut
   refine tkN 12 18 rfl rfl hS5 ?_
   go_frame
   refine tkN 13 19 rfl rfl hS5 ?_
   go_frame
   refine tkN 14 20 rfl rfl hS5 ?_
   go_frame
   refine tkN 15 21 rfl rfl hS5 ?_
   go_frame
   refine tkN 16 22 rfl rfl hS5 ?_
   go_frame
   refine tkN 17 23 rfl rfl hS5 ?_
   go_frame
   refine tkP 18 (.bool false) 24 rfl rfl hS5 ?_
   go_frame
   refine tkP 19 (.bool false) 2 rfl rfl hS5 ?_
   go_frame
   clear hS5
   refine wpAnyH_done (by kernel_rfl) ?_ _
   go_wp2_with fail
   go_ret
   refine ⟨false, rfl, ?_, hb5⟩
   have zHur := Hur.out
   have zHut := Hut.out
   unfold BanP
   simp_all
  | true =>
   have Hut : Hid (0 ≤ t ∧ t ≤ 1000000) := (show 0 ≤ t ∧ t ≤ 1000000 from of_decide_eq_true hut.symm)
   clear hut
   refine tkP 12 (.iface 256 (.agg #[.string a])) 18 rfl rfl hS5 ?_
   go_frame
   refine tkP 13 (.pointer (some ⟨qv1, 3, none⟩)) 19 rfl rfl hS5 ?_
   go_frame
   refine tkL 14 (.int .i64 t) 20 rfl rfl (Or.inl ⟨by rfl, by intro W hW; have hhv1 := hW; have y3 := (cell_of hhv1 3).trans rfl; go_simp⟩) hS5 ?_
   go_frame
   refine tkL 16 (.agg #[.int .i64 1, .string a, .string ⟨#[]⟩, .int .i64 t]) 22 rfl rfl (Or.inl ⟨by rfl, by intro W hW; have hhv1 := hW; have y0 := (cell_of hhv1 0).trans rfl; have y1 := (cell_of hhv1 1).trans rfl; have y2 := (cell_of hhv1 2).trans rfl; have y3 := (cell_of hhv1 3).trans rfl; go_simp⟩) hS5 ?_
   go_frame
   refine rd1 15 rfl (fun K hK => ?_)
   go_simp
   refine (banOf_1 a t _).mono ?_
   rintro e w6 ⟨rfl, bw⟩
   have hb6 := hbt hb5 bw
   have HBv1_6 := hblk HBv1_5 bw
   clear hb5 HBv1_5 bw
   have hS6 := HBv1_6.out
   refine hK.out _ _ hS6 (fun _ => ?_)
   clear hK K hS5
   refine tkP 17 (.bool true) 23 rfl rfl hS6 ?_
   go_frame
   refine tkP 18 (.bool true) 24 rfl rfl hS6 ?_
   go_frame
   refine tkP 19 (.bool true) 2 rfl rfl hS6 ?_
   go_frame
   clear hS6
   refine wpAnyH_done (by kernel_rfl) ?_ _
   go_wp2_with fail
   go_ret
   refine ⟨true, rfl, ?_, hb6⟩
   have zHur := Hur.out
   have zHut := Hut.out
   unfold BanP
   simp_all
theorem implBanOk_1n (a b : ByteArray) (t : Int) (w : World) (ha : a.size ≤ maxLen) (hb0 : ¬ b = ⟨#[]⟩) :
  Calls Tryz.prog 135 #[.agg #[.int .i64 1, .string a, .string b, .int .i64 t]] w fun e w' => BoolIs (BanP 1 a b t) w e w' := by
 classical
 have HAM : Hid (a.size ≤ maxLen) := ha
 have HB0 : Hid (¬ b = ⟨#[]⟩) := hb0
 have hnn : ∀ W : World, (binOp .neq 222 (.iface 256 (.agg #[.string a])) .nilIface).run Tryz.prog W = .ok (.bool true) W := fun _ => by kernel_rfl
 have hna : ∀ W : World, (nilAhead 157 256 (.agg #[.string a]) "loop.example/g00239/impl.right").run Tryz.prog W = .ok (some false) W := fun _ => by kernel_rfl
 have hmt : ∀ W : World, (method 157 256 (.agg #[.string a]) "loop.example/g00239/impl.right").run Tryz.prog W = .ok (247, .agg #[.string a]) W := fun _ => by kernel_rfl
 have hgb := guardBan
 have hqe : ∀ W : World, (binOp .eql 152 (.agg #[.int .i64 1, .string a, .string ⟨#[]⟩, .int .i64 t]) (.agg #[.int .i64 1, .string a, .string b, .int .i64 t])).run Tryz.prog W = .ok (.bool false) W := fun W => by
  rw [eqlBan]
  first | (simp; done) | (have z := HB0.out; simp; exact fun e => z e.symm)
 clear ha hb0
 have hb0 : Below w.heap.size w w := Below.refl _ _
 go_enter Tryz.func135, Tryz.ntmps135
 go_upto_region 1 with fail
 obtain ⟨qv1, hqv1⟩ := exq ((w).heap.size)
 obtain ⟨w1, hW1⟩ := exq ((w).alloc (.cells #[.int .i64 1, .string a, .string b, .int .i64 t] 152))
 have hz1 : (w).heap.size = qv1 := hqv1.symm
 first | rw [← hW1, ← hqv1] | rw [← hW1]
 have hs1 := hsa hW1 hz1
 have bw := bal hW1
 have hb1 := hbt hb0 bw
 have HBv1_1 := hnew hW1 hz1
 clear hb0 bw hW1 hz1
 clear hs1 hqv1
 have cv1_0 := (k4c HBv1_1).1
 have cv1_1 := (k4c HBv1_1).2.1
 have cv1_2 := (k4c HBv1_1).2.2.1
 have cv1_3 := (k4c HBv1_1).2.2.2
 go_wp2_with fail
 refine (ruleOf_1 a b t _).mono ?_
 rintro e w2 ⟨rfl, bw⟩
 have hb2 := hbt hb1 bw
 have HBv1_2 := hblk HBv1_1 bw
 clear hb1 HBv1_1 bw
 clear cv1_0 cv1_1 cv1_2 cv1_3
 go_upto_region 2 with fail
 refine wp_region_held_drew (S := fun W => W.heap[qv1]? = some (.cells #[.int .i64 1, .string a, .string b, .int .i64 t] 152)) (by kernel_rfl) HBv1_2.out (fun _ => ?_)
 obtain ⟨w3, hX⟩ := exq w2.drew
 have bw := bdr hX
 rw [← hX]
 have hb3 := hbt hb2 bw
 have HBv1_3 := hblk HBv1_2 bw
 have hS3 := HBv1_3.out
 clear hb2 HBv1_2 bw hX
 refine tkP 0 (.iface 256 (.agg #[.string a])) 6 rfl rfl hS3 ?_
 go_frame
 refine tkP 1 (.bool true) 7 rfl rfl hS3 ?_
 go_frame
 refine tkP 2 (.bool true) 8 rfl rfl hS3 ?_
 go_frame
 refine tkP 3 (.iface 256 (.agg #[.string a])) 9 rfl rfl hS3 ?_
 go_frame
 refine rd1 4 rfl (fun K hK => ?_)
 go_simp
 refine (right_1 a _ HAM.out).mono ?_
 rintro e w4 ⟨ur, rfl, htur, bw⟩
 have hb4 := hbt hb3 bw
 have HBv1_4 := hblk HBv1_3 bw
 clear hb3 HBv1_3 bw
 have hS4 := HBv1_4.out
 refine hK.out _ _ hS4 (fun _ => ?_)
 clear hK K hS3
 refine tkP 5 (.bool ur) 11 rfl rfl hS4 ?_
 go_frame
 refine tkP 6 (.bool ur) 12 rfl rfl hS4 ?_
 go_frame
 cases ur with
 | false =>
  have Hur : Hid (¬ (PathOk a)) := fun h => nomatch htur.2 h
  clear htur
  refine tkN 7 13 rfl rfl hS4 ?_
  go_frame
  refine tkN 8 14 rfl rfl hS4 ?_
  go_frame
  refine tkN 9 15 rfl rfl hS4 ?_
  go_frame
  refine tkP 10 (.bool false) 16 rfl rfl hS4 ?_
  go_frame
  refine tkP 11 (.bool false) 17 rfl rfl hS4 ?_
  go_frame
  refine tkN 12 18 rfl rfl hS4 ?_
  go_frame
  refine tkN 13 19 rfl rfl hS4 ?_
  go_frame
  refine tkN 14 20 rfl rfl hS4 ?_
  go_frame
  refine tkN 15 21 rfl rfl hS4 ?_
  go_frame
  refine tkN 16 22 rfl rfl hS4 ?_
  go_frame
  refine tkN 17 23 rfl rfl hS4 ?_
  go_frame
  refine tkP 18 (.bool false) 24 rfl rfl hS4 ?_
  go_frame
  refine tkP 19 (.bool false) 2 rfl rfl hS4 ?_
  go_frame
  clear hS4
  refine wpAnyH_done (by kernel_rfl) ?_ _
  go_wp2_with fail
  go_ret
  refine ⟨false, rfl, ?_, hb4⟩
  have zHur := Hur.out
  have zHB := HB0.out
  unfold BanP
  simp_all
 | true =>
  have Hur : Hid (PathOk a) := htur.1 rfl
  clear htur
  refine tkP 7 (.pointer (some ⟨qv1, 3, none⟩)) 13 rfl rfl hS4 ?_
  go_frame
  refine tkL 8 (.int .i64 t) 14 rfl rfl (Or.inl ⟨by rfl, by intro W hW; have hhv1 := hW; have y3 := (cell_of hhv1 3).trans rfl; go_simp⟩) hS4 ?_
  go_frame
  refine rd1 9 rfl (fun K hK => ?_)
  go_simp
  refine (timeOk_any t _).mono ?_
  rintro e w5 ⟨rfl, hwe⟩
  have bw : Below (w4).heap.size (w4) w5 := by rw [hwe]; exact Below.refl _ _
  clear hwe
  obtain ⟨ut, hut⟩ : ∃ u, u = decide ((0 : Int) ≤ t ∧ t ≤ 1000000) := ⟨_, rfl⟩
  rw [← hut]
  have hb5 := hbt hb4 bw
  have HBv1_5 := hblk HBv1_4 bw
  clear hb4 HBv1_4 bw
  have hS5 := HBv1_5.out
  refine hK.out _ _ hS5 (fun _ => ?_)
  clear hK K hS4
  refine tkP 10 (.bool ut) 16 rfl rfl hS5 ?_
  go_frame
  refine tkP 11 (.bool ut) 17 rfl rfl hS5 ?_
  go_frame
  cases ut with
  | false =>
   have Hut : Hid (¬ (0 ≤ t ∧ t ≤ 1000000)) := (show ¬ (0 ≤ t ∧ t ≤ 1000000) from of_decide_eq_false hut.symm)
   clear hut
   refine tkN 12 18 rfl rfl hS5 ?_
   go_frame
   refine tkN 13 19 rfl rfl hS5 ?_
   go_frame
   refine tkN 14 20 rfl rfl hS5 ?_
   go_frame
   refine tkN 15 21 rfl rfl hS5 ?_
   go_frame
   refine tkN 16 22 rfl rfl hS5 ?_
   go_frame
   refine tkN 17 23 rfl rfl hS5 ?_
   go_frame
   refine tkP 18 (.bool false) 24 rfl rfl hS5 ?_
   go_frame
   refine tkP 19 (.bool false) 2 rfl rfl hS5 ?_
   go_frame
   clear hS5
   refine wpAnyH_done (by kernel_rfl) ?_ _
   go_wp2_with fail
   go_ret
   refine ⟨false, rfl, ?_, hb5⟩
   have zHur := Hur.out
   have zHut := Hut.out
   have zHB := HB0.out
   unfold BanP
   simp_all
  | true =>
   have Hut : Hid (0 ≤ t ∧ t ≤ 1000000) := (show 0 ≤ t ∧ t ≤ 1000000 from of_decide_eq_true hut.symm)
   clear hut
   refine tkP 12 (.iface 256 (.agg #[.string a])) 18 rfl rfl hS5 ?_
   go_frame
   refine tkP 13 (.pointer (some ⟨qv1, 3, none⟩)) 19 rfl rfl hS5 ?_
   go_frame
   refine tkL 14 (.int .i64 t) 20 rfl rfl (Or.inl ⟨by rfl, by intro W hW; have hhv1 := hW; have y3 := (cell_of hhv1 3).trans rfl; go_simp⟩) hS5 ?_
   go_frame
   refine tkL 16 (.agg #[.int .i64 1, .string a, .string b, .int .i64 t]) 22 rfl rfl (Or.inl ⟨by rfl, by intro W hW; have hhv1 := hW; have y0 := (cell_of hhv1 0).trans rfl; have y1 := (cell_of hhv1 1).trans rfl; have y2 := (cell_of hhv1 2).trans rfl; have y3 := (cell_of hhv1 3).trans rfl; go_simp⟩) hS5 ?_
   go_frame
   refine rd1 15 rfl (fun K hK => ?_)
   go_simp
   refine (banOf_1 a t _).mono ?_
   rintro e w6 ⟨rfl, bw⟩
   have hb6 := hbt hb5 bw
   have HBv1_6 := hblk HBv1_5 bw
   clear hb5 HBv1_5 bw
   have hS6 := HBv1_6.out
   refine hK.out _ _ hS6 (fun _ => ?_)
   clear hK K hS5
   refine tkP 17 (.bool false) 23 rfl rfl hS6 ?_
   go_frame
   refine tkP 18 (.bool false) 24 rfl rfl hS6 ?_
   go_frame
   refine tkP 19 (.bool false) 2 rfl rfl hS6 ?_
   go_frame
   clear hS6
   refine wpAnyH_done (by kernel_rfl) ?_ _
   go_wp2_with fail
   go_ret
   refine ⟨false, rfl, ?_, hb6⟩
   have zHur := Hur.out
   have zHut := Hut.out
   have zHB := HB0.out
   unfold BanP
   simp_all
theorem implBanOk_2e (a : ByteArray) (t : Int) (w : World) (ha : a.size ≤ maxLen) :
  Calls Tryz.prog 135 #[.agg #[.int .i64 2, .string a, .string ⟨#[]⟩, .int .i64 t]] w fun e w' => BoolIs (BanP 2 a ⟨#[]⟩ t) w e w' := by
 classical
 have HAM : Hid (a.size ≤ maxLen) := ha
 have hnn : ∀ W : World, (binOp .neq 222 (.iface 258 (.agg #[.string a])) .nilIface).run Tryz.prog W = .ok (.bool true) W := fun _ => by kernel_rfl
 have hna : ∀ W : World, (nilAhead 157 258 (.agg #[.string a]) "loop.example/g00239/impl.right").run Tryz.prog W = .ok (some false) W := fun _ => by kernel_rfl
 have hmt : ∀ W : World, (method 157 258 (.agg #[.string a]) "loop.example/g00239/impl.right").run Tryz.prog W = .ok (249, .agg #[.string a]) W := fun _ => by kernel_rfl
 have hgb := guardBan
 have hqe : ∀ W : World, (binOp .eql 152 (.agg #[.int .i64 2, .string a, .string ⟨#[]⟩, .int .i64 t]) (.agg #[.int .i64 2, .string a, .string ⟨#[]⟩, .int .i64 t])).run Tryz.prog W = .ok (.bool true) W := fun W => by
  rw [eqlBan]
  first | (simp; done) | (have z := HB0.out; simp; exact fun e => z e.symm)
 clear ha
 have hb0 : Below w.heap.size w w := Below.refl _ _
 go_enter Tryz.func135, Tryz.ntmps135
 go_upto_region 1 with fail
 obtain ⟨qv1, hqv1⟩ := exq ((w).heap.size)
 obtain ⟨w1, hW1⟩ := exq ((w).alloc (.cells #[.int .i64 2, .string a, .string ⟨#[]⟩, .int .i64 t] 152))
 have hz1 : (w).heap.size = qv1 := hqv1.symm
 first | rw [← hW1, ← hqv1] | rw [← hW1]
 have hs1 := hsa hW1 hz1
 have bw := bal hW1
 have hb1 := hbt hb0 bw
 have HBv1_1 := hnew hW1 hz1
 clear hb0 bw hW1 hz1
 clear hs1 hqv1
 have cv1_0 := (k4c HBv1_1).1
 have cv1_1 := (k4c HBv1_1).2.1
 have cv1_2 := (k4c HBv1_1).2.2.1
 have cv1_3 := (k4c HBv1_1).2.2.2
 go_wp2_with fail
 refine (ruleOf_2 a ⟨#[]⟩ t _).mono ?_
 rintro e w2 ⟨rfl, bw⟩
 have hb2 := hbt hb1 bw
 have HBv1_2 := hblk HBv1_1 bw
 clear hb1 HBv1_1 bw
 clear cv1_0 cv1_1 cv1_2 cv1_3
 go_upto_region 2 with fail
 refine wp_region_held_drew (S := fun W => W.heap[qv1]? = some (.cells #[.int .i64 2, .string a, .string ⟨#[]⟩, .int .i64 t] 152)) (by kernel_rfl) HBv1_2.out (fun _ => ?_)
 obtain ⟨w3, hX⟩ := exq w2.drew
 have bw := bdr hX
 rw [← hX]
 have hb3 := hbt hb2 bw
 have HBv1_3 := hblk HBv1_2 bw
 have hS3 := HBv1_3.out
 clear hb2 HBv1_2 bw hX
 refine tkP 0 (.iface 258 (.agg #[.string a])) 6 rfl rfl hS3 ?_
 go_frame
 refine tkP 1 (.bool true) 7 rfl rfl hS3 ?_
 go_frame
 refine tkP 2 (.bool true) 8 rfl rfl hS3 ?_
 go_frame
 refine tkP 3 (.iface 258 (.agg #[.string a])) 9 rfl rfl hS3 ?_
 go_frame
 refine rd1 4 rfl (fun K hK => ?_)
 go_simp
 refine (right_2 a _ HAM.out).mono ?_
 rintro e w4 ⟨ur, rfl, htur, bw⟩
 have hb4 := hbt hb3 bw
 have HBv1_4 := hblk HBv1_3 bw
 clear hb3 HBv1_3 bw
 have hS4 := HBv1_4.out
 refine hK.out _ _ hS4 (fun _ => ?_)
 clear hK K hS3
 refine tkP 5 (.bool ur) 11 rfl rfl hS4 ?_
 go_frame
 refine tkP 6 (.bool ur) 12 rfl rfl hS4 ?_
 go_frame
 cases ur with
 | false =>
  have Hur : Hid (¬ (PathOk a)) := fun h => nomatch htur.2 h
  clear htur
  refine tkN 7 13 rfl rfl hS4 ?_
  go_frame
  refine tkN 8 14 rfl rfl hS4 ?_
  go_frame
  refine tkN 9 15 rfl rfl hS4 ?_
  go_frame
  refine tkP 10 (.bool false) 16 rfl rfl hS4 ?_
  go_frame
  refine tkP 11 (.bool false) 17 rfl rfl hS4 ?_
  go_frame
  refine tkN 12 18 rfl rfl hS4 ?_
  go_frame
  refine tkN 13 19 rfl rfl hS4 ?_
  go_frame
  refine tkN 14 20 rfl rfl hS4 ?_
  go_frame
  refine tkN 15 21 rfl rfl hS4 ?_
  go_frame
  refine tkN 16 22 rfl rfl hS4 ?_
  go_frame
  refine tkN 17 23 rfl rfl hS4 ?_
  go_frame
  refine tkP 18 (.bool false) 24 rfl rfl hS4 ?_
  go_frame
  refine tkP 19 (.bool false) 2 rfl rfl hS4 ?_
  go_frame
  clear hS4
  refine wpAnyH_done (by kernel_rfl) ?_ _
  go_wp2_with fail
  go_ret
  refine ⟨false, rfl, ?_, hb4⟩
  have zHur := Hur.out
  unfold BanP
  simp_all
 | true =>
  have Hur : Hid (PathOk a) := htur.1 rfl
  clear htur
  refine tkP 7 (.pointer (some ⟨qv1, 3, none⟩)) 13 rfl rfl hS4 ?_
  go_frame
  refine tkL 8 (.int .i64 t) 14 rfl rfl (Or.inl ⟨by rfl, by intro W hW; have hhv1 := hW; have y3 := (cell_of hhv1 3).trans rfl; go_simp⟩) hS4 ?_
  go_frame
  refine rd1 9 rfl (fun K hK => ?_)
  go_simp
  refine (timeOk_any t _).mono ?_
  rintro e w5 ⟨rfl, hwe⟩
  have bw : Below (w4).heap.size (w4) w5 := by rw [hwe]; exact Below.refl _ _
  clear hwe
  obtain ⟨ut, hut⟩ : ∃ u, u = decide ((0 : Int) ≤ t ∧ t ≤ 1000000) := ⟨_, rfl⟩
  rw [← hut]
  have hb5 := hbt hb4 bw
  have HBv1_5 := hblk HBv1_4 bw
  clear hb4 HBv1_4 bw
  have hS5 := HBv1_5.out
  refine hK.out _ _ hS5 (fun _ => ?_)
  clear hK K hS4
  refine tkP 10 (.bool ut) 16 rfl rfl hS5 ?_
  go_frame
  refine tkP 11 (.bool ut) 17 rfl rfl hS5 ?_
  go_frame
  cases ut with
  | false =>
   have Hut : Hid (¬ (0 ≤ t ∧ t ≤ 1000000)) := (show ¬ (0 ≤ t ∧ t ≤ 1000000) from of_decide_eq_false hut.symm)
   clear hut
   refine tkN 12 18 rfl rfl hS5 ?_
   go_frame
   refine tkN 13 19 rfl rfl hS5 ?_
   go_frame
   refine tkN 14 20 rfl rfl hS5 ?_
   go_frame
   refine tkN 15 21 rfl rfl hS5 ?_
   go_frame
   refine tkN 16 22 rfl rfl hS5 ?_
   go_frame
   refine tkN 17 23 rfl rfl hS5 ?_
   go_frame
   refine tkP 18 (.bool false) 24 rfl rfl hS5 ?_
   go_frame
   refine tkP 19 (.bool false) 2 rfl rfl hS5 ?_
   go_frame
   clear hS5
   refine wpAnyH_done (by kernel_rfl) ?_ _
   go_wp2_with fail
   go_ret
   refine ⟨false, rfl, ?_, hb5⟩
   have zHur := Hur.out
   have zHut := Hut.out
   unfold BanP
   simp_all
  | true =>
   have Hut : Hid (0 ≤ t ∧ t ≤ 1000000) := (show 0 ≤ t ∧ t ≤ 1000000 from of_decide_eq_true hut.symm)
   clear hut
   refine tkP 12 (.iface 258 (.agg #[.string a])) 18 rfl rfl hS5 ?_
   go_frame
   refine tkP 13 (.pointer (some ⟨qv1, 3, none⟩)) 19 rfl rfl hS5 ?_
   go_frame
   refine tkL 14 (.int .i64 t) 20 rfl rfl (Or.inl ⟨by rfl, by intro W hW; have hhv1 := hW; have y3 := (cell_of hhv1 3).trans rfl; go_simp⟩) hS5 ?_
   go_frame
   refine tkL 16 (.agg #[.int .i64 2, .string a, .string ⟨#[]⟩, .int .i64 t]) 22 rfl rfl (Or.inl ⟨by rfl, by intro W hW; have hhv1 := hW; have y0 := (cell_of hhv1 0).trans rfl; have y1 := (cell_of hhv1 1).trans rfl; have y2 := (cell_of hhv1 2).trans rfl; have y3 := (cell_of hhv1 3).trans rfl; go_simp⟩) hS5 ?_
   go_frame
   refine rd1 15 rfl (fun K hK => ?_)
   go_simp
   refine (banOf_2 a t _).mono ?_
   rintro e w6 ⟨rfl, bw⟩
   have hb6 := hbt hb5 bw
   have HBv1_6 := hblk HBv1_5 bw
   clear hb5 HBv1_5 bw
   have hS6 := HBv1_6.out
   refine hK.out _ _ hS6 (fun _ => ?_)
   clear hK K hS5
   refine tkP 17 (.bool true) 23 rfl rfl hS6 ?_
   go_frame
   refine tkP 18 (.bool true) 24 rfl rfl hS6 ?_
   go_frame
   refine tkP 19 (.bool true) 2 rfl rfl hS6 ?_
   go_frame
   clear hS6
   refine wpAnyH_done (by kernel_rfl) ?_ _
   go_wp2_with fail
   go_ret
   refine ⟨true, rfl, ?_, hb6⟩
   have zHur := Hur.out
   have zHut := Hut.out
   unfold BanP
   simp_all
theorem implBanOk_2n (a b : ByteArray) (t : Int) (w : World) (ha : a.size ≤ maxLen) (hb0 : ¬ b = ⟨#[]⟩) :
  Calls Tryz.prog 135 #[.agg #[.int .i64 2, .string a, .string b, .int .i64 t]] w fun e w' => BoolIs (BanP 2 a b t) w e w' := by
 classical
 have HAM : Hid (a.size ≤ maxLen) := ha
 have HB0 : Hid (¬ b = ⟨#[]⟩) := hb0
 have hnn : ∀ W : World, (binOp .neq 222 (.iface 258 (.agg #[.string a])) .nilIface).run Tryz.prog W = .ok (.bool true) W := fun _ => by kernel_rfl
 have hna : ∀ W : World, (nilAhead 157 258 (.agg #[.string a]) "loop.example/g00239/impl.right").run Tryz.prog W = .ok (some false) W := fun _ => by kernel_rfl
 have hmt : ∀ W : World, (method 157 258 (.agg #[.string a]) "loop.example/g00239/impl.right").run Tryz.prog W = .ok (249, .agg #[.string a]) W := fun _ => by kernel_rfl
 have hgb := guardBan
 have hqe : ∀ W : World, (binOp .eql 152 (.agg #[.int .i64 2, .string a, .string ⟨#[]⟩, .int .i64 t]) (.agg #[.int .i64 2, .string a, .string b, .int .i64 t])).run Tryz.prog W = .ok (.bool false) W := fun W => by
  rw [eqlBan]
  first | (simp; done) | (have z := HB0.out; simp; exact fun e => z e.symm)
 clear ha hb0
 have hb0 : Below w.heap.size w w := Below.refl _ _
 go_enter Tryz.func135, Tryz.ntmps135
 go_upto_region 1 with fail
 obtain ⟨qv1, hqv1⟩ := exq ((w).heap.size)
 obtain ⟨w1, hW1⟩ := exq ((w).alloc (.cells #[.int .i64 2, .string a, .string b, .int .i64 t] 152))
 have hz1 : (w).heap.size = qv1 := hqv1.symm
 first | rw [← hW1, ← hqv1] | rw [← hW1]
 have hs1 := hsa hW1 hz1
 have bw := bal hW1
 have hb1 := hbt hb0 bw
 have HBv1_1 := hnew hW1 hz1
 clear hb0 bw hW1 hz1
 clear hs1 hqv1
 have cv1_0 := (k4c HBv1_1).1
 have cv1_1 := (k4c HBv1_1).2.1
 have cv1_2 := (k4c HBv1_1).2.2.1
 have cv1_3 := (k4c HBv1_1).2.2.2
 go_wp2_with fail
 refine (ruleOf_2 a b t _).mono ?_
 rintro e w2 ⟨rfl, bw⟩
 have hb2 := hbt hb1 bw
 have HBv1_2 := hblk HBv1_1 bw
 clear hb1 HBv1_1 bw
 clear cv1_0 cv1_1 cv1_2 cv1_3
 go_upto_region 2 with fail
 refine wp_region_held_drew (S := fun W => W.heap[qv1]? = some (.cells #[.int .i64 2, .string a, .string b, .int .i64 t] 152)) (by kernel_rfl) HBv1_2.out (fun _ => ?_)
 obtain ⟨w3, hX⟩ := exq w2.drew
 have bw := bdr hX
 rw [← hX]
 have hb3 := hbt hb2 bw
 have HBv1_3 := hblk HBv1_2 bw
 have hS3 := HBv1_3.out
 clear hb2 HBv1_2 bw hX
 refine tkP 0 (.iface 258 (.agg #[.string a])) 6 rfl rfl hS3 ?_
 go_frame
 refine tkP 1 (.bool true) 7 rfl rfl hS3 ?_
 go_frame
 refine tkP 2 (.bool true) 8 rfl rfl hS3 ?_
 go_frame
 refine tkP 3 (.iface 258 (.agg #[.string a])) 9 rfl rfl hS3 ?_
 go_frame
 refine rd1 4 rfl (fun K hK => ?_)
 go_simp
 refine (right_2 a _ HAM.out).mono ?_
 rintro e w4 ⟨ur, rfl, htur, bw⟩
 have hb4 := hbt hb3 bw
 have HBv1_4 := hblk HBv1_3 bw
 clear hb3 HBv1_3 bw
 have hS4 := HBv1_4.out
 refine hK.out _ _ hS4 (fun _ => ?_)
 clear hK K hS3
 refine tkP 5 (.bool ur) 11 rfl rfl hS4 ?_
 go_frame
 refine tkP 6 (.bool ur) 12 rfl rfl hS4 ?_
 go_frame
 cases ur with
 | false =>
  have Hur : Hid (¬ (PathOk a)) := fun h => nomatch htur.2 h
  clear htur
  refine tkN 7 13 rfl rfl hS4 ?_
  go_frame
  refine tkN 8 14 rfl rfl hS4 ?_
  go_frame
  refine tkN 9 15 rfl rfl hS4 ?_
  go_frame
  refine tkP 10 (.bool false) 16 rfl rfl hS4 ?_
  go_frame
  refine tkP 11 (.bool false) 17 rfl rfl hS4 ?_
  go_frame
  refine tkN 12 18 rfl rfl hS4 ?_
  go_frame
  refine tkN 13 19 rfl rfl hS4 ?_
  go_frame
  refine tkN 14 20 rfl rfl hS4 ?_
  go_frame
  refine tkN 15 21 rfl rfl hS4 ?_
  go_frame
  refine tkN 16 22 rfl rfl hS4 ?_
  go_frame
  refine tkN 17 23 rfl rfl hS4 ?_
  go_frame
  refine tkP 18 (.bool false) 24 rfl rfl hS4 ?_
  go_frame
  refine tkP 19 (.bool false) 2 rfl rfl hS4 ?_
  go_frame
  clear hS4
  refine wpAnyH_done (by kernel_rfl) ?_ _
  go_wp2_with fail
  go_ret
  refine ⟨false, rfl, ?_, hb4⟩
  have zHur := Hur.out
  have zHB := HB0.out
  unfold BanP
  simp_all
 | true =>
  have Hur : Hid (PathOk a) := htur.1 rfl
  clear htur
  refine tkP 7 (.pointer (some ⟨qv1, 3, none⟩)) 13 rfl rfl hS4 ?_
  go_frame
  refine tkL 8 (.int .i64 t) 14 rfl rfl (Or.inl ⟨by rfl, by intro W hW; have hhv1 := hW; have y3 := (cell_of hhv1 3).trans rfl; go_simp⟩) hS4 ?_
  go_frame
  refine rd1 9 rfl (fun K hK => ?_)
  go_simp
  refine (timeOk_any t _).mono ?_
  rintro e w5 ⟨rfl, hwe⟩
  have bw : Below (w4).heap.size (w4) w5 := by rw [hwe]; exact Below.refl _ _
  clear hwe
  obtain ⟨ut, hut⟩ : ∃ u, u = decide ((0 : Int) ≤ t ∧ t ≤ 1000000) := ⟨_, rfl⟩
  rw [← hut]
  have hb5 := hbt hb4 bw
  have HBv1_5 := hblk HBv1_4 bw
  clear hb4 HBv1_4 bw
  have hS5 := HBv1_5.out
  refine hK.out _ _ hS5 (fun _ => ?_)
  clear hK K hS4
  refine tkP 10 (.bool ut) 16 rfl rfl hS5 ?_
  go_frame
  refine tkP 11 (.bool ut) 17 rfl rfl hS5 ?_
  go_frame
  cases ut with
  | false =>
   have Hut : Hid (¬ (0 ≤ t ∧ t ≤ 1000000)) := (show ¬ (0 ≤ t ∧ t ≤ 1000000) from of_decide_eq_false hut.symm)
   clear hut
   refine tkN 12 18 rfl rfl hS5 ?_
   go_frame
   refine tkN 13 19 rfl rfl hS5 ?_
   go_frame
   refine tkN 14 20 rfl rfl hS5 ?_
   go_frame
   refine tkN 15 21 rfl rfl hS5 ?_
   go_frame
   refine tkN 16 22 rfl rfl hS5 ?_
   go_frame
   refine tkN 17 23 rfl rfl hS5 ?_
   go_frame
   refine tkP 18 (.bool false) 24 rfl rfl hS5 ?_
   go_frame
   refine tkP 19 (.bool false) 2 rfl rfl hS5 ?_
   go_frame
   clear hS5
   refine wpAnyH_done (by kernel_rfl) ?_ _
   go_wp2_with fail
   go_ret
   refine ⟨false, rfl, ?_, hb5⟩
   have zHur := Hur.out
   have zHut := Hut.out
   have zHB := HB0.out
   unfold BanP
   simp_all
  | true =>
   have Hut : Hid (0 ≤ t ∧ t ≤ 1000000) := (show 0 ≤ t ∧ t ≤ 1000000 from of_decide_eq_true hut.symm)
   clear hut
   refine tkP 12 (.iface 258 (.agg #[.string a])) 18 rfl rfl hS5 ?_
   go_frame
   refine tkP 13 (.pointer (some ⟨qv1, 3, none⟩)) 19 rfl rfl hS5 ?_
   go_frame
   refine tkL 14 (.int .i64 t) 20 rfl rfl (Or.inl ⟨by rfl, by intro W hW; have hhv1 := hW; have y3 := (cell_of hhv1 3).trans rfl; go_simp⟩) hS5 ?_
   go_frame
   refine tkL 16 (.agg #[.int .i64 2, .string a, .string b, .int .i64 t]) 22 rfl rfl (Or.inl ⟨by rfl, by intro W hW; have hhv1 := hW; have y0 := (cell_of hhv1 0).trans rfl; have y1 := (cell_of hhv1 1).trans rfl; have y2 := (cell_of hhv1 2).trans rfl; have y3 := (cell_of hhv1 3).trans rfl; go_simp⟩) hS5 ?_
   go_frame
   refine rd1 15 rfl (fun K hK => ?_)
   go_simp
   refine (banOf_2 a t _).mono ?_
   rintro e w6 ⟨rfl, bw⟩
   have hb6 := hbt hb5 bw
   have HBv1_6 := hblk HBv1_5 bw
   clear hb5 HBv1_5 bw
   have hS6 := HBv1_6.out
   refine hK.out _ _ hS6 (fun _ => ?_)
   clear hK K hS5
   refine tkP 17 (.bool false) 23 rfl rfl hS6 ?_
   go_frame
   refine tkP 18 (.bool false) 24 rfl rfl hS6 ?_
   go_frame
   refine tkP 19 (.bool false) 2 rfl rfl hS6 ?_
   go_frame
   clear hS6
   refine wpAnyH_done (by kernel_rfl) ?_ _
   go_wp2_with fail
   go_ret
   refine ⟨false, rfl, ?_, hb6⟩
   have zHur := Hur.out
   have zHut := Hut.out
   have zHB := HB0.out
   unfold BanP
   simp_all
theorem implBanOk_3 (a b : ByteArray) (t : Int) (w : World) (ha : a.size ≤ maxLen) (hb : b.size ≤ maxLen) :
  Calls Tryz.prog 135 #[.agg #[.int .i64 3, .string a, .string b, .int .i64 t]] w fun e w' => BoolIs (BanP 3 a b t) w e w' := by
 classical
 have HAM : Hid (a.size ≤ maxLen) := ha
 have HBM : Hid (b.size ≤ maxLen) := hb
 have hnn : ∀ W : World, (binOp .neq 222 (.iface 260 (.agg #[.string a, .string b])) .nilIface).run Tryz.prog W = .ok (.bool true) W := fun _ => by kernel_rfl
 have hna : ∀ W : World, (nilAhead 157 260 (.agg #[.string a, .string b]) "loop.example/g00239/impl.right").run Tryz.prog W = .ok (some false) W := fun _ => by kernel_rfl
 have hmt : ∀ W : World, (method 157 260 (.agg #[.string a, .string b]) "loop.example/g00239/impl.right").run Tryz.prog W = .ok (252, .agg #[.string a, .string b]) W := fun _ => by kernel_rfl
 have hgb := guardBan
 have hqe : ∀ W : World, (binOp .eql 152 (.agg #[.int .i64 3, .string a, .string b, .int .i64 t]) (.agg #[.int .i64 3, .string a, .string b, .int .i64 t])).run Tryz.prog W = .ok (.bool true) W := fun W => by
  rw [eqlBan]
  first | (simp; done) | (have z := HB0.out; simp; exact fun e => z e.symm)
 clear ha hb
 have hb0 : Below w.heap.size w w := Below.refl _ _
 go_enter Tryz.func135, Tryz.ntmps135
 go_upto_region 1 with fail
 obtain ⟨qv1, hqv1⟩ := exq ((w).heap.size)
 obtain ⟨w1, hW1⟩ := exq ((w).alloc (.cells #[.int .i64 3, .string a, .string b, .int .i64 t] 152))
 have hz1 : (w).heap.size = qv1 := hqv1.symm
 first | rw [← hW1, ← hqv1] | rw [← hW1]
 have hs1 := hsa hW1 hz1
 have bw := bal hW1
 have hb1 := hbt hb0 bw
 have HBv1_1 := hnew hW1 hz1
 clear hb0 bw hW1 hz1
 clear hs1 hqv1
 have cv1_0 := (k4c HBv1_1).1
 have cv1_1 := (k4c HBv1_1).2.1
 have cv1_2 := (k4c HBv1_1).2.2.1
 have cv1_3 := (k4c HBv1_1).2.2.2
 go_wp2_with fail
 refine (ruleOf_3 a b t _).mono ?_
 rintro e w2 ⟨rfl, bw⟩
 have hb2 := hbt hb1 bw
 have HBv1_2 := hblk HBv1_1 bw
 clear hb1 HBv1_1 bw
 clear cv1_0 cv1_1 cv1_2 cv1_3
 go_upto_region 2 with fail
 refine wp_region_held_drew (S := fun W => W.heap[qv1]? = some (.cells #[.int .i64 3, .string a, .string b, .int .i64 t] 152)) (by kernel_rfl) HBv1_2.out (fun _ => ?_)
 obtain ⟨w3, hX⟩ := exq w2.drew
 have bw := bdr hX
 rw [← hX]
 have hb3 := hbt hb2 bw
 have HBv1_3 := hblk HBv1_2 bw
 have hS3 := HBv1_3.out
 clear hb2 HBv1_2 bw hX
 refine tkP 0 (.iface 260 (.agg #[.string a, .string b])) 6 rfl rfl hS3 ?_
 go_frame
 refine tkP 1 (.bool true) 7 rfl rfl hS3 ?_
 go_frame
 refine tkP 2 (.bool true) 8 rfl rfl hS3 ?_
 go_frame
 refine tkP 3 (.iface 260 (.agg #[.string a, .string b])) 9 rfl rfl hS3 ?_
 go_frame
 refine rd1 4 rfl (fun K hK => ?_)
 go_simp
 refine (right_3 a b _ HAM.out HBM.out).mono ?_
 rintro e w4 ⟨ur, rfl, htur, bw⟩
 have hb4 := hbt hb3 bw
 have HBv1_4 := hblk HBv1_3 bw
 clear hb3 HBv1_3 bw
 have hS4 := HBv1_4.out
 refine hK.out _ _ hS4 (fun _ => ?_)
 clear hK K hS3
 refine tkP 5 (.bool ur) 11 rfl rfl hS4 ?_
 go_frame
 refine tkP 6 (.bool ur) 12 rfl rfl hS4 ?_
 go_frame
 cases ur with
 | false =>
  have Hur : Hid (¬ (TokOk a ∧ ValOk b)) := fun h => nomatch htur.2 h
  clear htur
  refine tkN 7 13 rfl rfl hS4 ?_
  go_frame
  refine tkN 8 14 rfl rfl hS4 ?_
  go_frame
  refine tkN 9 15 rfl rfl hS4 ?_
  go_frame
  refine tkP 10 (.bool false) 16 rfl rfl hS4 ?_
  go_frame
  refine tkP 11 (.bool false) 17 rfl rfl hS4 ?_
  go_frame
  refine tkN 12 18 rfl rfl hS4 ?_
  go_frame
  refine tkN 13 19 rfl rfl hS4 ?_
  go_frame
  refine tkN 14 20 rfl rfl hS4 ?_
  go_frame
  refine tkN 15 21 rfl rfl hS4 ?_
  go_frame
  refine tkN 16 22 rfl rfl hS4 ?_
  go_frame
  refine tkN 17 23 rfl rfl hS4 ?_
  go_frame
  refine tkP 18 (.bool false) 24 rfl rfl hS4 ?_
  go_frame
  refine tkP 19 (.bool false) 2 rfl rfl hS4 ?_
  go_frame
  clear hS4
  refine wpAnyH_done (by kernel_rfl) ?_ _
  go_wp2_with fail
  go_ret
  refine ⟨false, rfl, ?_, hb4⟩
  have zHur := Hur.out
  unfold BanP
  simp_all
 | true =>
  have Hur : Hid (TokOk a ∧ ValOk b) := htur.1 rfl
  clear htur
  refine tkP 7 (.pointer (some ⟨qv1, 3, none⟩)) 13 rfl rfl hS4 ?_
  go_frame
  refine tkL 8 (.int .i64 t) 14 rfl rfl (Or.inl ⟨by rfl, by intro W hW; have hhv1 := hW; have y3 := (cell_of hhv1 3).trans rfl; go_simp⟩) hS4 ?_
  go_frame
  refine rd1 9 rfl (fun K hK => ?_)
  go_simp
  refine (timeOk_any t _).mono ?_
  rintro e w5 ⟨rfl, hwe⟩
  have bw : Below (w4).heap.size (w4) w5 := by rw [hwe]; exact Below.refl _ _
  clear hwe
  obtain ⟨ut, hut⟩ : ∃ u, u = decide ((0 : Int) ≤ t ∧ t ≤ 1000000) := ⟨_, rfl⟩
  rw [← hut]
  have hb5 := hbt hb4 bw
  have HBv1_5 := hblk HBv1_4 bw
  clear hb4 HBv1_4 bw
  have hS5 := HBv1_5.out
  refine hK.out _ _ hS5 (fun _ => ?_)
  clear hK K hS4
  refine tkP 10 (.bool ut) 16 rfl rfl hS5 ?_
  go_frame
  refine tkP 11 (.bool ut) 17 rfl rfl hS5 ?_
  go_frame
  cases ut with
  | false =>
   have Hut : Hid (¬ (0 ≤ t ∧ t ≤ 1000000)) := (show ¬ (0 ≤ t ∧ t ≤ 1000000) from of_decide_eq_false hut.symm)
   clear hut
   refine tkN 12 18 rfl rfl hS5 ?_
   go_frame
   refine tkN 13 19 rfl rfl hS5 ?_
   go_frame
   refine tkN 14 20 rfl rfl hS5 ?_
   go_frame
   refine tkN 15 21 rfl rfl hS5 ?_
   go_frame
   refine tkN 16 22 rfl rfl hS5 ?_
   go_frame
   refine tkN 17 23 rfl rfl hS5 ?_
   go_frame
   refine tkP 18 (.bool false) 24 rfl rfl hS5 ?_
   go_frame
   refine tkP 19 (.bool false) 2 rfl rfl hS5 ?_
   go_frame
   clear hS5
   refine wpAnyH_done (by kernel_rfl) ?_ _
   go_wp2_with fail
   go_ret
   refine ⟨false, rfl, ?_, hb5⟩
   have zHur := Hur.out
   have zHut := Hut.out
   unfold BanP
   simp_all
  | true =>
   have Hut : Hid (0 ≤ t ∧ t ≤ 1000000) := (show 0 ≤ t ∧ t ≤ 1000000 from of_decide_eq_true hut.symm)
   clear hut
   refine tkP 12 (.iface 260 (.agg #[.string a, .string b])) 18 rfl rfl hS5 ?_
   go_frame
   refine tkP 13 (.pointer (some ⟨qv1, 3, none⟩)) 19 rfl rfl hS5 ?_
   go_frame
   refine tkL 14 (.int .i64 t) 20 rfl rfl (Or.inl ⟨by rfl, by intro W hW; have hhv1 := hW; have y3 := (cell_of hhv1 3).trans rfl; go_simp⟩) hS5 ?_
   go_frame
   refine tkL 16 (.agg #[.int .i64 3, .string a, .string b, .int .i64 t]) 22 rfl rfl (Or.inl ⟨by rfl, by intro W hW; have hhv1 := hW; have y0 := (cell_of hhv1 0).trans rfl; have y1 := (cell_of hhv1 1).trans rfl; have y2 := (cell_of hhv1 2).trans rfl; have y3 := (cell_of hhv1 3).trans rfl; go_simp⟩) hS5 ?_
   go_frame
   refine rd1 15 rfl (fun K hK => ?_)
   go_simp
   refine (banOf_3 a b t _).mono ?_
   rintro e w6 ⟨rfl, bw⟩
   have hb6 := hbt hb5 bw
   have HBv1_6 := hblk HBv1_5 bw
   clear hb5 HBv1_5 bw
   have hS6 := HBv1_6.out
   refine hK.out _ _ hS6 (fun _ => ?_)
   clear hK K hS5
   refine tkP 17 (.bool true) 23 rfl rfl hS6 ?_
   go_frame
   refine tkP 18 (.bool true) 24 rfl rfl hS6 ?_
   go_frame
   refine tkP 19 (.bool true) 2 rfl rfl hS6 ?_
   go_frame
   clear hS6
   refine wpAnyH_done (by kernel_rfl) ?_ _
   go_wp2_with fail
   go_ret
   refine ⟨true, rfl, ?_, hb6⟩
   have zHur := Hur.out
   have zHut := Hut.out
   unfold BanP
   simp_all
theorem implBanOk_no (k : Int) (a b : ByteArray) (t : Int) (w : World) (h1 : ¬ k = 1) (h2 : ¬ k = 2) (h3 : ¬ k = 3) :
  Calls Tryz.prog 135 #[.agg #[.int .i64 k, .string a, .string b, .int .i64 t]] w fun e w' => BoolIs (BanP k a b t) w e w' := by
 have HK1 : Hid (¬ k = 1) := h1
 have HK2 : Hid (¬ k = 2) := h2
 have HK3 : Hid (¬ k = 3) := h3
 have hnn : ∀ W : World, (binOp .neq 222 .nilIface .nilIface).run Tryz.prog W = .ok (.bool false) W := fun _ => by kernel_rfl
 clear h1 h2 h3
 have hb0 : Below w.heap.size w w := Below.refl _ _
 go_enter Tryz.func135, Tryz.ntmps135
 go_upto_region 1 with fail
 obtain ⟨qv1, hqv1⟩ := exq ((w).heap.size)
 obtain ⟨w1, hW1⟩ := exq ((w).alloc (.cells #[.int .i64 k, .string a, .string b, .int .i64 t] 152))
 have hz1 : (w).heap.size = qv1 := hqv1.symm
 first | rw [← hW1, ← hqv1] | rw [← hW1]
 have hs1 := hsa hW1 hz1
 have bw := bal hW1
 have hb1 := hbt hb0 bw
 have HBv1_1 := hnew hW1 hz1
 clear hb0 bw hW1 hz1
 clear hs1 hqv1
 have cv1_0 := (k4c HBv1_1).1
 have cv1_1 := (k4c HBv1_1).2.1
 have cv1_2 := (k4c HBv1_1).2.2.1
 have cv1_3 := (k4c HBv1_1).2.2.2
 go_wp2_with fail
 refine (ruleOf_no k a b t _ HK1.out HK2.out HK3.out).mono ?_
 rintro e w2 ⟨rfl, bw⟩
 have hb2 := hbt hb1 bw
 have HBv1_2 := hblk HBv1_1 bw
 clear hb1 HBv1_1 bw
 clear cv1_0 cv1_1 cv1_2 cv1_3
 go_upto_region 2 with fail
 refine wp_region_held_drew (S := fun W => W.heap[qv1]? = some (.cells #[.int .i64 k, .string a, .string b, .int .i64 t] 152)) (by kernel_rfl) HBv1_2.out (fun _ => ?_)
 obtain ⟨w3, hX⟩ := exq w2.drew
 have bw := bdr hX
 rw [← hX]
 have hb3 := hbt hb2 bw
 have HBv1_3 := hblk HBv1_2 bw
 have hS3 := HBv1_3.out
 clear hb2 HBv1_2 bw hX
 refine tkP 0 (.nilIface) 6 rfl rfl hS3 ?_
 go_frame
 refine tkP 1 (.bool false) 7 rfl rfl hS3 ?_
 go_frame
 refine tkP 2 (.bool false) 8 rfl rfl hS3 ?_
 go_frame
 refine tkN 3 9 rfl rfl hS3 ?_
 go_frame
 refine tkN 4 10 rfl rfl hS3 ?_
 go_frame
 refine tkP 5 (.bool false) 11 rfl rfl hS3 ?_
 go_frame
 refine tkP 6 (.bool false) 12 rfl rfl hS3 ?_
 go_frame
 refine tkN 7 13 rfl rfl hS3 ?_
 go_frame
 refine tkN 8 14 rfl rfl hS3 ?_
 go_frame
 refine tkN 9 15 rfl rfl hS3 ?_
 go_frame
 refine tkP 10 (.bool false) 16 rfl rfl hS3 ?_
 go_frame
 refine tkP 11 (.bool false) 17 rfl rfl hS3 ?_
 go_frame
 refine tkN 12 18 rfl rfl hS3 ?_
 go_frame
 refine tkN 13 19 rfl rfl hS3 ?_
 go_frame
 refine tkN 14 20 rfl rfl hS3 ?_
 go_frame
 refine tkN 15 21 rfl rfl hS3 ?_
 go_frame
 refine tkN 16 22 rfl rfl hS3 ?_
 go_frame
 refine tkN 17 23 rfl rfl hS3 ?_
 go_frame
 refine tkP 18 (.bool false) 24 rfl rfl hS3 ?_
 go_frame
 refine tkP 19 (.bool false) 2 rfl rfl hS3 ?_
 go_frame
 clear hS3
 refine wpAnyH_done (by kernel_rfl) ?_ _
 go_wp2_with fail
 go_ret
 refine BoolIs.no ?_ hb3
 intro h
 rcases h.kinds with h | h | h
 · exact HK1.out h
 · exact HK2.out h
 · exact HK3.out h
theorem implBanOk_any (k : Int) (a b : ByteArray) (t : Int) (w : World) (ha : a.size ≤ maxLen) (hb : b.size ≤ maxLen) :
  Calls Tryz.prog 135 #[.agg #[.int .i64 k, .string a, .string b, .int .i64 t]] w fun e w' => BoolIs (BanP k a b t) w e w' := by
 classical
 by_cases h1 : k = 1
 ·
  subst h1
  by_cases h : b = ⟨#[]⟩
  · subst h; exact implBanOk_1e a t w ha
  · exact implBanOk_1n a b t w ha h
 ·
  by_cases h2 : k = 2
  ·
   subst h2
   by_cases h : b = ⟨#[]⟩
   · subst h; exact implBanOk_2e a t w ha
   · exact implBanOk_2n a b t w ha h
  ·
   by_cases h3 : k = 3
   · subst h3; exact implBanOk_3 a b t w ha hb
   · exact implBanOk_no k a b t w h1 h2 h3
end Go.Proofs.YtbmhonfgffjpcaaGreat
namespace Go.Proofs.YtbmhonfgffjpcaaGreat
open Go.RowKit
open Go.Lib hiding intOf
/-- ObjOk of one that is kept. -/
theorem implObjOk_k (k : KpD) (v1 v2 v3 : Value) (w : World) (h : KpRead w k v1 v2 v3) (hs : KpSmall k) :
  Calls Tryz.prog 133 #[.agg #[.string k.p, v1, v2, .int .i64 k.st, v3, .string k.b, .int .i64 k.t]] w fun e w' => BoolIs (ObjK k) w e w' := by
 obtain ⟨B, h⟩ := h
 have ho : ObjO w B v1 k.xs.length k.xs v2 k.ys.length k.ys v3 k.fs.length k.fs := rows_objO h
 obtain ⟨o1, c1, rfl⟩ := slice_of_owns ho.names
 obtain ⟨o2, c2, rfl⟩ := slice_of_owns ho.vals
 exact implObjOk_any k.p o1 _ c1 k.xs o2 _ c2 k.ys k.st v3 _ B k.fs k.b k.t w (texts_view ho.names) (texts_view ho.vals) (FieldsV.of_owns ho.flds) (by have := hs.2.1.1; omega) (by have := hs.2.2.1.1; omega) (by have := hs.2.2.2.1; omega) (small_text hs.2.1.2) (small_text hs.2.2.1.2) (small_walk hs) (small_copy hs) (by have := hs.1.1; unfold maxLen; omega) (by have := hs.1.2; unfold maxLen; omega) (small_get hs _)
end Go.Proofs.YtbmhonfgffjpcaaGreat
namespace Go.Proofs.YtbmhonfgffjpcaaGreat
open Go.RowKit
open Go.Lib hiding intOf
theorem cc_nc (c0 c1 c2 c3 c4 : Bool) (c5 : Int) (W : World) : (Instr.field 190 (.agg #[.bool c0, .bool c1, .bool c2, .bool c3, .bool c4, .int .i64 c5]) 1).run Tryz.prog W = .ok (.bool c1) W := by
 first | kernel_rfl | rfl | simp [Instr.field, go_sem]
end Go.Proofs.YtbmhonfgffjpcaaGreat
namespace Go.Proofs.YtbmhonfgffjpcaaGreat
open Go.RowKit
open Go.Lib hiding intOf
/-- Who may be answered from here. -/
def HereP (m : Int) (p : ByteArray) (fs : List (ByteArray × ByteArray)) (b : ByteArray) : Prop := (ReqP m p fs b ∧ m = 1) ∧ (ccR (getV fs ccName)).ns = false
/-- Both ask for the same. -/
def AlikeP (m : Int) (p : ByteArray) (fs : List (ByteArray × ByteArray)) (b : ByteArray) (m2 : Int) (p2 : ByteArray) (gs : List (ByteArray × ByteArray)) (c : ByteArray) : Prop := (HereP m p fs b ∧ HereP m2 p2 gs c) ∧ p = p2 ∧ fs = gs
/-- The first fields of both are the same. -/
def SameTo (fs gs : List (ByteArray × ByteArray)) (k : Nat) : Prop := ∀ j, j < k → nameAt fs j = nameAt gs j ∧ valAt fs j = valAt gs j
theorem SameTo.zero (fs gs : List (ByteArray × ByteArray)) : SameTo fs gs 0 := fun j h => absurd h (Nat.not_lt_zero j)
theorem SameTo.step {fs gs : List (ByteArray × ByteArray)} {k : Nat} (h : SameTo fs gs k) (h1 : nameAt fs k = nameAt gs k) (h2 : valAt fs k = valAt gs k) : SameTo fs gs (k + 1) := fun j hj => by
 by_cases e : j = k
 · subst e; exact ⟨h1, h2⟩
 · exact h j (by omega)
theorem SameTo.all {fs gs : List (ByteArray × ByteArray)} {n : Nat} (h : SameTo fs gs n) (h1 : fs.length = n) (h2 : gs.length = n) : fs = gs := by
 apply List.ext_getElem (by omega)
 intro i hi hj
 have := h i (by omega)
 unfold nameAt valAt at this
 rw [List.getD_eq_getElem?_getD, List.getElem?_eq_getElem hi, List.getD_eq_getElem?_getD, List.getElem?_eq_getElem hj] at this
 exact Prod.ext this.1 this.2
end Go.Proofs.YtbmhonfgffjpcaaGreat
namespace Go.Proofs.YtbmhonfgffjpcaaGreat
open Go.RowKit
open Go.Lib hiding intOf
theorem cc_ns (c0 c1 c2 c3 c4 : Bool) (c5 : Int) (W : World) : (Instr.field 190 (.agg #[.bool c0, .bool c1, .bool c2, .bool c3, .bool c4, .int .i64 c5]) 0).run Tryz.prog W = .ok (.bool c0) W := by
 first | kernel_rfl | rfl | simp [Instr.field, go_sem]
theorem guardFld : Tryz.prog.eqGuardType Tryz.prog.depth 171 = false := by kernel_rfl
open Classical in
theorem eqFldIn (a a' b b' : ByteArray) (w : World) : (Op.equalIn 10000 171 (.agg #[.string a, .string b]) (.agg #[.string a', .string b'])).run Tryz.prog w = .ok (decide (a = a' ∧ b = b')) w := by
 have u9 := Tryz.underlying9
 have a9 := Tryz.isAgg9
 have z9 := Tryz.sizeOf9
 have hS : Tryz.prog.underlying 171 = some (.struct (Tryz.prog.fieldsOf 171)) := by kernel_rfl
 have hp : Tryz.prog.stoodInHeld 171 = false := by kernel_rfl
 rw [show (10000 : Nat) = 9999 + 1 from rfl, run_equalIn_agg w 9999 171 _ _ hS hp]
 simp only [Program.fieldsOf, Tryz.underlying171]
 have ea : ∀ x y : ByteArray, (x.toList == y.toList) = decide (x = y) := fun x y => by
  by_cases h : x = y
  · rw [decide_eq_true h]; exact (text_beq _ _).2 h
  · rw [decide_eq_false h]; exact text_beq_no h
 go_simp
 by_cases h1 : a = a'
 ·
  by_cases h2 : b = b'
  · simp [h1, h2]
  · simp [h1, h2]
 · simp [h1]
open Classical in
theorem neqFld (a a' b b' : ByteArray) (w : World) : (binOp .neq 171 (.agg #[.string a, .string b]) (.agg #[.string a', .string b'])).run Tryz.prog w = .ok (.bool (!(decide (a = a' ∧ b = b')))) w := by
 rw [run_neq_struct, eqFldIn]
 rfl
end Go.Proofs.YtbmhonfgffjpcaaGreat
namespace Go.Proofs.YtbmhonfgffjpcaaGreat
open Go.RowKit
open Go.Lib hiding intOf
theorem l15Fields_any (v1 v2 : Value) (n m b1 b2 : Nat) (fs gs : List (ByteArray × ByteArray)) (w : World) (h1 : FieldsV w b1 v1 n fs) (h2 : FieldsV w b2 v2 m gs) (hn : n ≤ 1073741824) (hm : m ≤ 1073741824) :
  Calls Tryz.prog 121 #[v1, v2] w fun e w' => BoolIs (fs = gs) w e w' := by
 classical
 have HL1 : Hid (fs.length = n) := h1.len
 have HL2 : Hid (gs.length = m) := h2.len
 obtain ⟨oa, ca, rfl, ra⟩ := h1.slice
 obtain ⟨ob, cb, rfl, rb⟩ := h2.slice
 have HRA : Hid (∀ k, k < n → ∃ g, oa = some ⟨g, 0, none⟩ ∧ FieldRow b1 w g n ca fs) := ra
 have HRB : Hid (∀ k, k < m → ∃ g, ob = some ⟨g, 0, none⟩ ∧ FieldRow b2 w g m cb gs) := rb
 clear ra rb h1 h2
 have hgd := guardFld
 go_enter Tryz.func121, Tryz.ntmps121
 go_wp2
 go_loopw [5] (fun i wr => ∃ k : Nat, k ≤ n ∧ k ≤ m ∧ i = .int .i64 (k : Int) ∧ Below w.heap.size w wr ∧ Hid (SameTo fs gs k)) (fun i _ => n - (intOf i).toNat)
 case atStart => exact ⟨0, Nat.zero_le _, Nat.zero_le _, rfl, Below.refl _ _, SameTo.zero _ _⟩
 case round =>
  obtain ⟨k, hk, hkm, rfl, hbw, HST⟩ := hrel
  by_cases hlt : k < n
  ·
   by_cases hltm : k < m
   ·
    have hlt2 : (k : Int) < (n : Int) := by omega
    have hlt3 : (k : Int) < (m : Int) := by omega
    obtain ⟨g1, hoa, r1⟩ := HRA.out k hlt
    obtain ⟨g2, hob, r2⟩ := HRB.out k hltm
    subst hoa hob
    obtain ⟨na, hna⟩ := exq (nameAt fs k)
    obtain ⟨va, hva⟩ := exq (valAt fs k)
    obtain ⟨nb, hnb⟩ := exq (nameAt gs k)
    obtain ⟨vb, hvb⟩ := exq (valAt gs k)
    have ha := (r1.below hbw r1.lt).name k hlt
    have hb := (r1.below hbw r1.lt).val k hlt
    have hc := (r2.below hbw r2.lt).name k hltm
    have hd := (r2.below hbw r2.lt).val k hltm
    rw [← hna] at ha
    rw [← hva] at hb
    rw [← hnb] at hc
    rw [← hvb] at hd
    by_cases he : na = nb ∧ va = vb
    ·
     have HS2 : Hid (SameTo fs gs (k + 1)) := HST.out.step (by rw [← hna, ← hnb]; exact he.1) (by rw [← hva, ← hvb]; exact he.2)
     obtain ⟨e1, e2⟩ := he
     subst e1 e2
     have hq : ∀ W : World, (binOp .neq 171 (.agg #[.string na, .string va]) (.agg #[.string na, .string va])).run Tryz.prog W = .ok (.bool false) W := fun W => by rw [neqFld]; simp
     clear hna hva hnb hvb r1 r2 HST
     go_wp2
     go_region
     go_wp2
     go_roundw
     case rel => exact ⟨k + 1, by omega, by omega, by go_num, hbw.drew, HS2⟩
     case measure => simp [intOf]; omega
    ·
     have HNE : Hid (¬ fs = gs) := fun e => he ⟨by rw [hna, hnb, e], by rw [hva, hvb, e]⟩
     have hq : ∀ W : World, (binOp .neq 171 (.agg #[.string na, .string va]) (.agg #[.string nb, .string vb])).run Tryz.prog W = .ok (.bool true) W := fun W => by rw [neqFld, decide_eq_false he]; rfl
     clear hna hva hnb hvb r1 r2 HST he
     go_wp2
     go_region
     go_wp2
     go_ret
     exact BoolIs.no HNE.out hbw.drew
   ·
    have HNE : Hid (¬ fs = gs) := fun e => by
     have h1 := HL1.out
     have h2 := HL2.out
     rw [e] at h1
     omega
    have hnm : ((n : Int) == (m : Int)) = false := by simpa using (show ¬ (n : Int) = (m : Int) by omega)
    go_wp2
    go_ret
    exact BoolIs.no HNE.out hbw
  ·
   by_cases hnm : n = m
   ·
    subst hnm
    have HEQ : Hid (fs = gs) := by
     have h := HST.out
     rw [show k = n by omega] at h
     exact h.all HL1.out HL2.out
    have hnn : ((n : Int) == (n : Int)) = true := by simp
    go_wp2
    go_ret
    exact BoolIs.yes HEQ.out hbw
   ·
    have HNE : Hid (¬ fs = gs) := fun e => by
     have h1 := HL1.out
     have h2 := HL2.out
     rw [e] at h1
     omega
    have hnmb : ((n : Int) == (m : Int)) = false := by simpa using (show ¬ (n : Int) = (m : Int) by omega)
    go_wp2
    go_ret
    exact BoolIs.no HNE.out hbw
end Go.Proofs.YtbmhonfgffjpcaaGreat
namespace Go.Proofs.YtbmhonfgffjpcaaGreat
open Go.RowKit
open Go.Lib hiding intOf
theorem specAlike_any (ma : Int) (pa : ByteArray) (va : Value) (ba : ByteArray) (na basea : Nat) (fsa : List (ByteArray × ByteArray)) (mb : Int) (pb : ByteArray) (vb : Value) (bb : ByteArray) (nb baseb : Nat) (fsb : List (ByteArray × ByteArray)) (w : World) (hva : FieldsV w basea va na fsa) (hna : na ≤ 1048576) (hsa : WalkF na fsa) (hpa : pa.size ≤ maxLen) (hba : ba.size ≤ maxLen) (hga : ∀ x, (getV fsa x).size ≤ 1048576) (hvb : FieldsV w baseb vb nb fsb) (hnb : nb ≤ 1048576) (hsb : WalkF nb fsb) (hpb : pb.size ≤ maxLen) (hbb : bb.size ≤ maxLen) (hgb : ∀ x, (getV fsb x).size ≤ 1048576) :
  Calls Tryz.prog 83 #[.agg #[.int .i64 ma, .string pa, va, .string ba], .agg #[.int .i64 mb, .string pb, vb, .string bb]] w fun e w' => BoolIs (AlikeP ma pa fsa ba mb pb fsb bb) w e w' := by
 obtain ⟨oa, ca, hsl, _⟩ := hva.slice
 subst hsl
 have HVa : Hid (∀ W, Below w.heap.size w W → FieldsV W basea (.slice oa na ca) na fsa) := fun W h => hva.below h
 have HLFa : Hid (fsa.length = na) := hva.len
 have HSa : Hid (WalkF na fsa) := hsa
 have HPMa : Hid (pa.size ≤ maxLen) := hpa
 have HBMa : Hid (ba.size ≤ maxLen) := hba
 have HQVa : Hid (∀ x, (getV fsa x).size ≤ 1048576) := hga
 clear hva hsa hpa hba hga
 obtain ⟨ka, hka⟩ := exq (ccR (getV fsa ccName))
 have HCCa : Hid (∀ W, Below w.heap.size w W → Calls Tryz.prog 122 #[.slice oa na ca] W fun e w' => e = .returned (.agg #[.bool ka.ns, .bool ka.nc, .bool ka.pr, .bool ka.mu, .bool ka.ha, .int .i64 ka.age]) ∧ Below W.heap.size W w') := fun W hW => by
  have h := specCcOf_any _ na basea fsa W (HVa.out W hW) (by omega) (HQVa.out _)
  rw [← hka] at h
  exact h
 have HCKa : Hid (ccR (getV fsa ccName) = ka) := hka.symm
 clear hka
 obtain ⟨xa0, xa1, xa2, xa3, xa4, xa5⟩ := ka
 dsimp only at HCCa
 obtain ⟨ob, cb, hsl, _⟩ := hvb.slice
 subst hsl
 have HVb : Hid (∀ W, Below w.heap.size w W → FieldsV W baseb (.slice ob nb cb) nb fsb) := fun W h => hvb.below h
 have HLFb : Hid (fsb.length = nb) := hvb.len
 have HSb : Hid (WalkF nb fsb) := hsb
 have HPMb : Hid (pb.size ≤ maxLen) := hpb
 have HBMb : Hid (bb.size ≤ maxLen) := hbb
 have HQVb : Hid (∀ x, (getV fsb x).size ≤ 1048576) := hgb
 clear hvb hsb hpb hbb hgb
 obtain ⟨kb, hkb⟩ := exq (ccR (getV fsb ccName))
 have HCCb : Hid (∀ W, Below w.heap.size w W → Calls Tryz.prog 122 #[.slice ob nb cb] W fun e w' => e = .returned (.agg #[.bool kb.ns, .bool kb.nc, .bool kb.pr, .bool kb.mu, .bool kb.ha, .int .i64 kb.age]) ∧ Below W.heap.size W w') := fun W hW => by
  have h := specCcOf_any _ nb baseb fsb W (HVb.out W hW) (by omega) (HQVb.out _)
  rw [← hkb] at h
  exact h
 have HCKb : Hid (ccR (getV fsb ccName) = kb) := hkb.symm
 clear hkb
 obtain ⟨xb0, xb1, xb2, xb3, xb4, xb5⟩ := kb
 dsimp only at HCCb
 have hfna := fun W => cc_ns xa0 xa1 xa2 xa3 xa4 xa5 W
 have hfca := fun W => cc_nc xa0 xa1 xa2 xa3 xa4 xa5 W
 have hb0 : Below w.heap.size w w := Below.refl _ _
 go_enter Tryz.func83, Tryz.ntmps83
 go_upto_region 1 with fail
 obtain ⟨qv1, hqv1⟩ := exq ((w).heap.size)
 obtain ⟨w1, hW1⟩ := exq ((w).alloc (.cells #[.int .i64 ma, .string pa, .slice oa na ca, .string ba] 62))
 have hz1 : (w).heap.size = qv1 := hqv1.symm
 first | rw [← hW1, ← hqv1] | rw [← hW1]
 have hs1 := hsa hW1 hz1
 have bw := bal hW1
 have hb1 := hbt hb0 bw
 have HBv1_1 := hnew hW1 hz1
 clear hb0 bw hW1 hz1
 obtain ⟨qv2, hqv2⟩ := exq (qv1 + 1)
 obtain ⟨w2, hW2⟩ := exq ((w1).alloc (.cells #[.int .i64 mb, .string pb, .slice ob nb cb, .string bb] 62))
 have hz2 : (w1).heap.size = qv2 := by rw [hqv2]; exact hs1
 first | rw [← hW2, ← hqv2] | rw [← hW2]
 have hs2 := hsa hW2 hz2
 have bw := bal hW2
 have hb2 := hbt hb1 bw
 have HBv1_2 := hblk HBv1_1 bw
 have HBv2_2 := hnew hW2 hz2
 clear hb1 HBv1_1 bw hW2 hz2
 clear hs2 hqv2 hs1 hqv1
 have cv1_0 := (k4c HBv1_2).1
 have cv1_1 := (k4c HBv1_2).2.1
 have cv1_2 := (k4c HBv1_2).2.2.1
 have cv1_3 := (k4c HBv1_2).2.2.2
 go_wp2_with fail
 refine (specReqOk_any ma pa _ ba na basea fsa _ (HVa.out _ hb2) (by omega) HSa.out HPMa.out HBMa.out).mono ?_
 rintro e w3 ⟨ra, rfl, hra, bw⟩
 have hb3 := hbt hb2 bw
 have HBv1_3 := hblk HBv1_2 bw
 have HBv2_3 := hblk HBv2_2 bw
 clear hb2 HBv1_2 HBv2_2 bw
 clear cv1_0 cv1_1 cv1_2 cv1_3
 cases ra with
 | false =>
  have HNra : Hid (¬ (ReqP ma pa fsa ba)) := fun h => nomatch hra.2 h
  clear hra
  go_wp2_with fail
  go_ret
  exact BoolIs.no (fun h => HNra.out h.1.1.1.1) hb3
 | true =>
  have HYra : Hid (ReqP ma pa fsa ba) := hra.1 rfl
  clear hra
  have cv2_0 := (k4c HBv2_3).1
  have cv2_1 := (k4c HBv2_3).2.1
  have cv2_2 := (k4c HBv2_3).2.2.1
  have cv2_3 := (k4c HBv2_3).2.2.2
  go_wp2_with fail
  refine (specReqOk_any mb pb _ bb nb baseb fsb _ (HVb.out _ hb3) (by omega) HSb.out HPMb.out HBMb.out).mono ?_
  rintro e w4 ⟨rb, rfl, hrb, bw⟩
  have hb4 := hbt hb3 bw
  have HBv1_4 := hblk HBv1_3 bw
  have HBv2_4 := hblk HBv2_3 bw
  clear hb3 HBv1_3 HBv2_3 bw
  clear cv2_0 cv2_1 cv2_2 cv2_3
  cases rb with
  | false =>
   have HNrb : Hid (¬ (ReqP mb pb fsb bb)) := fun h => nomatch hrb.2 h
   clear hrb
   go_wp2_with fail
   go_ret
   exact BoolIs.no (fun h => HNrb.out h.1.2.1.1) hb4
  | true =>
   have HYrb : Hid (ReqP mb pb fsb bb) := hrb.1 rfl
   clear hrb
   by_cases hc1 : ma = 1
   ·
    have hc1b : ((ma : Int) == (1 : Int)) = true := by simpa using hc1
    have hc1n : ((ma : Int) != (1 : Int)) = false := by simpa using hc1
    have HMEa : Hid ((ma = 1)) := hc1
    have hc1H : Hid (ma = 1) := hc1
    clear hc1
    by_cases hc2 : mb = 1
    ·
     have hc2b : ((mb : Int) == (1 : Int)) = true := by simpa using hc2
     have hc2n : ((mb : Int) != (1 : Int)) = false := by simpa using hc2
     have HMEb : Hid ((mb = 1)) := hc2
     have hc2H : Hid (mb = 1) := hc2
     clear hc2
     have cv1_0 := (k4c HBv1_4).1
     have cv1_1 := (k4c HBv1_4).2.1
     have cv2_0 := (k4c HBv2_4).1
     have cv2_1 := (k4c HBv2_4).2.1
     by_cases hc3 : pa = pb
     ·
      have hc3b : ((pa).toList == (pb).toList) = true := (text_beq _ _).2 hc3
      have HPP : Hid ((pa = pb)) := hc3
      clear hc3
      have cv1_2 := (k4c HBv1_4).2.2.1
      have cv2_2 := (k4c HBv2_4).2.2.1
      go_wp2_with fail
      refine (l15Fields_any _ _ na nb _ _ fsa fsb _ (HVa.out _ hb4) (HVb.out _ hb4) (by omega) (by omega)).mono ?_
      rintro e w5 ⟨lf, rfl, hlf, bw⟩
      have hb5 := hbt hb4 bw
      have HBv1_5 := hblk HBv1_4 bw
      have HBv2_5 := hblk HBv2_4 bw
      clear hb4 HBv1_4 HBv2_4 bw
      clear cv1_0 cv1_1 cv2_0 cv2_1 cv1_2 cv2_2
      cases lf with
      | false =>
       have HNlf : Hid (¬ (fsa = fsb)) := fun h => nomatch hlf.2 h
       clear hlf
       go_wp2_with fail
       go_ret
       exact BoolIs.no (fun h => HNlf.out h.2.2) hb5
      | true =>
       have HYlf : Hid (fsa = fsb) := hlf.1 rfl
       clear hlf
       have cv1_2 := (k4c HBv1_5).2.2.1
       go_wp2_with fail
       refine (HCCa.out _ hb5).mono ?_
       rintro e w6 ⟨rfl, bw⟩
       have hb6 := hbt hb5 bw
       have HBv1_6 := hblk HBv1_5 bw
       have HBv2_6 := hblk HBv2_5 bw
       clear hb5 HBv1_5 HBv2_5 bw
       clear cv1_2
       cases xa0 with
       | false =>
        have HXNa : Hid ((ccR (getV fsa ccName)).ns = false) := by show _ = _; rw [HCKa.out]
        go_wp2_with fail
        go_ret
        exact BoolIs.yes ⟨⟨⟨⟨HYra.out, HMEa.out⟩, HXNa.out⟩, ⟨HYrb.out, HMEb.out⟩, by rw [← HYlf.out]; exact HXNa.out⟩, HPP.out, HYlf.out⟩ hb6
       | true =>
        have HXNa : Hid ((ccR (getV fsa ccName)).ns = true) := by show _ = _; rw [HCKa.out]
        go_wp2_with fail
        go_ret
        exact BoolIs.no (fun h => (by have h1 := h.1.1.2; rw [HXNa.out] at h1; exact absurd h1 (by decide))) hb6
     ·
      have hc3b : ((pa).toList == (pb).toList) = false := text_beq_no hc3
      have HPP : Hid (¬ (pa = pb)) := hc3
      clear hc3
      go_wp2_with fail
      go_ret
      exact BoolIs.no (fun h => HPP.out h.2.1) hb4
    ·
     have hc2b : ((mb : Int) == (1 : Int)) = false := by simpa using hc2
     have hc2n : ((mb : Int) != (1 : Int)) = true := by simpa using hc2
     have HMEb : Hid (¬ (mb = 1)) := hc2
     have hc2H : Hid (¬ (mb = 1)) := hc2
     clear hc2
     have cv1_0 := (k4c HBv1_4).1
     have cv2_0 := (k4c HBv2_4).1
     go_wp2_with fail
     go_ret
     exact BoolIs.no (fun h => HMEb.out h.1.2.1.2) hb4
   ·
    have hc1b : ((ma : Int) == (1 : Int)) = false := by simpa using hc1
    have hc1n : ((ma : Int) != (1 : Int)) = true := by simpa using hc1
    have HMEa : Hid (¬ (ma = 1)) := hc1
    have hc1H : Hid (¬ (ma = 1)) := hc1
    clear hc1
    have cv1_0 := (k4c HBv1_4).1
    go_wp2_with fail
    go_ret
    exact BoolIs.no (fun h => HMEa.out h.1.1.1.2) hb4
end Go.Proofs.YtbmhonfgffjpcaaGreat
namespace Go.Proofs.YtbmhonfgffjpcaaGreat
open Go.RowKit
open Go.Lib hiding intOf
theorem equalFld_eq (v1 v2 : Value) (n b1 b2 : Nat) (fs gs : List (ByteArray × ByteArray)) (w : World) (h1 : FieldsV w b1 v1 n fs) (h2 : FieldsV w b2 v2 n gs) (hn : n ≤ 1073741824) :
  Calls Tryz.prog 164 #[v1, v2] w fun e w' => BoolIs (fs = gs) w e w' := by
 classical
 have HL1 : Hid (fs.length = n) := h1.len
 have HL2 : Hid (gs.length = n) := h2.len
 obtain ⟨oa, ca, rfl, ra⟩ := h1.slice
 obtain ⟨ob, cb, rfl, rb⟩ := h2.slice
 have HRA : Hid (∀ k, k < n → ∃ g, oa = some ⟨g, 0, none⟩ ∧ FieldRow b1 w g n ca fs) := ra
 have HRB : Hid (∀ k, k < n → ∃ g, ob = some ⟨g, 0, none⟩ ∧ FieldRow b2 w g n cb gs) := rb
 clear ra rb h1 h2
 have hgd := guardFld
 have hnn : ((n : Int) != (n : Int)) = false := by simp
 go_enter Tryz.func164, Tryz.ntmps164
 go_wp2
 go_loopw [13] (fun i wr => ∃ k : Nat, k ≤ n ∧ i = .int .i64 (k : Int) ∧ Below w.heap.size w wr ∧ Hid (SameTo fs gs k)) (fun i _ => n - (intOf i).toNat)
 case atStart => exact ⟨0, Nat.zero_le _, rfl, Below.refl _ _, SameTo.zero _ _⟩
 case round =>
  obtain ⟨k, hk, rfl, hbw, HST⟩ := hrel
  by_cases hlt : k < n
  ·
   ·
    have hlt2 : (k : Int) < (n : Int) := by omega
    obtain ⟨g1, hoa, r1⟩ := HRA.out k hlt
    obtain ⟨g2, hob, r2⟩ := HRB.out k hlt
    subst hoa hob
    obtain ⟨na, hna⟩ := exq (nameAt fs k)
    obtain ⟨va, hva⟩ := exq (valAt fs k)
    obtain ⟨nb, hnb⟩ := exq (nameAt gs k)
    obtain ⟨vb, hvb⟩ := exq (valAt gs k)
    have ha := (r1.below hbw r1.lt).name k hlt
    have hb := (r1.below hbw r1.lt).val k hlt
    have hc := (r2.below hbw r2.lt).name k hlt
    have hd := (r2.below hbw r2.lt).val k hlt
    rw [← hna] at ha
    rw [← hva] at hb
    rw [← hnb] at hc
    rw [← hvb] at hd
    by_cases he : na = nb ∧ va = vb
    ·
     have HS2 : Hid (SameTo fs gs (k + 1)) := HST.out.step (by rw [← hna, ← hnb]; exact he.1) (by rw [← hva, ← hvb]; exact he.2)
     obtain ⟨e1, e2⟩ := he
     subst e1 e2
     have hq : ∀ W : World, (binOp .neq 171 (.agg #[.string na, .string va]) (.agg #[.string na, .string va])).run Tryz.prog W = .ok (.bool false) W := fun W => by rw [neqFld]; simp
     clear hna hva hnb hvb r1 r2 HST
     go_wp2
     go_region
     go_wp2
     go_roundw
     case rel => exact ⟨k + 1, by omega, by go_num, hbw.drew, HS2⟩
     case measure => simp [intOf]; omega
    ·
     have HNE : Hid (¬ fs = gs) := fun e => he ⟨by rw [hna, hnb, e], by rw [hva, hvb, e]⟩
     have hq : ∀ W : World, (binOp .neq 171 (.agg #[.string na, .string va]) (.agg #[.string nb, .string vb])).run Tryz.prog W = .ok (.bool true) W := fun W => by rw [neqFld, decide_eq_false he]; rfl
     clear hna hva hnb hvb r1 r2 HST he
     go_wp2
     go_region
     go_wp2
     go_ret
     exact BoolIs.no HNE.out hbw.drew
  ·
   have HEQ : Hid (fs = gs) := by
    have h := HST.out
    rw [show k = n by omega] at h
    exact h.all HL1.out HL2.out
   go_wp2
   go_ret
   exact BoolIs.yes HEQ.out hbw
theorem equalFld_any (v1 v2 : Value) (n m b1 b2 : Nat) (fs gs : List (ByteArray × ByteArray)) (w : World) (h1 : FieldsV w b1 v1 n fs) (h2 : FieldsV w b2 v2 m gs) (hn : n ≤ 1073741824) (hm : m ≤ 1073741824) :
  Calls Tryz.prog 164 #[v1, v2] w fun e w' => BoolIs (fs = gs) w e w' := by
 by_cases hnm : n = m
 ·
  subst hnm
  exact equalFld_eq v1 v2 n b1 b2 fs gs w h1 h2 hn
 ·
  have HNE : Hid (¬ fs = gs) := fun e => by
   have e1 := h1.len
   have e2 := h2.len
   rw [e] at e1
   omega
  have hne : ((n : Int) != (m : Int)) = true := by simpa using (show ¬ (n : Int) = (m : Int) by omega)
  obtain ⟨oa, ca, rfl, _⟩ := h1.slice
  obtain ⟨ob, cb, rfl, _⟩ := h2.slice
  go_enter Tryz.func164, Tryz.ntmps164
  go_wp2
  go_ret
  exact BoolIs.no HNE.out (Below.refl _ _)
end Go.Proofs.YtbmhonfgffjpcaaGreat
namespace Go.Proofs.YtbmhonfgffjpcaaGreat
open Go.RowKit
open Go.Lib hiding intOf
theorem saidByFlag_any (x : ByteArray) (w : World) :
  Calls Tryz.prog 225 #[.string x] w fun e w' => e = .returned (saidF x).v ∧ Below w.heap.size w w' := by
 have hR : CcAt (w.alloc (.cells #[.bool false, .bool false, .bool false, .bool false, .bool false, .int .i64 0] 190)) w.heap.size cc0 := heap_alloc_new w _
 have HB0 : Hid (Below w.heap.size w (w.alloc (.cells #[.bool false, .bool false, .bool false, .bool false, .bool false, .int .i64 0] 190))) := (Below.refl _ _).alloc (Nat.le_refl _) _
 obtain ⟨W1, hW1⟩ := exq (w.alloc (.cells #[.bool false, .bool false, .bool false, .bool false, .bool false, .int .i64 0] 190))
 have HW1 : Hid (w.alloc (.cells #[.bool false, .bool false, .bool false, .bool false, .bool false, .int .i64 0] 190) = W1) := hW1.symm
 rw [← hW1] at hR HB0
 obtain ⟨H, hH⟩ := exq (w.heap.size)
 have HW : Hid (w.heap.size = H) := hH.symm
 rw [← hH] at hR HB0
 clear hW1
 obtain ⟨r0, r1, r2, r3, r4, r5⟩ := hR.cells
 have f0 := hR.frozen 0
 have f1 := hR.frozen 1
 have f2 := hR.frozen 2
 have f3 := hR.frozen 3
 have f4 := hR.frozen 4
 have f5 := hR.frozen 5
 obtain ⟨c, hc⟩ := exq (saidF x)
 have HC : Hid (saidF x = c) := hc.symm
 obtain ⟨m0, m1, m2, m3, m4, m5⟩ := (hR.putAll c).cells
 have HB : Hid (Below H w (putCc W1 H c)) := below_putCc HB0.out (Nat.le_refl _) c
 unfold putCc at m0 m1 m2 m3 m4 m5 HB
 clear hR HB0
 unfold saidF at hc
 by_cases h0 : x = nsW
 ·
  have t0 : (x.toList == nsW.toList) = true := (text_beq _ _).2 h0
  rw [nsW_list] at t0
  rw [if_pos h0] at hc
  subst hc
  clear h0 
  dsimp only at m0 m1 m2 m3 m4 m5 HB
  go_enter Tryz.func225, Tryz.ntmps225
  go_upto_region 1 with fail
  rw [HW1.out, ← hH]
  clear hH HW1
  go_wp2_with fail
  refine bodyPost_ret (v := (saidF x).v) (by rw [HC.out]; simp [results, Tryz.results225, go_sem, m0, m1, m2, m3, m4, m5, CcD.v]) rfl ?_
  exact ⟨rfl, by rw [HW.out]; exact HB.out⟩
 have t0 : (x.toList == nsW.toList) = false := text_beq_no h0
 rw [nsW_list] at t0
 by_cases h1 : x = ncW
 ·
  have t1 : (x.toList == ncW.toList) = true := (text_beq _ _).2 h1
  rw [ncW_list] at t1
  rw [if_neg h0, if_pos h1] at hc
  subst hc
  clear h1 h0
  dsimp only at m0 m1 m2 m3 m4 m5 HB
  go_enter Tryz.func225, Tryz.ntmps225
  go_upto_region 1 with fail
  rw [HW1.out, ← hH]
  clear hH HW1
  go_wp2_with fail
  refine bodyPost_ret (v := (saidF x).v) (by rw [HC.out]; simp [results, Tryz.results225, go_sem, m0, m1, m2, m3, m4, m5, CcD.v]) rfl ?_
  exact ⟨rfl, by rw [HW.out]; exact HB.out⟩
 have t1 : (x.toList == ncW.toList) = false := text_beq_no h1
 rw [ncW_list] at t1
 by_cases h2 : x = prW
 ·
  have t2 : (x.toList == prW.toList) = true := (text_beq _ _).2 h2
  rw [prW_list] at t2
  rw [if_neg h0, if_neg h1, if_pos h2] at hc
  subst hc
  clear h2 h0 h1
  dsimp only at m0 m1 m2 m3 m4 m5 HB
  go_enter Tryz.func225, Tryz.ntmps225
  go_upto_region 1 with fail
  rw [HW1.out, ← hH]
  clear hH HW1
  go_wp2_with fail
  refine bodyPost_ret (v := (saidF x).v) (by rw [HC.out]; simp [results, Tryz.results225, go_sem, m0, m1, m2, m3, m4, m5, CcD.v]) rfl ?_
  exact ⟨rfl, by rw [HW.out]; exact HB.out⟩
 have t2 : (x.toList == prW.toList) = false := text_beq_no h2
 rw [prW_list] at t2
 by_cases h4 : x = muW
 ·
  have t3 : (x.toList == muW.toList) = true := (text_beq _ _).2 h4
  rw [muW_list] at t3
  rw [if_neg h0, if_neg h1, if_neg h2, if_pos h4] at hc
  subst hc
  clear h4 h0 h1 h2
  dsimp only at m0 m1 m2 m3 m4 m5 HB
  go_enter Tryz.func225, Tryz.ntmps225
  go_upto_region 1 with fail
  rw [HW1.out, ← hH]
  clear hH HW1
  go_wp2_with fail
  refine bodyPost_ret (v := (saidF x).v) (by rw [HC.out]; simp [results, Tryz.results225, go_sem, m0, m1, m2, m3, m4, m5, CcD.v]) rfl ?_
  exact ⟨rfl, by rw [HW.out]; exact HB.out⟩
 have t3 : (x.toList == muW.toList) = false := text_beq_no h4
 rw [muW_list] at t3
 rw [if_neg h0, if_neg h1, if_neg h2, if_neg h4] at hc
 subst hc
 clear h0 h1 h2 h4
 dsimp only [cc0] at m0 m1 m2 m3 m4 m5 HB
 go_enter Tryz.func225, Tryz.ntmps225
 go_upto_region 1 with fail
 rw [HW1.out, ← hH]
 clear hH HW1
 go_wp2_with fail
 refine bodyPost_ret (v := (saidF x).v) (by rw [HC.out]; simp [results, Tryz.results225, go_sem, m0, m1, m2, m3, m4, m5, CcD.v, cc0]) rfl ?_
 exact ⟨rfl, by rw [HW.out]; exact HB.out⟩
end Go.Proofs.YtbmhonfgffjpcaaGreat
namespace Go.Proofs.YtbmhonfgffjpcaaGreat
open Go.RowKit
open Go.Lib hiding intOf
theorem pre_age {x : ByteArray} (h : Lib.hasPrefix x.data.toList maW.data.toList = true) : ageOf x = some (numV ⟨(Lib.trimPrefix x.data.toList maW.data.toList).toArray⟩) := by
 unfold ageOf
 have e : (bs x).take 8 = bs maW := by
  have := List.isPrefixOf_iff_prefix.1 h
  obtain ⟨t, ht⟩ := this
  show x.data.toList.take 8 = _
  rw [← ht]
  rfl
 rw [if_pos e]
 unfold Lib.trimPrefix
 rw [if_pos h]
 rfl
theorem pre_none {x : ByteArray} (h : Lib.hasPrefix x.data.toList maW.data.toList = false) : ageOf x = none := by
 unfold ageOf
 rw [if_neg]
 intro e
 have : Lib.hasPrefix x.data.toList maW.data.toList = true := by
  refine List.isPrefixOf_iff_prefix.2 ⟨x.data.toList.drop 8, ?_⟩
  have e' : x.data.toList.take 8 = maW.data.toList := e
  rw [← e', List.take_append_drop]
 rw [this] at h
 cases h
theorem saidBy_any (x : ByteArray) (w : World) (hs : x.size ≤ 4000000) :
  Calls Tryz.prog 215 #[.string x] w fun e w' => e = .returned (saidB x).v ∧ Below w.heap.size w w' := by
 have HR0 : Hid (CcAt (w.alloc (.cells cc0.cs 190)) w.heap.size cc0) := heap_alloc_new w _
 have HB0 : Hid (Below w.heap.size w (w.alloc (.cells cc0.cs 190))) := (Below.refl _ _).alloc (Nat.le_refl _) _
 obtain ⟨W1, hW1⟩ := exq (w.alloc (.cells cc0.cs 190))
 have HW1 : Hid (w.alloc (.cells #[.bool false, .bool false, .bool false, .bool false, .bool false, .int .i64 0] 190) = W1) := hW1.symm
 rw [← hW1] at HR0 HB0
 obtain ⟨H, hH⟩ := exq (w.heap.size)
 have HW : Hid (w.heap.size = H) := hH.symm
 rw [← hH] at HR0 HB0
 clear hW1
 cases hp : Lib.hasPrefix x.data.toList maW.data.toList with
 | true =>
  have HA : Hid _ := pre_age hp
  obtain ⟨t, ht⟩ : ∃ t : ByteArray, t = ⟨(Lib.trimPrefix x.data.toList maW.data.toList).toArray⟩ := ⟨_, rfl⟩
  have hts : t.size ≤ maxLen := by
   rw [ht]
   unfold Lib.trimPrefix maxLen
   rw [if_pos hp]
   show (List.toArray _).size ≤ _
   simp
   omega
  rw [← ht] at HA
  have HT : Hid (⟨(Lib.trimPrefix x.data.toList maW.data.toList).toArray⟩ = t) := ht.symm
  clear ht
  go_enter Tryz.func215, Tryz.ntmps215
  go_wp2_with fail
  rw [HW1.out, ← hH]
  refine (Tryz.strings_CutPrefix x maW _).mono ?_
  rintro e w1 ⟨rfl, rfl⟩
  rw [hp, HT.out]
  clear hp hH HW1
  go_wp2_with fail
  refine (implNumRead_any t _ hts).mono ?_
  rintro e w2 ⟨b, n, rfl, hb1, hb2, hb3, b2⟩
  have HV : Hid (numV t = n) := by
   show _ = _
   unfold numV
   cases b with
   | true => rw [if_pos (hb1.1 rfl), hb2 rfl]
   | false => rw [if_neg (fun h => nomatch hb1.2 h), hb3 rfl]
  obtain ⟨c, hc⟩ : ∃ c : CcD, c = ⟨false, false, false, false, true, n⟩ := ⟨_, rfl⟩
  have HC : Hid (saidB x = c) := by show _ = _; unfold saidB; rw [HA.out, HV.out, hc]
  have hR := HR0.out.same (b2.block _ HR0.out.lt)
  have HB : Hid (Below H w (putCc w2 H c)) := below_putCc (HB0.out.trans (b2.mono (Nat.le_of_lt HR0.out.lt))) (Nat.le_refl _) c
  obtain ⟨r0, r1, r2, r3, r4, r5⟩ := hR.cells
  have f0 := hR.frozen 0
  have f1 := hR.frozen 1
  have f2 := hR.frozen 2
  have f3 := hR.frozen 3
  have f4 := hR.frozen 4
  have f5 := hR.frozen 5
  obtain ⟨m0, m1, m2, m3, m4, m5⟩ := (hR.putAll c).cells
  unfold putCc at m0 m1 m2 m3 m4 m5 HB
  subst hc
  dsimp only at m0 m1 m2 m3 m4 m5 HB
  clear hb1 hb2 hb3 hR b2 HR0 HB0 HA
  go_wp2_with fail
  refine bodyPost_ret (v := CcD.v ⟨false, false, false, false, true, n⟩) (by simp [results, Tryz.results215, go_sem, m0, m1, m2, m3, m4, m5, CcD.v]) rfl ?_
  exact ⟨by rw [HC.out], by rw [HW.out]; exact HB.out⟩
 | false =>
  have HA : Hid (saidB x = saidF x) := by show _ = _; unfold saidB; rw [pre_none hp]
  go_enter Tryz.func215, Tryz.ntmps215
  go_wp2_with fail
  rw [HW1.out, ← hH]
  refine (Tryz.strings_CutPrefix x maW _).mono ?_
  rintro e w1 ⟨rfl, rfl⟩
  rw [hp]
  clear hp hH HW1
  go_wp2_with fail
  refine (saidByFlag_any x _).mono ?_
  rintro e w2 ⟨rfl, b2⟩
  obtain ⟨c, hc⟩ := exq (saidF x)
  rw [← hc] at HA ⊢
  have hR := HR0.out.same (b2.block _ HR0.out.lt)
  have HB : Hid (Below H w (putCc w2 H c)) := below_putCc (HB0.out.trans (b2.mono (Nat.le_of_lt HR0.out.lt))) (Nat.le_refl _) c
  obtain ⟨r0, r1, r2, r3, r4, r5⟩ := hR.cells
  have f0 := hR.frozen 0
  have f1 := hR.frozen 1
  have f2 := hR.frozen 2
  have f3 := hR.frozen 3
  have f4 := hR.frozen 4
  have f5 := hR.frozen 5
  obtain ⟨m0, m1, m2, m3, m4, m5⟩ := (hR.putAll c).cells
  unfold putCc at m0 m1 m2 m3 m4 m5 HB
  clear hc hR b2 HR0 HB0
  unfold CcD.v
  go_wp2_with fail
  refine bodyPost_ret (v := c.v) (by simp [results, Tryz.results215, go_sem, m0, m1, m2, m3, m4, m5, CcD.v]) rfl ?_
  exact ⟨by rw [HA.out], by rw [HW.out]; exact HB.out⟩
/-- While words are read, here. -/
structure CiRd (w : World) (H : Nat) (c : CcD) (v : Value) (l : List ByteArray) (wr : World) : Prop where
 res : CcAt wr H cc0
 cur : CcAt wr (H + 1) c
 row : wr.ownsRow (H + 1 + 1) 9 1 v l.length (l.map Value.string)
 low : Below H w wr
theorem CiRd.later {w : World} {H : Nat} {c : CcD} {v : Value} {l : List ByteArray} {wr w' : World} (h : CiRd w H c v l wr) (hb : Below wr.heap.size wr w') : CiRd w H c v l w' :=
 ⟨h.res.same (hb.block _ h.res.lt), h.cur.same (hb.block _ h.cur.lt), owns_below h.row hb (fun _ hg => owns_lt h.row hg), h.low.trans (hb.mono (Nat.le_of_lt h.res.lt))⟩
theorem CiRd.putCc {w : World} {H : Nat} {c : CcD} {v : Value} {l : List ByteArray} {wr : World} (h : CiRd w H c v l wr) (d : CcD) : CiRd w H d v l (putCc wr (H + 1) d) :=
 ⟨h.res.same (putCc_other (by omega)), h.cur.putAll d, owns_same h.row (fun j hj => putCc_other (by have := (own_ltR h.row hj).1; omega)), below_putCc h.low (by omega) d⟩
theorem implCcRead_any (s : ByteArray) (w : World) (hs : s.size ≤ 1048576) :
  Calls Tryz.prog 207 #[.string s] w fun e w' => e = .returned (ccR s).v ∧ Below w.heap.size w w' := by
 obtain ⟨H, hH⟩ := exq (w.heap.size)
 have HW : Hid (w.heap.size = H) := hH.symm
 obtain ⟨W0, hW0⟩ := exq ((w.alloc (.cells cc0.cs 190)).alloc (.cells cc0.cs 190))
 have HA : Hid (CcAt W0 H cc0 ∧ CcAt W0 (H + 1) cc0 ∧ Below H w W0 ∧ W0.heap.size = H + 1 + 1) := by
  have e1 := heap_alloc_new w (.cells cc0.cs 190)
  have e2 := heap_alloc_new (w.alloc (.cells cc0.cs 190)) (.cells cc0.cs 190)
  rw [World.size_alloc] at e2
  refine ⟨?_, ?_, ?_, ?_⟩
  · unfold CcAt; rw [hW0, hH, heap_alloc_old _ _ (by simp)]; exact e1
  · unfold CcAt; rw [hW0, hH]; exact e2
  · rw [hW0, hH]; exact ((Below.refl _ w).alloc (Nat.le_refl _) _).alloc (by simp) _
  · rw [hW0, hH]; simp
 have HW0 : Hid ((w.alloc (.cells #[.bool false, .bool false, .bool false, .bool false, .bool false, .int .i64 0] 190)).alloc (.cells #[.bool false, .bool false, .bool false, .bool false, .bool false, .int .i64 0] 190) = W0) := hW0.symm
 clear hW0
 go_enter Tryz.func207, Tryz.ntmps207
 go_wp2_with fail
 rw [HW0.out, ← hH]
 clear hH
 refine (implSplit_any s _ hs).mono ?_
 rintro e w0 ⟨v, rfl, hown, bb⟩
 rw [HA.out.2.2.2] at hown bb
 obtain ⟨l, hl⟩ := exq (splitL s)
 rw [← hl] at hown
 have HLS : Hid (splitL s = l) := hl.symm
 have HLB : Hid (∀ x ∈ l, x.size ≤ 1048576) := fun x hx => by rw [hl] at hx; have := (splitL_le s).2 x hx; omega
 have hll : l.length ≤ 1048577 := by rw [hl]; have := (splitL_le s).1; omega
 have HS1 : Hid (CiRd w H (ccTo (l.take 0)) v l w0) := ⟨HA.out.1.same (bb.block _ (by omega)), HA.out.2.1.same (bb.block _ (by omega)), hown, HA.out.2.2.1.trans (bb.mono (by omega))⟩
 obtain ⟨oa, cp, rfl⟩ := slice_of_owns hown
 obtain ⟨n, hn⟩ := exq l.length
 have HN : Hid (l.length = n) := hn.symm
 rw [← hn] at hll HS1 ⊢
 clear hown bb hl hn
 go_wp2_with fail
 go_loopw [9] (fun i wr => ∃ k : Nat, k ≤ n ∧ i = .int .i64 (k : Int) ∧ Hid (CiRd w H (ccTo (l.take k)) (.slice oa n cp) l wr)) (fun i _ => n - (intOf i).toNat)
 case atStart => exact ⟨0, Nat.zero_le _, rfl, HS1⟩
 case round =>
  obtain ⟨k, hk, rfl, HS⟩ := hrel
  by_cases hlt : (k : Int) < (n : Int)
  ·
   have hkl : k < l.length := by have := HN.out; omega
   obtain ⟨g, rfl⟩ : ∃ g, oa = some ⟨g, 0, none⟩ := by
    rcases HS.out.row.2 with ⟨e, _⟩ | ⟨g, _, _, e, _⟩
    · injection e with _ e2 _; omega
    · injection e with e1 _ _; exact ⟨g, e1⟩
   obtain ⟨x, hx⟩ := exq (l[k]'hkl)
   have hc0 : wr.cell? ⟨g, k, none⟩ = some (.string x) := by
    have hr := HS.out.row
    rw [HN.out] at hr
    exact (owns_cellC hr k (.string x) (by rw [List.getElem?_map, List.getElem?_eq_getElem hkl, hx]; rfl)).1
   have hxs : x.size ≤ 1048576 := by rw [hx]; exact HLB.out _ (List.getElem_mem hkl)
   obtain ⟨y, hy⟩ := exq (lowerOf x)
   have hys : y.size ≤ 4000000 := by rw [hy, ccLow_size]; omega
   have HY : Hid (lowerOf x = y) := hy.symm
   obtain ⟨d, hd⟩ := exq (ccTo (l.take (k + 1)))
   obtain ⟨c, hc⟩ := exq (ccTo (l.take k))
   obtain ⟨u, hu⟩ := exq (saidB y)
   have HSB : Hid (saidB y = u) := hu.symm
   have HTD : Hid (toge c u = d) := by
    show _ = _
    rw [hd, List.take_succ_eq_append_getElem hkl, ccTo_snoc, ← hx, ← hy, step_toge (ccTo_fit _), hc, hu]
   have HTG : Hid (∀ W, Calls Tryz.prog 214 #[.agg #[.bool c.ns, .bool c.nc, .bool c.pr, .bool c.mu, .bool c.ha, .int .i64 c.age], .agg #[.bool u.ns, .bool u.nc, .bool u.pr, .bool u.mu, .bool u.ha, .int .i64 u.age]] W fun e w' => e = .returned (toge c u).v ∧ Below W.heap.size W w') := fun W => together_any c u W
   have HD : Hid (∀ W, CiRd w H d (.slice (some ⟨g, 0, none⟩) n cp) l W → CiRd w H (ccTo (l.take (k + 1))) (.slice (some ⟨g, 0, none⟩) n cp) l W) := fun W h => by rw [← hd]; exact h
   rw [← hc] at HS
   clear hx hy hkl hc hd hu
   have HT1 : Hid (CiRd w H c (.slice (some ⟨g, 0, none⟩) n cp) l wr.drew) := HS.out.later (Below.refl _ _).drew
   go_upto_region 5 with fail
   clear hc0 HS
   refine wp_region_held_drew (S := fun _ => True) (by kernel_rfl) trivial (fun _ => ?_)
   refine wpAnyH_takeD (i := 1) (v := .string x) (some 14) rfl rfl (by kernel_rfl) (by kernel_rfl) (by kernel_rfl) (fun _ _ _ h => h) (Or.inl ⟨by rfl, by intro W _; go_simp⟩) trivial ?_
   go_frame
   refine wpAnyH_ready (rs := [0, 2]) (by kernel_rfl) (by simp) ?_
   refine AllReadyH.cons rfl (fun K hK => ?_) (AllReadyH.cons rfl (fun K hK => ?_) AllReadyH.nil)
   ·
    obtain ⟨q0, q1, q2, q3, q4, q5⟩ := HT1.out.cur.cells
    go_simp
    refine hK.out _ _ trivial (fun _ => ?_)
    clear hK K q0 q1 q2 q3 q4 q5
    refine rd1 2 rfl (fun K hK => ?_)
    go_simp
    refine (implLower_any x _).mono ?_
    rintro e w2 ⟨rfl, hb2⟩
    rw [HY.out]
    have HT2 : Hid (CiRd w H c (.slice (some ⟨g, 0, none⟩) n cp) l w2) := HT1.out.later hb2
    clear hb2
    refine hK.out _ _ trivial (fun _ => ?_)
    clear hK K HT1
    refine rd1 3 rfl (fun K hK => ?_)
    go_simp
    refine (saidBy_any y _ hys).mono ?_
    rintro e w3 ⟨rfl, hb3⟩
    rw [HSB.out]
    unfold CcD.v
    have HT3 : Hid (CiRd w H c (.slice (some ⟨g, 0, none⟩) n cp) l w3) := HT2.out.later hb3
    clear hb3
    refine hK.out _ _ trivial (fun _ => ?_)
    clear hK K HT2
    refine rd1 4 rfl (fun K hK => ?_)
    go_simp
    refine (HTG.out _).mono ?_
    rintro e w4 ⟨rfl, hb4⟩
    rw [HTD.out]
    unfold CcD.v
    have HT4 : Hid (CiRd w H c (.slice (some ⟨g, 0, none⟩) n cp) l w4) := HT3.out.later hb4
    clear hb4
    refine hK.out _ _ trivial (fun _ => ?_)
    clear hK K HT3
    refine rd1 5 rfl (fun K hK => ?_)
    have HZ : Hid (CiRd w H d (.slice (some ⟨g, 0, none⟩) n cp) l (putCc w4 (H + 1) d)) := HT4.out.putCc d
    obtain ⟨q0, q1, q2, q3, q4, q5⟩ := HT4.out.cur.cells
    have f0 := HT4.out.cur.frozen 0
    have f1 := HT4.out.cur.frozen 1
    have f2 := HT4.out.cur.frozen 2
    have f3 := HT4.out.cur.frozen 3
    have f4 := HT4.out.cur.frozen 4
    have f5 := HT4.out.cur.frozen 5
    unfold putCc at HZ
    clear HT4
    go_simp
    refine hK.out _ _ trivial (fun _ => ?_)
    clear hK K q0 q1 q2 q3 q4 q5 f0 f1 f2 f3 f4 f5
    refine wpAnyH_done (by kernel_rfl) ?_ _
    go_wp2_with fail
    go_roundw
    case rel => exact ⟨k + 1, by omega, by go_num, HD.out _ HZ.out⟩
    case measure => simp [intOf]; omega
   ·
    go_simp
    refine (implLower_any x _).mono ?_
    rintro e w2 ⟨rfl, hb2⟩
    rw [HY.out]
    have HT2 : Hid (CiRd w H c (.slice (some ⟨g, 0, none⟩) n cp) l w2) := HT1.out.later hb2
    clear hb2
    refine hK.out _ _ trivial (fun _ => ?_)
    clear hK K HT1
    refine wpAnyH_ready (rs := [0, 3]) (by kernel_rfl) (by simp) ?_
    refine AllReadyH.cons rfl (fun K hK => ?_) (AllReadyH.cons rfl (fun K hK => ?_) AllReadyH.nil)
    ·
     obtain ⟨q0, q1, q2, q3, q4, q5⟩ := HT2.out.cur.cells
     go_simp
     refine hK.out _ _ trivial (fun _ => ?_)
     clear hK K q0 q1 q2 q3 q4 q5
     refine rd1 3 rfl (fun K hK => ?_)
     go_simp
     refine (saidBy_any y _ hys).mono ?_
     rintro e w3 ⟨rfl, hb3⟩
     rw [HSB.out]
     unfold CcD.v
     have HT3 : Hid (CiRd w H c (.slice (some ⟨g, 0, none⟩) n cp) l w3) := HT2.out.later hb3
     clear hb3
     refine hK.out _ _ trivial (fun _ => ?_)
     clear hK K HT2
     refine rd1 4 rfl (fun K hK => ?_)
     go_simp
     refine (HTG.out _).mono ?_
     rintro e w4 ⟨rfl, hb4⟩
     rw [HTD.out]
     unfold CcD.v
     have HT4 : Hid (CiRd w H c (.slice (some ⟨g, 0, none⟩) n cp) l w4) := HT3.out.later hb4
     clear hb4
     refine hK.out _ _ trivial (fun _ => ?_)
     clear hK K HT3
     refine rd1 5 rfl (fun K hK => ?_)
     have HZ : Hid (CiRd w H d (.slice (some ⟨g, 0, none⟩) n cp) l (putCc w4 (H + 1) d)) := HT4.out.putCc d
     obtain ⟨q0, q1, q2, q3, q4, q5⟩ := HT4.out.cur.cells
     have f0 := HT4.out.cur.frozen 0
     have f1 := HT4.out.cur.frozen 1
     have f2 := HT4.out.cur.frozen 2
     have f3 := HT4.out.cur.frozen 3
     have f4 := HT4.out.cur.frozen 4
     have f5 := HT4.out.cur.frozen 5
     unfold putCc at HZ
     clear HT4
     go_simp
     refine hK.out _ _ trivial (fun _ => ?_)
     clear hK K q0 q1 q2 q3 q4 q5 f0 f1 f2 f3 f4 f5
     refine wpAnyH_done (by kernel_rfl) ?_ _
     go_wp2_with fail
     go_roundw
     case rel => exact ⟨k + 1, by omega, by go_num, HD.out _ HZ.out⟩
     case measure => simp [intOf]; omega
    ·
     go_simp
     refine (saidBy_any y _ hys).mono ?_
     rintro e w3 ⟨rfl, hb3⟩
     rw [HSB.out]
     unfold CcD.v
     have HT3 : Hid (CiRd w H c (.slice (some ⟨g, 0, none⟩) n cp) l w3) := HT2.out.later hb3
     clear hb3
     refine hK.out _ _ trivial (fun _ => ?_)
     clear hK K HT2
     refine rd1 0 rfl (fun K hK => ?_)
     obtain ⟨q0, q1, q2, q3, q4, q5⟩ := HT3.out.cur.cells
     go_simp
     refine hK.out _ _ trivial (fun _ => ?_)
     clear hK K q0 q1 q2 q3 q4 q5
     refine rd1 4 rfl (fun K hK => ?_)
     go_simp
     refine (HTG.out _).mono ?_
     rintro e w4 ⟨rfl, hb4⟩
     rw [HTD.out]
     unfold CcD.v
     have HT4 : Hid (CiRd w H c (.slice (some ⟨g, 0, none⟩) n cp) l w4) := HT3.out.later hb4
     clear hb4
     refine hK.out _ _ trivial (fun _ => ?_)
     clear hK K HT3
     refine rd1 5 rfl (fun K hK => ?_)
     have HZ : Hid (CiRd w H d (.slice (some ⟨g, 0, none⟩) n cp) l (putCc w4 (H + 1) d)) := HT4.out.putCc d
     obtain ⟨q0, q1, q2, q3, q4, q5⟩ := HT4.out.cur.cells
     have f0 := HT4.out.cur.frozen 0
     have f1 := HT4.out.cur.frozen 1
     have f2 := HT4.out.cur.frozen 2
     have f3 := HT4.out.cur.frozen 3
     have f4 := HT4.out.cur.frozen 4
     have f5 := HT4.out.cur.frozen 5
     unfold putCc at HZ
     clear HT4
     go_simp
     refine hK.out _ _ trivial (fun _ => ?_)
     clear hK K q0 q1 q2 q3 q4 q5 f0 f1 f2 f3 f4 f5
     refine wpAnyH_done (by kernel_rfl) ?_ _
     go_wp2_with fail
     go_roundw
     case rel => exact ⟨k + 1, by omega, by go_num, HD.out _ HZ.out⟩
     case measure => simp [intOf]; omega
  ·
   obtain rfl : k = n := by omega
   have HE : Hid (ccTo (l.take k) = ccR s) := by
    show _ = _
    rw [List.take_of_length_le (by rw [HN.out]; exact Nat.le_refl _)]
    unfold ccR
    rw [HLS.out]
   rw [HE.out] at HS
   obtain ⟨c, hc⟩ := exq (ccR s)
   rw [← hc] at HS
   have HC : Hid (c = ccR s) := hc
   obtain ⟨q0, q1, q2, q3, q4, q5⟩ := HS.out.cur.cells
   obtain ⟨r0, r1, r2, r3, r4, r5⟩ := HS.out.res.cells
   have f0 := HS.out.res.frozen 0
   have f1 := HS.out.res.frozen 1
   have f2 := HS.out.res.frozen 2
   have f3 := HS.out.res.frozen 3
   have f4 := HS.out.res.frozen 4
   have f5 := HS.out.res.frozen 5
   obtain ⟨m0, m1, m2, m3, m4, m5⟩ := (HS.out.res.putAll c).cells
   have HB : Hid (Below H w (putCc wr H c)) := below_putCc HS.out.low (Nat.le_refl _) c
   clear hc HE
   unfold putCc at m0 m1 m2 m3 m4 m5 HB
   go_wp2_with fail
   refine bodyPost_ret (v := c.v) (by simp [results, Tryz.results207, go_sem, m0, m1, m2, m3, m4, m5, CcD.v]) rfl ?_
   exact ⟨by rw [HC.out], by rw [HW.out]; exact HB.out⟩
theorem implCcOf_any (v : Value) (n base : Nat) (fs : List (ByteArray × ByteArray)) (w : World) (hv : FieldsV w base v n fs) (hn : n ≤ 1073741824) (hcp : CopyF fs) (hsz : (getV fs ccName).size ≤ 1048576) :
  Calls Tryz.prog 192 #[v] w fun e w' => e = .returned (ccR (getV fs ccName)).v ∧ Below w.heap.size w w' := by
 have hv1 : FieldsV (w.alloc (.cells cc0.cs 190)) base v n fs := hv.below ((Below.refl _ _).alloc (Nat.le_refl _) _)
 have HR0 : Hid (CcAt (w.alloc (.cells cc0.cs 190)) w.heap.size cc0) := heap_alloc_new w _
 have HB0 : Hid (Below w.heap.size w (w.alloc (.cells cc0.cs 190))) := (Below.refl _ _).alloc (Nat.le_refl _) _
 obtain ⟨t, ht⟩ := exq (getV fs ccName)
 have HT : Hid (getV fs ccName = t) := ht.symm
 rw [← ht] at hsz
 obtain ⟨c, hc⟩ := exq (ccR t)
 have HC : Hid (ccR t = c) := hc.symm
 rw [← ht, ← hc]
 clear ht hc hv
 go_enter Tryz.func192, Tryz.ntmps192
 go_wp2_with fail
 refine (implGet_any v n base fs ccName _ hv1 hn hcp).mono ?_
 rintro e w1 ⟨rfl, b1⟩
 rw [HT.out]
 have HR1 : Hid (CcAt w1 w.heap.size cc0) := HR0.out.same (b1.block _ HR0.out.lt)
 have HB1 : Hid (Below w.heap.size w w1) := HB0.out.trans (b1.mono (Nat.le_of_lt HR0.out.lt))
 clear hv1 b1 HR0 HB0
 go_wp2_with fail
 refine (implCcRead_any t _ hsz).mono ?_
 rintro e w2 ⟨rfl, b2⟩
 rw [HC.out]
 have hR := HR1.out.same (b2.block _ HR1.out.lt)
 obtain ⟨r0, r1, r2, r3, r4, r5⟩ := hR.cells
 have f0 := hR.frozen 0
 have f1 := hR.frozen 1
 have f2 := hR.frozen 2
 have f3 := hR.frozen 3
 have f4 := hR.frozen 4
 have f5 := hR.frozen 5
 obtain ⟨m0, m1, m2, m3, m4, m5⟩ := (hR.putAll c).cells
 have HB : Hid (Below w.heap.size w (putCc w2 w.heap.size c)) := below_putCc (HB1.out.trans (b2.mono (Nat.le_of_lt HR1.out.lt))) (Nat.le_refl _) c
 unfold putCc at m0 m1 m2 m3 m4 m5 HB
 clear hR b2 HR1 HB1
 unfold CcD.v
 go_wp2_with fail
 refine bodyPost_ret (v := c.v) (by simp [results, Tryz.results192, go_sem, m0, m1, m2, m3, m4, m5, CcD.v]) rfl ?_
 exact ⟨rfl, HB.out⟩
end Go.Proofs.YtbmhonfgffjpcaaGreat
namespace Go.Proofs.YtbmhonfgffjpcaaGreat
open Go.RowKit
open Go.Lib hiding intOf
theorem isRightGet_any (m : Int) (p : ByteArray) (v : Value) (b : ByteArray) (n base : Nat) (fs : List (ByteArray × ByteArray)) (w : World) (hv : FieldsV w base v n fs) (hn : n ≤ 1073741824) (hsz : WalkF n fs) (hp : p.size ≤ maxLen) (hb : b.size ≤ maxLen) :
  Calls Tryz.prog 191 #[.agg #[.int .i64 m, .string p, v, .string b]] w fun e w' => BoolIs (ReqP m p fs b ∧ m = 1) w e w' := by
 obtain ⟨oa, cap, rfl, _⟩ := hv.slice
 obtain ⟨r, hr⟩ := exq (w.heap.size)
 obtain ⟨W1, hW1⟩ := exq (w.alloc (.cells #[.int .i64 m, .string p, .slice oa n cap, .string b] 62))
 have HW1 : Hid (w.alloc (.cells #[.int .i64 m, .string p, .slice oa n cap, .string b] 62) = W1) := hW1.symm
 have H1 : Hid (W1.heap[r]? = some (.cells #[.int .i64 m, .string p, .slice oa n cap, .string b] 62)) := by show _ = _; rw [hW1, hr]; exact heap_alloc_new w _
 have HB1 : Hid (Below w.heap.size w W1) := by show Below _ _ _; rw [hW1]; exact (Below.refl _ _).alloc (Nat.le_refl _) _
 have hv1 := hv.below HB1.out
 obtain ⟨⟨c0, c1, c2, c3⟩, _⟩ := four_facts H1.out
 clear hW1 hv
 go_enter Tryz.func191, Tryz.ntmps191
 go_upto_region 1 with fail
 rw [HW1.out, ← hr]
 clear hr HW1
 go_wp2_with fail
 refine (implReqOk_any m p _ b n base fs _ hv1 hn hsz hp hb).mono ?_
 rintro e w2 ⟨t, rfl, ht, b2⟩
 have HB2 : Hid (Below w.heap.size w w2) := HB1.out.trans (b2.mono HB1.out.size)
 have H2 : Hid (w2.heap[r]? = some (.cells #[.int .i64 m, .string p, .slice oa n cap, .string b] 62)) := by show _ = _; rw [b2.block r (Array.getElem?_eq_some_iff.1 H1.out).1]; exact H1.out
 clear c0 c1 c2 c3 hv1 H1 HB1 b2
 cases t with
 | false =>
  have HF : Hid (¬ (ReqP m p fs b ∧ m = 1)) := fun h => nomatch ht.2 h.1
  clear ht
  go_wp2_with fail
  go_ret
  exact BoolIs.no HF.out HB2.out
 | true =>
  have HQ : Hid (ReqP m p fs b) := ht.1 rfl
  obtain ⟨⟨c0, _⟩, _⟩ := four_facts H2.out
  have HT : Hid ((m == 1) = true ↔ (ReqP m p fs b ∧ m = 1)) := by show _ ↔ _; simp [HQ.out]
  clear ht HQ H2
  go_wp2_with fail
  go_ret
  exact ⟨_, rfl, HT.out, HB2.out⟩
end Go.Proofs.YtbmhonfgffjpcaaGreat
namespace Go.Proofs.YtbmhonfgffjpcaaGreat
open Go.RowKit
open Go.Lib hiding intOf
theorem mayBeFromHere_any (ma : Int) (pa : ByteArray) (va : Value) (ba : ByteArray) (na basea : Nat) (fsa : List (ByteArray × ByteArray)) (w : World) (hva : FieldsV w basea va na fsa) (hna : na ≤ 1048576) (hsa : WalkF na fsa) (hpa : pa.size ≤ maxLen) (hba : ba.size ≤ maxLen) (hga : ∀ x, (getV fsa x).size ≤ 1048576) (hca : CopyF fsa) :
  Calls Tryz.prog 163 #[.agg #[.int .i64 ma, .string pa, va, .string ba]] w fun e w' => BoolIs (HereP ma pa fsa ba) w e w' := by
 obtain ⟨oa, ca, hsl, _⟩ := hva.slice
 subst hsl
 have HVa : Hid (∀ W, Below w.heap.size w W → FieldsV W basea (.slice oa na ca) na fsa) := fun W h => hva.below h
 have HLFa : Hid (fsa.length = na) := hva.len
 have HSa : Hid (WalkF na fsa) := hsa
 have HPMa : Hid (pa.size ≤ maxLen) := hpa
 have HBMa : Hid (ba.size ≤ maxLen) := hba
 have HQVa : Hid (∀ x, (getV fsa x).size ≤ 1048576) := hga
 have HCa : Hid (CopyF fsa) := hca
 clear hva hsa hpa hba hga hca
 obtain ⟨ka, hka⟩ := exq (ccR (getV fsa ccName))
 have HCCa : Hid (∀ W, Below w.heap.size w W → Calls Tryz.prog 192 #[.slice oa na ca] W fun e w' => e = .returned (.agg #[.bool ka.ns, .bool ka.nc, .bool ka.pr, .bool ka.mu, .bool ka.ha, .int .i64 ka.age]) ∧ Below W.heap.size W w') := fun W hW => by
  have h := implCcOf_any _ na basea fsa W (HVa.out W hW) (by omega) HCa.out (HQVa.out _)
  rw [← hka] at h
  exact h
 have HCKa : Hid (ccR (getV fsa ccName) = ka) := hka.symm
 clear hka
 obtain ⟨xa0, xa1, xa2, xa3, xa4, xa5⟩ := ka
 dsimp only at HCCa
 have hfna := fun W => cc_ns xa0 xa1 xa2 xa3 xa4 xa5 W
 have hfca := fun W => cc_nc xa0 xa1 xa2 xa3 xa4 xa5 W
 have hb0 : Below w.heap.size w w := Below.refl _ _
 go_enter Tryz.func163, Tryz.ntmps163
 go_upto_region 1 with fail
 obtain ⟨qv1, hqv1⟩ := exq ((w).heap.size)
 obtain ⟨w1, hW1⟩ := exq ((w).alloc (.cells #[.int .i64 ma, .string pa, .slice oa na ca, .string ba] 62))
 have hz1 : (w).heap.size = qv1 := hqv1.symm
 first | rw [← hW1, ← hqv1] | rw [← hW1]
 have hs1 := hsa hW1 hz1
 have bw := bal hW1
 have hb1 := hbt hb0 bw
 have HBv1_1 := hnew hW1 hz1
 clear hb0 bw hW1 hz1
 clear hs1 hqv1
 have cv1_0 := (k4c HBv1_1).1
 have cv1_1 := (k4c HBv1_1).2.1
 have cv1_2 := (k4c HBv1_1).2.2.1
 have cv1_3 := (k4c HBv1_1).2.2.2
 go_wp2_with fail
 refine (isRightGet_any ma pa _ ba na basea fsa _ (HVa.out _ hb1) (by omega) HSa.out HPMa.out HBMa.out).mono ?_
 rintro e w2 ⟨rg, rfl, hrg, bw⟩
 have hb2 := hbt hb1 bw
 have HBv1_2 := hblk HBv1_1 bw
 clear hb1 HBv1_1 bw
 clear cv1_0 cv1_1 cv1_2 cv1_3
 cases rg with
 | false =>
  have HNrg : Hid (¬ (ReqP ma pa fsa ba ∧ ma = 1)) := fun h => nomatch hrg.2 h
  clear hrg
  go_wp2_with fail
  go_ret
  exact BoolIs.no (fun h => HNrg.out h.1) hb2
 | true =>
  have HYrg : Hid (ReqP ma pa fsa ba ∧ ma = 1) := hrg.1 rfl
  clear hrg
  have cv1_2 := (k4c HBv1_2).2.2.1
  go_wp2_with fail
  refine (HCCa.out _ hb2).mono ?_
  rintro e w3 ⟨rfl, bw⟩
  have hb3 := hbt hb2 bw
  have HBv1_3 := hblk HBv1_2 bw
  clear hb2 HBv1_2 bw
  clear cv1_2
  cases xa0 with
  | false =>
   have HXNa : Hid ((ccR (getV fsa ccName)).ns = false) := by show _ = _; rw [HCKa.out]
   go_wp2_with fail
   go_ret
   exact BoolIs.yes ⟨HYrg.out, HXNa.out⟩ hb3
  | true =>
   have HXNa : Hid ((ccR (getV fsa ccName)).ns = true) := by show _ = _; rw [HCKa.out]
   go_wp2_with fail
   go_ret
   exact BoolIs.no (fun h => by have h1 := h.2; rw [HXNa.out] at h1; exact absurd h1 (by decide)) hb3
end Go.Proofs.YtbmhonfgffjpcaaGreat
namespace Go.Proofs.YtbmhonfgffjpcaaGreat
open Go.RowKit
open Go.Lib hiding intOf
theorem implAlike_any (ma : Int) (pa : ByteArray) (va : Value) (ba : ByteArray) (na basea : Nat) (fsa : List (ByteArray × ByteArray)) (mb : Int) (pb : ByteArray) (vb : Value) (bb : ByteArray) (nb baseb : Nat) (fsb : List (ByteArray × ByteArray)) (w : World) (hva : FieldsV w basea va na fsa) (hna : na ≤ 1048576) (hsa : WalkF na fsa) (hpa : pa.size ≤ maxLen) (hba : ba.size ≤ maxLen) (hga : ∀ x, (getV fsa x).size ≤ 1048576) (hca : CopyF fsa) (hvb : FieldsV w baseb vb nb fsb) (hnb : nb ≤ 1048576) (hsb : WalkF nb fsb) (hpb : pb.size ≤ maxLen) (hbb : bb.size ≤ maxLen) (hgb : ∀ x, (getV fsb x).size ≤ 1048576) (hcb : CopyF fsb) :
  Calls Tryz.prog 139 #[.agg #[.int .i64 ma, .string pa, va, .string ba], .agg #[.int .i64 mb, .string pb, vb, .string bb]] w fun e w' => BoolIs (AlikeP ma pa fsa ba mb pb fsb bb) w e w' := by
 obtain ⟨oa, ca, hsl, _⟩ := hva.slice
 subst hsl
 have HVa : Hid (∀ W, Below w.heap.size w W → FieldsV W basea (.slice oa na ca) na fsa) := fun W h => hva.below h
 have HLFa : Hid (fsa.length = na) := hva.len
 have HSa : Hid (WalkF na fsa) := hsa
 have HPMa : Hid (pa.size ≤ maxLen) := hpa
 have HBMa : Hid (ba.size ≤ maxLen) := hba
 have HQVa : Hid (∀ x, (getV fsa x).size ≤ 1048576) := hga
 have HCa : Hid (CopyF fsa) := hca
 clear hva hsa hpa hba hga hca
 obtain ⟨ob, cb, hsl, _⟩ := hvb.slice
 subst hsl
 have HVb : Hid (∀ W, Below w.heap.size w W → FieldsV W baseb (.slice ob nb cb) nb fsb) := fun W h => hvb.below h
 have HLFb : Hid (fsb.length = nb) := hvb.len
 have HSb : Hid (WalkF nb fsb) := hsb
 have HPMb : Hid (pb.size ≤ maxLen) := hpb
 have HBMb : Hid (bb.size ≤ maxLen) := hbb
 have HQVb : Hid (∀ x, (getV fsb x).size ≤ 1048576) := hgb
 have HCb : Hid (CopyF fsb) := hcb
 clear hvb hsb hpb hbb hgb hcb
 have hb0 : Below w.heap.size w w := Below.refl _ _
 go_enter Tryz.func139, Tryz.ntmps139
 go_upto_region 1 with fail
 obtain ⟨qv1, hqv1⟩ := exq ((w).heap.size)
 obtain ⟨w1, hW1⟩ := exq ((w).alloc (.cells #[.int .i64 ma, .string pa, .slice oa na ca, .string ba] 62))
 have hz1 : (w).heap.size = qv1 := hqv1.symm
 first | rw [← hW1, ← hqv1] | rw [← hW1]
 have hs1 := hsa hW1 hz1
 have bw := bal hW1
 have hb1 := hbt hb0 bw
 have HBv1_1 := hnew hW1 hz1
 clear hb0 bw hW1 hz1
 obtain ⟨qv2, hqv2⟩ := exq (qv1 + 1)
 obtain ⟨w2, hW2⟩ := exq ((w1).alloc (.cells #[.int .i64 mb, .string pb, .slice ob nb cb, .string bb] 62))
 have hz2 : (w1).heap.size = qv2 := by rw [hqv2]; exact hs1
 first | rw [← hW2, ← hqv2] | rw [← hW2]
 have hs2 := hsa hW2 hz2
 have bw := bal hW2
 have hb2 := hbt hb1 bw
 have HBv1_2 := hblk HBv1_1 bw
 have HBv2_2 := hnew hW2 hz2
 clear hb1 HBv1_1 bw hW2 hz2
 clear hs2 hqv2 hs1 hqv1
 have cv1_0 := (k4c HBv1_2).1
 have cv1_1 := (k4c HBv1_2).2.1
 have cv1_2 := (k4c HBv1_2).2.2.1
 have cv1_3 := (k4c HBv1_2).2.2.2
 go_wp2_with fail
 refine (mayBeFromHere_any ma pa _ ba na basea fsa _ (HVa.out _ hb2) (by omega) HSa.out HPMa.out HBMa.out HQVa.out HCa.out).mono ?_
 rintro e w3 ⟨ha, rfl, hha, bw⟩
 have hb3 := hbt hb2 bw
 have HBv1_3 := hblk HBv1_2 bw
 have HBv2_3 := hblk HBv2_2 bw
 clear hb2 HBv1_2 HBv2_2 bw
 clear cv1_0 cv1_1 cv1_2 cv1_3
 cases ha with
 | false =>
  have HNha : Hid (¬ (HereP ma pa fsa ba)) := fun h => nomatch hha.2 h
  clear hha
  go_wp2_with fail
  go_ret
  exact BoolIs.no (fun h => HNha.out h.1.1) hb3
 | true =>
  have HYha : Hid (HereP ma pa fsa ba) := hha.1 rfl
  clear hha
  have cv2_0 := (k4c HBv2_3).1
  have cv2_1 := (k4c HBv2_3).2.1
  have cv2_2 := (k4c HBv2_3).2.2.1
  have cv2_3 := (k4c HBv2_3).2.2.2
  go_wp2_with fail
  refine (mayBeFromHere_any mb pb _ bb nb baseb fsb _ (HVb.out _ hb3) (by omega) HSb.out HPMb.out HBMb.out HQVb.out HCb.out).mono ?_
  rintro e w4 ⟨hb, rfl, hhb, bw⟩
  have hb4 := hbt hb3 bw
  have HBv1_4 := hblk HBv1_3 bw
  have HBv2_4 := hblk HBv2_3 bw
  clear hb3 HBv1_3 HBv2_3 bw
  clear cv2_0 cv2_1 cv2_2 cv2_3
  cases hb with
  | false =>
   have HNhb : Hid (¬ (HereP mb pb fsb bb)) := fun h => nomatch hhb.2 h
   clear hhb
   go_wp2_with fail
   go_ret
   exact BoolIs.no (fun h => HNhb.out h.1.2) hb4
  | true =>
   have HYhb : Hid (HereP mb pb fsb bb) := hhb.1 rfl
   clear hhb
   by_cases hc1 : pa = pb
   ·
    have hc1b : ((pa).toList == (pb).toList) = true := (text_beq _ _).2 hc1
    have HPP : Hid ((pa = pb)) := hc1
    clear hc1
    have cv1_1 := (k4c HBv1_4).2.1
    have cv1_2 := (k4c HBv1_4).2.2.1
    have cv2_1 := (k4c HBv2_4).2.1
    have cv2_2 := (k4c HBv2_4).2.2.1
    go_wp2_with fail
    refine (equalFld_any _ _ na nb _ _ fsa fsb _ (HVa.out _ hb4) (HVb.out _ hb4) (by omega) (by omega)).mono ?_
    rintro e w5 ⟨lf, rfl, hlf, bw⟩
    have hb5 := hbt hb4 bw
    have HBv1_5 := hblk HBv1_4 bw
    have HBv2_5 := hblk HBv2_4 bw
    clear hb4 HBv1_4 HBv2_4 bw
    clear cv1_1 cv1_2 cv2_1 cv2_2
    cases lf with
    | false =>
     have HNlf : Hid (¬ (fsa = fsb)) := fun h => nomatch hlf.2 h
     clear hlf
     go_wp2_with fail
     go_ret
     exact BoolIs.no (fun h => HNlf.out h.2.2) hb5
    | true =>
     have HYlf : Hid (fsa = fsb) := hlf.1 rfl
     clear hlf
     go_wp2_with fail
     go_ret
     exact BoolIs.yes ⟨⟨HYha.out, HYhb.out⟩, HPP.out, HYlf.out⟩ hb5
   ·
    have hc1b : ((pa).toList == (pb).toList) = false := text_beq_no hc1
    have HPP : Hid (¬ (pa = pb)) := hc1
    clear hc1
    have cv1_1 := (k4c HBv1_4).2.1
    have cv2_1 := (k4c HBv2_4).2.1
    go_wp2_with fail
    go_ret
    exact BoolIs.no (fun h => HPP.out h.2.1) hb4
end Go.Proofs.YtbmhonfgffjpcaaGreat
namespace Go.Proofs.YtbmhonfgffjpcaaGreat
open Go.RowKit
open Go.Lib hiding intOf
/-- What is asked for is right; what is kept of it is. -/
def ReqF (d : FlD) : Prop := ReqP d.qmt d.qpa d.qfs d.qbd
def ObjF (d : FlD) : Prop := ObjP d.opa d.oxs d.oys d.ost d.ofs d.obd d.otm
def AlikeF (d e : FlD) : Prop := AlikeP d.qmt d.qpa d.qfs d.qbd e.qmt e.qpa e.qfs e.qbd
/-- A flight is right. -/
def FlOk (d : FlD) : Prop := ReqF d ∧ (1 ≤ (d.who.length : Int) ∧ (d.who.length : Int) ≤ 5) ∧ (d.has = true → ObjF d)
/-- The one at that place is right, and like none ahead of it. -/
def FlAtOk (fl : List FlD) (i : Nat) : Prop := FlOk (flAt fl i) ∧ ∀ k, k < i → ¬ AlikeF (flAt fl k) (flAt fl i)
def FlsP (fl : List FlD) : Prop := fl.length ≤ 5 ∧ ∀ i, i < fl.length → FlAtOk fl i
/-- A cache is right. -/
def CacheP (c : CaD) : Prop := ShelfP c.s ∧ (0 ≤ c.now ∧ c.now ≤ 1000000) ∧ FlsP c.fl ∧ c.se.length ≤ 1500 ∧ c.sn.length ≤ 1500
theorem flR_req {w : World} {B : Nat} {d : FlD} {u2 u4 u6 u7 u9 : Value} (h : RowsO w B (flR (⟨d, u2, u4, u6, u7, u9⟩ : FlV))) : FieldsV w B u2 d.qfs.length d.qfs := FieldsV.of_owns (h.own (⟨171, 2, u2, d.qfs.length, flatF d.qfs⟩ : Rw) (by simp [flR]))
theorem flR_obj {w : World} {B : Nat} {d : FlD} {u2 u4 u6 u7 u9 : Value} (h : RowsO w B (flR (⟨d, u2, u4, u6, u7, u9⟩ : FlV))) : ObjO w B u6 d.oxs.length d.oxs u7 d.oys.length d.oys u9 d.ofs.length d.ofs :=
 rows_obj3 (RowsO.sub h (by unfold flR; apply List.Sublist.cons; apply List.Sublist.cons; exact List.Sublist.refl _))
theorem specReqOk_f (d : FlD) (u2 u4 u6 u7 u9 : Value) (B : Nat) (w : World) (h : RowsO w B (flR (⟨d, u2, u4, u6, u7, u9⟩ : FlV))) (hs : FlSmall d) :
  Calls Tryz.prog 81 #[.agg #[.int .i64 d.qmt, .string d.qpa, u2, .string d.qbd]] w fun e w' => BoolIs (ReqF d) w e w' :=
 specReqOk_any d.qmt d.qpa u2 d.qbd _ B d.qfs w (flR_req h) (Nat.le_trans hs.qfs.1 (by decide)) (fs_walk hs.qfs.2) (Nat.le_trans hs.qpa (by decide)) (Nat.le_trans hs.qbd (by decide))
theorem specObjOk_f (d : FlD) (u2 u4 u6 u7 u9 : Value) (B : Nat) (w : World) (h : RowsO w B (flR (⟨d, u2, u4, u6, u7, u9⟩ : FlV))) (hs : FlSmall d) :
  Calls Tryz.prog 82 #[.agg #[.string d.opa, u6, u7, .int .i64 d.ost, u9, .string d.obd, .int .i64 d.otm]] w fun e w' => BoolIs (ObjF d) w e w' := by
 have ho := flR_obj h
 obtain ⟨o1, c1, rfl⟩ := slice_of_owns ho.names
 obtain ⟨o2, c2, rfl⟩ := slice_of_owns ho.vals
 exact specObjOk_any d.opa o1 _ c1 d.oxs o2 _ c2 d.oys d.ost u9 _ B d.ofs d.obd d.otm w (texts_view ho.names) (texts_view ho.vals) (FieldsV.of_owns ho.flds) (Nat.le_trans hs.oxs.1 (by decide)) (Nat.le_trans hs.oys.1 (by decide)) (Nat.le_trans hs.ofs.1 (by decide)) (small_text hs.oxs.2) (small_text hs.oys.2) (fs_walk hs.ofs.2) (Nat.le_trans hs.opa (by decide)) (Nat.le_trans hs.obd (by decide)) (fs_get hs.ofs.2 _)
theorem specAlike_f (d e : FlD) (u2 u4 u6 u7 u9 t2 t4 t6 t7 t9 : Value) (B C : Nat) (w : World) (h : RowsO w B (flR (⟨d, u2, u4, u6, u7, u9⟩ : FlV))) (h2 : RowsO w C (flR (⟨e, t2, t4, t6, t7, t9⟩ : FlV))) (hd : FlSmall d) (he : FlSmall e) :
  Calls Tryz.prog 83 #[.agg #[.int .i64 d.qmt, .string d.qpa, u2, .string d.qbd], .agg #[.int .i64 e.qmt, .string e.qpa, t2, .string e.qbd]] w fun e' w' => BoolIs (AlikeF d e) w e' w' :=
 specAlike_any d.qmt d.qpa u2 d.qbd _ B d.qfs e.qmt e.qpa t2 e.qbd _ C e.qfs w (flR_req h) hd.qfs.1 (fs_walk hd.qfs.2) (Nat.le_trans hd.qpa (by decide)) (Nat.le_trans hd.qbd (by decide)) (fs_get hd.qfs.2) (flR_req h2) he.qfs.1 (fs_walk he.qfs.2) (Nat.le_trans he.qpa (by decide)) (Nat.le_trans he.qbd (by decide)) (fs_get he.qfs.2)
theorem implReqOk_f (d : FlD) (u2 u4 u6 u7 u9 : Value) (B : Nat) (w : World) (h : RowsO w B (flR (⟨d, u2, u4, u6, u7, u9⟩ : FlV))) (hs : FlSmall d) :
  Calls Tryz.prog 136 #[.agg #[.int .i64 d.qmt, .string d.qpa, u2, .string d.qbd]] w fun e w' => BoolIs (ReqF d) w e w' :=
 implReqOk_any d.qmt d.qpa u2 d.qbd _ B d.qfs w (flR_req h) (Nat.le_trans hs.qfs.1 (by decide)) (fs_walk hs.qfs.2) (Nat.le_trans hs.qpa (by decide)) (Nat.le_trans hs.qbd (by decide))
theorem implObjOk_f (d : FlD) (u2 u4 u6 u7 u9 : Value) (B : Nat) (w : World) (h : RowsO w B (flR (⟨d, u2, u4, u6, u7, u9⟩ : FlV))) (hs : FlSmall d) :
  Calls Tryz.prog 133 #[.agg #[.string d.opa, u6, u7, .int .i64 d.ost, u9, .string d.obd, .int .i64 d.otm]] w fun e w' => BoolIs (ObjF d) w e w' := by
 have ho := flR_obj h
 obtain ⟨o1, c1, rfl⟩ := slice_of_owns ho.names
 obtain ⟨o2, c2, rfl⟩ := slice_of_owns ho.vals
 exact implObjOk_any d.opa o1 _ c1 d.oxs o2 _ c2 d.oys d.ost u9 _ B d.ofs d.obd d.otm w (texts_view ho.names) (texts_view ho.vals) (FieldsV.of_owns ho.flds) (Nat.le_trans hs.oxs.1 (by decide)) (Nat.le_trans hs.oys.1 (by decide)) (Nat.le_trans hs.ofs.1 (by decide)) (small_text hs.oxs.2) (small_text hs.oys.2) (fs_walk hs.ofs.2) (fs_copy hs.ofs.2) (Nat.le_trans hs.opa (by decide)) (Nat.le_trans hs.obd (by decide)) (fs_get hs.ofs.2 _)
theorem implAlike_f (d e : FlD) (u2 u4 u6 u7 u9 t2 t4 t6 t7 t9 : Value) (B C : Nat) (w : World) (h : RowsO w B (flR (⟨d, u2, u4, u6, u7, u9⟩ : FlV))) (h2 : RowsO w C (flR (⟨e, t2, t4, t6, t7, t9⟩ : FlV))) (hd : FlSmall d) (he : FlSmall e) :
  Calls Tryz.prog 139 #[.agg #[.int .i64 d.qmt, .string d.qpa, u2, .string d.qbd], .agg #[.int .i64 e.qmt, .string e.qpa, t2, .string e.qbd]] w fun e' w' => BoolIs (AlikeF d e) w e' w' :=
 implAlike_any d.qmt d.qpa u2 d.qbd _ B d.qfs e.qmt e.qpa t2 e.qbd _ C e.qfs w (flR_req h) hd.qfs.1 (fs_walk hd.qfs.2) (Nat.le_trans hd.qpa (by decide)) (Nat.le_trans hd.qbd (by decide)) (fs_get hd.qfs.2) (fs_copy hd.qfs.2) (flR_req h2) he.qfs.1 (fs_walk he.qfs.2) (Nat.le_trans he.qpa (by decide)) (Nat.le_trans he.qbd (by decide)) (fs_get he.qfs.2) (fs_copy he.qfs.2)
end Go.Proofs.YtbmhonfgffjpcaaGreat
