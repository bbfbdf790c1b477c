/- What the proof of FnExactJudgeBans leans on: contracts of the program's and the specification's functions, and plain facts (part 8 of 11). -/
import Derived.Test.YtbmhonfgffjpcaaGreatFnExactJudgeBansG
set_option maxHeartbeats 16000000
set_option maxRecDepth 100000
namespace Go.Proofs.YtbmhonfgffjpcaaGreat
open Go.RowKit
open Go.Lib hiding intOf
theorem path_cls (n : Int) : PathB n ↔ (cls n ≠ 4 ∧ cls n ≠ 7) := by
 have := cls_spec n
 unfold PathB
 constructor
 · intro h; omega
 · intro h; omega
theorem path_small {n : Int} (h : PathB n) : n < 128 := by unfold PathB at h; omega
theorem isPathRune_any (r : Int) (w : World) :
  Calls Tryz.prog 183 #[.int .i32 r] w fun e w' => BoolIs (PathB r) w e w' := by
 have HP : Hid (PathB r ↔ (cls r ≠ 4 ∧ cls r ≠ 7)) := path_cls r
 go_enter Tryz.func183, Tryz.ntmps183
 go_wp2_with fail
 refine (classOf_any r _).mono ?_
 rintro e w1 ⟨rfl, hb⟩
 generalize cls r = c at HP ⊢
 by_cases h4 : c = 4
 ·
  have HN : Hid (¬ PathB r) := fun h => (HP.out.1 h).1 h4
  subst h4
  go_wp2_with fail
  go_ret
  exact BoolIs.no HN.out hb
 ·
  have h5 : (c != 4) = true := by rw [bne_iff_ne]; exact h4
  by_cases h7 : c = 7
  ·
   have HN : Hid (¬ PathB r) := fun h => (HP.out.1 h).2 h7
   subst h7
   go_wp2_with fail
   go_ret
   exact BoolIs.no HN.out hb
  ·
   have h8 : (c != 7) = true := by rw [bne_iff_ne]; exact h7
   have HY : Hid (PathB r) := HP.out.2 ⟨h4, h7⟩
   go_wp2_with fail
   go_ret
   exact BoolIs.yes HY.out hb
theorem allRunes_path (s : ByteArray) (w : World) :
  Calls Tryz.prog 182 #[.string s, .func (.func 183) #[] #[]] w fun e w' => BoolIs (AllB PathB s) w e w' := by
 go_enter Tryz.func182, Tryz.ntmps182
 go_wp2
 go_loopw [6] (fun _ wr => ∃ pos : Nat, wr.heap[w.heap.size]? = some (.stringIter s pos) ∧ Below w.heap.size w wr ∧ Hid (AllTo PathB s pos)) (fun _ wr => s.size - wr.iterPos w.heap.size)
 case atStart => exact ⟨0, World.iter_heap _ _ _, (Below.refl _ _).alloc (Nat.le_refl _) _, allTo_zero _ _⟩
 case round =>
  obtain ⟨pos, hh, hbw, hall⟩ := hrel
  by_cases hp : pos < s.size
  ·
   have hnx := fun ty => run_next_any_at (P := Tryz.prog) wr w.heap.size s pos ty hh hp
   go_wp2_with (go_at_call 183; refine (isPathRune_any _ _).mono ?_; rintro e w1 ⟨b, rfl, hbt, hb1⟩)
   ·
    have hbf : b = false := by simpa using ‹(!b) = true›
    have hno : ¬ PathB ((Utf8.decode s pos).1 : Int) := fun h => by rw [hbt.2 h] at hbf; cases hbf
    go_ret
    exact BoolIs.no (rune_no (fun _ => path_small) s pos hp hno) (iter_step hh hbw hb1).2
   ·
    have hbf : b = true := by simpa using ‹(!b) = false›
    obtain ⟨hv, hone⟩ := rune_ok (fun _ => path_small) s pos hp (hbt.1 hbf)
    rw [hone] at hb1
    obtain ⟨h1, h2⟩ := iter_step hh hbw hb1
    exact ⟨⟨pos + 1, h1, h2, allTo_succ hall.out hp hv⟩, by rw [iterPos_of h1, iterPos_of hh]; omega⟩
  ·
   have hnx := fun ty => run_next_end_at (P := Tryz.prog) wr w.heap.size s pos ty hh hp
   go_wp2
   go_ret
   exact BoolIs.yes (allTo_end hall.out hp) hbw
theorem pathOk_any (s : ByteArray) (w : World) (hs : s.size ≤ maxLen) :
  Calls Tryz.prog 154 #[.string s] w fun e w' => BoolIs (PathOk s) w e w' := by
 unfold maxLen at hs
 by_cases h1 : (1 : Int) ≤ (s.size : Int)
 ·
  have h0 : 0 < s.size := by omega
  by_cases h2 : (s.size : Int) ≤ 60
  ·
   by_cases h3 : ((s[0]'h0).toNat : Int) = 47
   ·
    have h4 : (((s[0]'h0).toNat : Int) == 47) = true := by rw [beq_iff_eq]; exact h3
    have H3 : Hid ((s[0]'h0).toNat = 47) := by show _ = _; omega
    clear h3
    go_enter Tryz.func154, Tryz.ntmps154
    go_wp2_with fail
    refine (allRunes_path s _).mono ?_
    rintro e w1 ⟨b, rfl, hbt, hb1⟩
    cases b
    ·
     have HN : Hid (¬ PathOk s) := fun h => by have := hbt.2 h.1; cases this
     clear hbt
     go_wp2_with fail
     go_ret
     exact BoolIs.no HN.out hb1
    ·
     have HY : Hid (PathOk s) := ⟨hbt.1 rfl, by omega, by omega, h0, H3.out⟩
     clear hbt
     go_wp2_with fail
     go_ret
     exact BoolIs.yes HY.out hb1
   ·
    have h4 : (((s[0]'h0).toNat : Int) == 47) = false := by rw [beq_eq_false_iff_ne]; exact h3
    have HN : Hid (¬ PathOk s) := fun h => by obtain ⟨_, _, _, _, h5⟩ := h; omega
    clear h3
    go_enter Tryz.func154, Tryz.ntmps154
    go_wp2_with fail
    go_ret
    exact BoolIs.no HN.out (Below.refl _ _)
  ·
   have HN : Hid (¬ PathOk s) := fun h => by obtain ⟨_, _, h5, _⟩ := h; omega
   have hd : decide ((s.size : Int) ≤ 60) = false := by simpa using h2
   go_enter Tryz.func154, Tryz.ntmps154
   go_wp2_with fail
   go_ret
   exact BoolIs.no HN.out (Below.refl _ _)
 ·
  have HN : Hid (¬ PathOk s) := fun h => by obtain ⟨_, h5, _⟩ := h; omega
  have hd : decide ((1 : Int) ≤ (s.size : Int)) = false := by simpa using h1
  go_enter Tryz.func154, Tryz.ntmps154
  go_wp2_with fail
  go_ret
  exact BoolIs.no HN.out (Below.refl _ _)
theorem methB_none {m : Int} (h : ¬ (1 ≤ m ∧ m ≤ 4)) : methB m = ⟨#[]⟩ := by
 unfold methB
 rw [if_neg (by omega), if_neg (by omega), if_neg (by omega), if_neg (by omega)]
theorem methodName_any (m : Int) (w : World) :
  Calls Tryz.prog 189 #[.int .i64 m] w fun e w' => e = .returned (.string (methB m)) ∧ w' = w := by
 by_cases h1 : m = 1
 ·
  subst h1
  go_enter Tryz.func189, Tryz.ntmps189
  go_wp2
  go_ret
  exact ⟨rfl, rfl⟩
 ·
  by_cases h2 : m = 2
  ·
   subst h2
   go_enter Tryz.func189, Tryz.ntmps189
   go_wp2
   go_ret
   exact ⟨rfl, rfl⟩
  ·
   by_cases h3 : m = 3
   ·
    subst h3
    go_enter Tryz.func189, Tryz.ntmps189
    go_wp2
    go_ret
    exact ⟨rfl, rfl⟩
   ·
    by_cases h4 : m = 4
    ·
     subst h4
     go_enter Tryz.func189, Tryz.ntmps189
     go_wp2
     go_ret
     exact ⟨rfl, rfl⟩
    ·
     have HE : Hid (methB m = ⟨#[]⟩) := methB_none (by omega)
     have e1 : (m == 1) = false := by rw [beq_eq_false_iff_ne]; exact h1
     have e2 : (m == 2) = false := by rw [beq_eq_false_iff_ne]; exact h2
     have e3 : (m == 3) = false := by rw [beq_eq_false_iff_ne]; exact h3
     have e4 : (m == 4) = false := by rw [beq_eq_false_iff_ne]; exact h4
     go_enter Tryz.func189, Tryz.ntmps189
     go_wp2
     go_ret
     exact ⟨by rw [HE.out]; rfl, rfl⟩
/-- What is right of what stands behind the first line. -/
def RestP (fs : List (ByteArray × ByteArray)) (b : ByteArray) : Prop := FldsOk fs ∧ b.size ≤ 120
theorem restOk_any (v : Value) (b : ByteArray) (n base : Nat) (fs : List (ByteArray × ByteArray)) (w : World) (hv : FieldsV w base v n fs) (hn : n ≤ 1073741824) (hsz : WalkF n fs) (hb : b.size ≤ maxLen) :
  Calls Tryz.prog 190 #[.agg #[v, .string b]] w fun e w' => BoolIs (RestP fs b) w e w' := by
 obtain ⟨oa, cap, rfl, _⟩ := hv.slice
 obtain ⟨r, hr⟩ := exq (w.heap.size)
 have HR : Hid (∀ W, Below (w.alloc (.cells #[.slice oa n cap, .string b] 228)).heap.size (w.alloc (.cells #[.slice oa n cap, .string b] 228)) W → (W.cell? ⟨r, 0, none⟩ = some (.slice oa n cap) ∧ W.cell? ⟨r, 1, none⟩ = some (.string b)) ∧ FieldsV W base (.slice oa n cap) n fs ∧ Below w.heap.size w W) := fun W h => by
  have hh := kept_new h
  rw [← hr] at hh
  exact ⟨⟨by simp [World.cell?, hh], by simp [World.cell?, hh]⟩, hv.below (below_new h), below_new h⟩
 obtain ⟨_, hv0, _⟩ := HR.out _ (Below.refl _ _)
 unfold maxLen at hb
 go_enter Tryz.func190, Tryz.ntmps190
 go_wp2_with fail
 refine (ok_any _ n base fs _ hv0 hn hsz).mono ?_
 rintro e w1 ⟨b1, rfl, kb1, bb1⟩
 rw [← hr]
 obtain ⟨⟨c0, c1⟩, _, hbw1⟩ := HR.out w1 bb1
 clear hv hv0 hsz bb1 hr
 cases b1
 ·
  have HF : Hid (¬ RestP fs b) := fun h => by have := kb1.2 h.1; cases this
  clear kb1
  go_wp2_with fail
  go_ret
  exact BoolIs.no HF.out hbw1
 ·
  have HT : Hid (FldsOk fs) := kb1.1 rfl
  clear kb1
  by_cases h120 : (b.size : Int) ≤ 120
  ·
   have HY : Hid (RestP fs b) := ⟨HT.out, by omega⟩
   go_wp2_with fail
   go_ret
   exact BoolIs.yes HY.out hbw1
  ·
   have HF : Hid (¬ RestP fs b) := fun h => by have := h.2; omega
   have hd : decide ((b.size : Int) ≤ 120) = false := by simpa using h120
   go_wp2_with fail
   go_ret
   exact BoolIs.no HF.out hbw1
theorem meth_empty {m : Int} (h : 1 ≤ m ∧ m ≤ 4) : (methB m).toList.isEmpty = false := by
 refine isEmpty_no ?_
 rcases meth_cases h with rfl | rfl | rfl | rfl <;> decide
theorem reqOk_any (m : Int) (p : ByteArray) (v : Value) (b : ByteArray) (n base : Nat) (fs : List (ByteArray × ByteArray)) (w : World) (hv : FieldsV w base v n fs) (hn : n ≤ 1073741824) (hsz : WalkF n fs) (hp : p.size ≤ maxLen) (hb : b.size ≤ maxLen) :
  Calls Tryz.prog 162 #[.agg #[v, .string b, .int .i64 m, .string p]] w fun e w' => BoolIs (ReqP m p fs b) w e w' := by
 obtain ⟨oa, cap, rfl, _⟩ := hv.slice
 obtain ⟨r, hr⟩ := exq (w.heap.size)
 have HR : Hid (∀ W, Below (w.alloc (.cells #[.slice oa n cap, .string b, .int .i64 m, .string p] 230)).heap.size (w.alloc (.cells #[.slice oa n cap, .string b, .int .i64 m, .string p] 230)) W → (W.cell? ⟨r, 0, none⟩ = some (.slice oa n cap) ∧ W.cell? ⟨r, 1, none⟩ = some (.string b) ∧ W.cell? ⟨r, 2, none⟩ = some (.int .i64 m) ∧ W.cell? ⟨r, 3, none⟩ = some (.string p)) ∧ FieldsV W base (.slice oa n cap) n fs ∧ Below w.heap.size w W) := fun W h => by
  have hh := kept_new h
  rw [← hr] at hh
  exact ⟨⟨by simp [World.cell?, hh], by simp [World.cell?, hh], by simp [World.cell?, hh], by simp [World.cell?, hh]⟩, hv.below (below_new h), below_new h⟩
 have HSZ : Hid (WalkF n fs) := hsz
 have HP : Hid (p.size ≤ maxLen) := hp
 have HBS : Hid (b.size ≤ maxLen) := hb
 clear hv hsz hp hb
 go_enter Tryz.func162, Tryz.ntmps162
 go_wp2_with fail
 refine (methodName_any m _).mono ?_
 rintro e w1 ⟨rfl, hw1⟩
 have hb1 : Below (w.alloc (.cells #[.slice oa n cap, .string b, .int .i64 m, .string p] 230)).heap.size (w.alloc (.cells #[.slice oa n cap, .string b, .int .i64 m, .string p] 230)) w1 := by rw [hw1]; exact Below.refl _ _
 clear hw1
 rw [← hr]
 obtain ⟨⟨c0, c1, c2, c3⟩, _, hbw1⟩ := HR.out w1 hb1
 by_cases hm : 1 ≤ m ∧ m ≤ 4
 ·
  have e1 := meth_empty hm
  have HM : Hid (1 ≤ m ∧ m ≤ 4) := hm
  generalize methB m = mt at e1 ⊢
  clear hr hm
  go_wp2_with fail
  refine (pathOk_any p _ HP.out).mono ?_
  rintro e w2 ⟨b1, rfl, kb1, bb2⟩
  have hb2 := hb1.trans (bb2.mono hb1.size)
  clear c0 c1 c2 c3 bb2 hb1 hbw1
  obtain ⟨⟨c0, c1, c2, c3⟩, hv2, hbw2⟩ := HR.out w2 hb2
  have HV2 : Hid (FieldsV w2 base (.slice oa n cap) n fs) := hv2
  clear hv2
  cases b1
  ·
   have HF : Hid (¬ ReqP m p fs b) := fun h => by have := kb1.2 h.2.1; cases this
   clear kb1
   go_wp2_with fail
   go_ret
   exact BoolIs.no HF.out hbw2
  ·
   have HT : Hid (PathOk p) := kb1.1 rfl
   clear kb1
   go_wp2_with fail
   refine (restOk_any _ b n base fs _ HV2.out hn HSZ.out HBS.out).mono ?_
   rintro e w3 ⟨b2, rfl, kb2, bb3⟩
   have hb3 := hb2.trans (bb3.mono hb2.size)
   clear c0 c1 c2 c3 bb3 hb2 hbw2
   obtain ⟨_, _, hbw3⟩ := HR.out w3 hb3
   cases b2
   ·
    have HF : Hid (¬ ReqP m p fs b) := fun h => by have := kb2.2 h.2.2; cases this
    clear kb2
    go_wp2_with fail
    go_ret
    exact BoolIs.no HF.out hbw3
   ·
    have HY : Hid (ReqP m p fs b) := ⟨HM.out, HT.out, kb2.1 rfl⟩
    clear kb2
    go_wp2_with fail
    go_ret
    exact BoolIs.yes HY.out hbw3
 ·
  have HF : Hid (¬ ReqP m p fs b) := fun h => hm h.1
  rw [methB_none hm]
  clear hr hm
  go_wp2_with fail
  go_ret
  exact BoolIs.no HF.out hbw1
theorem respOk_any (st : Int) (v : Value) (b : ByteArray) (n base : Nat) (fs : List (ByteArray × ByteArray)) (w : World) (hv : FieldsV w base v n fs) (hn : n ≤ 1073741824) (hsz : WalkF n fs) (hb : b.size ≤ maxLen) :
  Calls Tryz.prog 181 #[.agg #[v, .string b, .int .i64 st]] w fun e w' => BoolIs (RespP st fs b) w e w' := by
 obtain ⟨oa, cap, rfl, _⟩ := hv.slice
 obtain ⟨r, hr⟩ := exq (w.heap.size)
 have HR : Hid (∀ W, Below (w.alloc (.cells #[.slice oa n cap, .string b, .int .i64 st] 251)).heap.size (w.alloc (.cells #[.slice oa n cap, .string b, .int .i64 st] 251)) W → (W.cell? ⟨r, 0, none⟩ = some (.slice oa n cap) ∧ W.cell? ⟨r, 1, none⟩ = some (.string b) ∧ W.cell? ⟨r, 2, none⟩ = some (.int .i64 st)) ∧ FieldsV W base (.slice oa n cap) n fs ∧ Below w.heap.size w W) := fun W h => by
  have hh := kept_new h
  rw [← hr] at hh
  exact ⟨⟨by simp [World.cell?, hh], by simp [World.cell?, hh], by simp [World.cell?, hh]⟩, hv.below (below_new h), below_new h⟩
 obtain ⟨_, hv0, hbw0⟩ := HR.out _ (Below.refl _ _)
 have HV0 : Hid (FieldsV (w.alloc (.cells #[.slice oa n cap, .string b, .int .i64 st] 251)) base (.slice oa n cap) n fs) := hv0
 have HSZ : Hid (WalkF n fs) := hsz
 have HBS : Hid (b.size ≤ maxLen) := hb
 clear hv hv0 hsz hb
 by_cases h1 : 100 ≤ st
 ·
  by_cases h2 : st ≤ 599
  ·
   go_enter Tryz.func181, Tryz.ntmps181
   go_wp2_with fail
   refine (restOk_any _ b n base fs _ HV0.out hn HSZ.out HBS.out).mono ?_
   rintro e w3 ⟨b2, rfl, kb2, bb3⟩
   obtain ⟨_, _, hbw3⟩ := HR.out w3 bb3
   clear bb3 hbw0
   cases b2
   ·
    have HF : Hid (¬ RespP st fs b) := fun h => by have := kb2.2 h.2; cases this
    clear kb2
    go_wp2_with fail
    go_ret
    exact BoolIs.no HF.out hbw3
   ·
    have HY : Hid (RespP st fs b) := ⟨⟨h1, h2⟩, kb2.1 rfl⟩
    clear kb2
    go_wp2_with fail
    go_ret
    exact BoolIs.yes HY.out hbw3
  ·
   have HF : Hid (¬ RespP st fs b) := fun h => h2 h.1.2
   have hd : decide (st ≤ 599) = false := by simpa using h2
   go_enter Tryz.func181, Tryz.ntmps181
   go_wp2_with fail
   go_ret
   exact BoolIs.no HF.out hbw0
 ·
  have HF : Hid (¬ RespP st fs b) := fun h => h1 h.1.1
  have hd : decide (100 ≤ st) = false := by simpa using h1
  go_enter Tryz.func181, Tryz.ntmps181
  go_wp2_with fail
  go_ret
  exact BoolIs.no HF.out hbw0
theorem requestOf_any (m : Int) (p : ByteArray) (oa : Option Addr) (n cap : Nat) (b : ByteArray) (w : World) :
  Calls Tryz.prog 161 #[.agg #[.int .i64 m, .string p, .slice oa n cap, .string b]] w fun e w' => e = .returned (.agg #[.slice oa n cap, .string b, .int .i64 m, .string p]) ∧ Below w.heap.size w w' := by
 go_enter Tryz.func161, Tryz.ntmps161
 go_wp2
 exact bodyPost_ret (v := .agg #[.slice oa n cap, .string b, .int .i64 m, .string p]) (by simp [results, Tryz.results161, go_sem]) rfl ⟨rfl, ((Below.refl _ _).alloc (Nat.le_refl _) _).alloc (by simp) _⟩
theorem answerOf_any (m : Int) (oa : Option Addr) (n cap : Nat) (b : ByteArray) (w : World) :
  Calls Tryz.prog 180 #[.agg #[.int .i64 m, .slice oa n cap, .string b]] w fun e w' => e = .returned (.agg #[.slice oa n cap, .string b, .int .i64 m]) ∧ Below w.heap.size w w' := by
 go_enter Tryz.func180, Tryz.ntmps180
 go_wp2
 exact bodyPost_ret (v := .agg #[.slice oa n cap, .string b, .int .i64 m]) (by simp [results, Tryz.results180, go_sem]) rfl ⟨rfl, ((Below.refl _ _).alloc (Nat.le_refl _) _).alloc (by simp) _⟩
theorem implReqOk_any (m : Int) (p : ByteArray) (v : Value) (b : ByteArray) (n base : Nat) (fs : List (ByteArray × ByteArray)) (w : World) (hv : FieldsV w base v n fs) (hn : n ≤ 1073741824) (hsz : WalkF n fs) (hp : p.size ≤ maxLen) (hb : b.size ≤ maxLen) :
  Calls Tryz.prog 136 #[.agg #[.int .i64 m, .string p, v, .string b]] w fun e w' => BoolIs (ReqP m p fs b) w e w' := by
 obtain ⟨oa, cap, rfl, _⟩ := hv.slice
 have hb0 : Below w.heap.size w (w.alloc (.cells #[.int .i64 m, .string p, .slice oa n cap, .string b] 62)) := (Below.refl _ _).alloc (Nat.le_refl _) _
 go_enter Tryz.func136, Tryz.ntmps136
 go_wp2_with fail
 refine (requestOf_any m p oa n cap b _).mono ?_
 rintro e w1 ⟨rfl, bb1⟩
 have hb1 : Below w.heap.size w w1 := hb0.trans (bb1.mono hb0.size)
 have hv1 := hv.below hb1
 clear bb1 hb0 hv
 go_wp2_with fail
 refine (reqOk_any m p _ b n base fs _ hv1 hn hsz hp hb).mono ?_
 rintro e w2 ⟨b1, rfl, kb, bb2⟩
 have hb2 : Below w.heap.size w w2 := hb1.trans (bb2.mono hb1.size)
 have HK : Hid (b1 = true ↔ ReqP m p fs b) := kb
 clear hv1 hsz hb bb2 hb1 kb hp
 go_wp2_with fail
 go_ret
 exact ⟨b1, rfl, HK.out, hb2⟩
theorem implRespOk_any (m : Int) (v : Value) (b : ByteArray) (n base : Nat) (fs : List (ByteArray × ByteArray)) (w : World) (hv : FieldsV w base v n fs) (hn : n ≤ 1073741824) (hsz : WalkF n fs) (hb : b.size ≤ maxLen) :
  Calls Tryz.prog 153 #[.agg #[.int .i64 m, v, .string b]] w fun e w' => BoolIs (RespP m fs b) w e w' := by
 obtain ⟨oa, cap, rfl, _⟩ := hv.slice
 have hb0 : Below w.heap.size w (w.alloc (.cells #[.int .i64 m, .slice oa n cap, .string b] 64)) := (Below.refl _ _).alloc (Nat.le_refl _) _
 go_enter Tryz.func153, Tryz.ntmps153
 go_wp2_with fail
 refine (answerOf_any m oa n cap b _).mono ?_
 rintro e w1 ⟨rfl, bb1⟩
 have hb1 : Below w.heap.size w w1 := hb0.trans (bb1.mono hb0.size)
 have hv1 := hv.below hb1
 clear bb1 hb0 hv
 go_wp2_with fail
 refine (respOk_any m _ b n base fs _ hv1 hn hsz hb).mono ?_
 rintro e w2 ⟨b1, rfl, kb, bb2⟩
 have hb2 : Below w.heap.size w w2 := hb1.trans (bb2.mono hb1.size)
 have HK : Hid (b1 = true ↔ RespP m fs b) := kb
 clear hv1 hsz hb bb2 hb1 kb
 go_wp2_with fail
 go_ret
 exact ⟨b1, rfl, HK.out, hb2⟩
end Go.Proofs.YtbmhonfgffjpcaaGreat
namespace Go.Proofs.YtbmhonfgffjpcaaGreat
open Go.RowKit
open Go.Lib hiding intOf
theorem implObjOk_any (p : ByteArray) (o1 : Option Addr) (n1 c1 : Nat) (xs : List ByteArray) (o2 : Option Addr) (n2 c2 : Nat) (ys : List ByteArray) (st : Int) (v3 : Value) (n3 base : Nat) (fs : List (ByteArray × ByteArray)) (b : ByteArray) (t : Int) (w : World) (h1 : TextsA w o1 n1 xs) (h2 : TextsA w o2 n2 ys) (h3 : FieldsV w base v3 n3 fs) (hn1 : n1 ≤ 2000000) (hn2 : n2 ≤ 2000000) (hn3 : n3 ≤ 2000000) (hs1 : ∀ i, i < n1 → (textAt xs i).size ≤ maxLen) (hs2 : ∀ i, i < n2 → (textAt ys i).size ≤ maxLen) (hs3 : WalkF n3 fs) (hc : CopyF fs) (hp : p.size ≤ maxLen) (hx : b.size ≤ maxLen) (hg : (getV fs varyName).size ≤ 1048576) :
  Calls Tryz.prog 133 #[.agg #[.string p, .slice o1 n1 c1, .slice o2 n2 c2, .int .i64 st, v3, .string b, .int .i64 t]] w fun e w' => BoolIs (ObjP p xs ys st fs b t) w e w' := by
 obtain ⟨o3, c3, rfl, _⟩ := h3.slice
 have HV1 : Hid (∀ W, Below w.heap.size w W → TextsA W o1 n1 xs) := fun W h => h1.below h
 have HV2 : Hid (∀ W, Below w.heap.size w W → TextsA W o2 n2 ys) := fun W h => h2.below h
 have HV3 : Hid (∀ W, Below w.heap.size w W → FieldsV W base (.slice o3 n3 c3) n3 fs) := fun W h => h3.below h
 have HL1 : Hid (xs.length = n1) := h1.1
 have HL2 : Hid (ys.length = n2) := h2.1
 have HS1 : Hid (∀ i, i < n1 → (textAt xs i).size ≤ maxLen) := hs1
 have HS2 : Hid (∀ i, i < n2 → (textAt ys i).size ≤ maxLen) := hs2
 have HS3 : Hid (WalkF n3 fs) := hs3
 have HC : Hid (CopyF fs) := hc
 have HPM : Hid (p.size ≤ maxLen) := hp
 have HX : Hid (b.size ≤ maxLen) := hx
 have HG : Hid ((getV fs varyName).size ≤ 1048576) := hg
 obtain ⟨vl, hvl⟩ := exq (varyP fs)
 have HVL : Hid (varyP fs = vl) := hvl.symm
 have HVZ : Hid (vl.length ≤ 2000000) := by
  show _ ≤ _
  have hle := splitL_le (getV fs varyName)
  rw [hvl]
  unfold varyP
  rw [List.length_map]
  omega
 clear h1 h2 h3 hs1 hs2 hs3 hc hp hx hg hvl
 have hb0 : Below w.heap.size w w := Below.refl _ _
 go_enter Tryz.func133, Tryz.ntmps133
 go_upto_region 1 with fail
 obtain ⟨qv1, hqv1⟩ := exq ((w).heap.size)
 obtain ⟨w1, hW1⟩ := exq ((w).alloc (.cells #[.string p, .slice o1 n1 c1, .slice o2 n2 c2, .int .i64 st, .slice o3 n3 c3, .string b, .int .i64 t] 66))
 have hz1 : (w).heap.size = qv1 := hqv1.symm
 first | rw [← hW1, ← hqv1] | rw [← hW1]
 have hs1 := hsa hW1 hz1
 have bw := bal hW1
 have hb1 := hbt hb0 bw
 have HBv1_1 := hnew hW1 hz1
 clear hb0 bw hW1 hz1
 clear hs1 hqv1
 have cv1_3 := (k7c HBv1_1).2.2.2.1
 have cv1_4 := (k7c HBv1_1).2.2.2.2.1
 have cv1_5 := (k7c HBv1_1).2.2.2.2.2.1
 go_wp2_with fail
 refine (implRespOk_any st _ b n3 base fs _ (HV3.out _ hb1) (by omega) HS3.out HX.out).mono ?_
 rintro e w2 ⟨u1, rfl, htu1, bw⟩
 have hb2 := hbt hb1 bw
 have HBv1_2 := hblk HBv1_1 bw
 clear hb1 HBv1_1 bw
 clear cv1_3 cv1_4 cv1_5
 cases u1 with
 | false =>
  have HF : Hid (¬ ObjP p xs ys st fs b t) := fun h => nomatch htu1.2 h.1
  clear htu1
  go_wp2_with fail
  go_ret
  exact BoolIs.no HF.out hb2
 | true =>
  have HR : Hid (RespP st fs b) := htu1.1 rfl
  clear htu1
  have cv1_0 := (k7c HBv1_2).1
  go_wp2_with fail
  refine (pathOk_any p _ HPM.out).mono ?_
  rintro e w3 ⟨u2, rfl, htu2, bw⟩
  have hb3 := hbt hb2 bw
  have HBv1_3 := hblk HBv1_2 bw
  clear hb2 HBv1_2 bw
  clear cv1_0
  cases u2 with
  | false =>
   have HF : Hid (¬ ObjP p xs ys st fs b t) := fun h => nomatch htu2.2 h.2.1
   clear htu2
   go_wp2_with fail
   go_ret
   exact BoolIs.no HF.out hb3
  | true =>
   have HP : Hid (PathOk p) := htu2.1 rfl
   clear htu2
   have cv1_6 := (k7c HBv1_3).2.2.2.2.2.2
   go_wp2_with fail
   refine (timeOk_any t _).mono ?_
   rintro e w4 ⟨rfl, hwe⟩
   have bw : Below (w3).heap.size (w3) w4 := by rw [hwe]; exact Below.refl _ _
   clear hwe
   obtain ⟨u3, hu3⟩ : ∃ u3, u3 = decide ((0 : Int) ≤ t ∧ t ≤ 1000000) := ⟨_, rfl⟩
   rw [← hu3]
   have hb4 := hbt hb3 bw
   have HBv1_4 := hblk HBv1_3 bw
   clear hb3 HBv1_3 bw
   clear cv1_6
   cases u3 with
   | false =>
    have HF : Hid (¬ ObjP p xs ys st fs b t) := fun h => absurd h.2.2.1 (of_decide_eq_false hu3.symm)
    clear hu3
    go_wp2_with fail
    go_ret
    exact BoolIs.no HF.out hb4
   | true =>
    have HT : Hid (0 ≤ t ∧ t ≤ 1000000) := (show 0 ≤ t ∧ t ≤ 1000000 from of_decide_eq_true hu3.symm)
    clear hu3
    go_upto_region 3 with fail
    refine wp_region_held_drew (S := fun W => W.heap[qv1]? = some (.cells #[.string p, .slice o1 n1 c1, .slice o2 n2 c2, .int .i64 st, .slice o3 n3 c3, .string b, .int .i64 t] 66)) (by kernel_rfl) HBv1_4.out (fun _ => ?_)
    obtain ⟨w5, hX⟩ := exq w4.drew
    have bw := bdr hX
    rw [← hX]
    have hb5 := hbt hb4 bw
    have HBv1_5 := hblk HBv1_4 bw
    have hS5 := HBv1_5.out
    clear hb4 HBv1_4 bw hX
    refine tkP 0 (.pointer (some ⟨qv1, 1, none⟩)) 20 rfl rfl hS5 ?_
    go_frame
    refine tkL 1 (.slice o1 n1 c1) 21 rfl rfl (Or.inl ⟨by rfl, by intro W hW; have hhv1 := hW; have y1 := (cell_of hhv1 1).trans rfl; go_simp⟩) hS5 ?_
    go_frame
    refine tkP 2 (.pointer (some ⟨qv1, 3, none⟩)) 22 rfl rfl hS5 ?_
    go_frame
    refine tkP 3 (.pointer (some ⟨qv1, 4, none⟩)) 23 rfl rfl hS5 ?_
    go_frame
    refine tkL 4 (.slice o3 n3 c3) 24 rfl rfl (Or.inl ⟨by rfl, by intro W hW; have hhv1 := hW; have y4 := (cell_of hhv1 4).trans rfl; go_simp⟩) hS5 ?_
    go_frame
    refine rd1 5 rfl (fun K hK => ?_)
    go_simp
    refine (implVaryOf_any _ n3 base fs _ (HV3.out _ hb5) (by omega) HC.out HG.out).mono ?_
    rintro e w6 ⟨vv, rfl, ownY, bw⟩
    obtain ⟨oY, pY, rfl⟩ := slice_of_owns ownY
    rw [HVL.out] at ownY ⊢
    have hb6 := hbt hb5 bw
    have HBv1_6 := hblk HBv1_5 bw
    have HOY_6 := hwd ownY hb5.size
    clear ownY
    clear hb5 HBv1_5 bw
    have hS6 := HBv1_6.out
    refine hK.out _ _ hS6 (fun _ => ?_)
    clear hK K hS5
    refine rd1 6 rfl (fun K hK => ?_)
    go_simp
    refine (equalT_any _ _ _ _ _ _ xs vl _ (HV1.out _ hb6) (by omega) (texts_view HOY_6.out) HVZ.out).mono ?_
    rintro e w7 ⟨rfl, bw⟩
    obtain ⟨u5, hu5⟩ := exq (decide (xs = vl))
    rw [← hu5]
    have hb7 := hbt hb6 bw
    have HOY_7 := hown HOY_6 bw
    have HBv1_7 := hblk HBv1_6 bw
    clear hb6 HOY_6 HBv1_6 bw
    have hS7 := HBv1_7.out
    refine hK.out _ _ hS7 (fun _ => ?_)
    clear hK K hS6
    refine tkP 7 (.bool u5) 27 rfl rfl hS7 ?_
    go_frame
    cases u5 with
    | false =>
     have HF : Hid (¬ ObjP p xs ys st fs b t) := fun h => absurd (h.2.2.2.2.1.trans HVL.out) (of_decide_eq_false hu5.symm)
     clear hu5
     refine tkN 8 28 rfl rfl hS7 ?_
     go_frame
     refine tkN 9 29 rfl rfl hS7 ?_
     go_frame
     refine tkN 10 30 rfl rfl hS7 ?_
     go_frame
     refine tkP 11 (.bool false) 31 rfl rfl hS7 ?_
     go_frame
     refine tkP 12 (.bool false) 3 rfl rfl hS7 ?_
     go_frame
     clear hS7
     refine wpAnyH_done (by kernel_rfl) ?_ _
     go_wp2_with fail
     go_ret
     exact BoolIs.no HF.out hb7
    | true =>
     have HE : Hid (xs = vl) := (show xs = vl from of_decide_eq_true hu5.symm)
     clear hu5
     refine tkP 8 (.pointer (some ⟨qv1, 1, none⟩)) 28 rfl rfl hS7 ?_
     go_frame
     refine tkL 9 (.slice o1 n1 c1) 29 rfl rfl (Or.inl ⟨by rfl, by intro W hW; have hhv1 := hW; have y1 := (cell_of hhv1 1).trans rfl; go_simp⟩) hS7 ?_
     go_frame
     refine rd1 10 rfl (fun K hK => ?_)
     go_simp
     refine (namesOk_any _ _ _ xs _ (HV1.out _ hb7) (by omega) HS1.out).mono ?_
     rintro e w8 ⟨u4, rfl, htu4, bw⟩
     have hb8 := hbt hb7 bw
     have HOY_8 := hown HOY_7 bw
     have HBv1_8 := hblk HBv1_7 bw
     clear hb7 HOY_7 HBv1_7 bw
     have hS8 := HBv1_8.out
     refine hK.out _ _ hS8 (fun _ => ?_)
     clear hK K hS7
     refine tkP 11 (.bool u4) 31 rfl rfl hS8 ?_
     go_frame
     refine tkP 12 (.bool u4) 3 rfl rfl hS8 ?_
     go_frame
     clear hS8
     refine wpAnyH_done (by kernel_rfl) ?_ _
     cases u4 with
     | false =>
      have HF : Hid (¬ ObjP p xs ys st fs b t) := fun h => nomatch htu4.2 h.2.2.2.1
      clear htu4
      go_wp2_with fail
      go_ret
      exact BoolIs.no HF.out hb8
     | true =>
      have HNM : Hid (NamesP xs) := htu4.1 rfl
      clear htu4
      by_cases hc1 : (n2 : Int) = (n1 : Int)
      ·
       have hc1b : (((n2 : Int) : Int) == ((n1 : Int) : Int)) = true := by simpa using hc1
       have hc1n : (((n2 : Int) : Int) != ((n1 : Int) : Int)) = false := by simpa using hc1
       have HEQ : Hid ((n2 : Int) = (n1 : Int)) := hc1
       have hc1H : Hid ((n2 : Int) = (n1 : Int)) := hc1
       clear hc1
       have cv1_1 := (k7c HBv1_8).2.1
       have cv1_2 := (k7c HBv1_8).2.2.1
       go_wp2_with fail
       refine (valuesOk_any _ _ _ ys _ (HV2.out _ hb8) (by omega) HS2.out).mono ?_
       rintro e w9 ⟨u6, rfl, htu6, bw⟩
       have hb9 := hbt hb8 bw
       have HOY_9 := hown HOY_8 bw
       have HBv1_9 := hblk HBv1_8 bw
       clear hb8 HOY_8 HBv1_8 bw
       clear cv1_1 cv1_2
       go_wp2_with fail
       go_ret
       exact ⟨u6, rfl, ⟨fun h => ⟨HR.out, HP.out, HT.out, HNM.out, HE.out.trans HVL.out.symm, by have h1 := HL1.out; have h2 := HL2.out; have h3 := HEQ.out; omega, htu6.1 h⟩, fun h => htu6.2 h.2.2.2.2.2.2⟩, hb9⟩
      ·
       have hc1b : (((n2 : Int) : Int) == ((n1 : Int) : Int)) = false := by simpa using hc1
       have hc1n : (((n2 : Int) : Int) != ((n1 : Int) : Int)) = true := by simpa using hc1
       have HF : Hid (¬ ObjP p xs ys st fs b t) := fun h => by have h1 := h.2.2.2.2.2.1; have h2 := HL1.out; have h3 := HL2.out; omega
       have hc1H : Hid (¬ ((n2 : Int) = (n1 : Int))) := hc1
       clear hc1
       have cv1_1 := (k7c HBv1_8).2.1
       have cv1_2 := (k7c HBv1_8).2.2.1
       go_wp2_with fail
       go_ret
       exact BoolIs.no HF.out hb8
end Go.Proofs.YtbmhonfgffjpcaaGreat
namespace Go.Proofs.YtbmhonfgffjpcaaGreat
open Go.RowKit
open Go.Lib hiding intOf
theorem ruleOf_1 (a b : ByteArray) (t : Int) (w : World) :
  Calls Tryz.prog 159 #[.agg #[.int .i64 1, .string a, .string b, .int .i64 t]] w fun e w' => e = .returned (.iface 256 (.agg #[.string a])) ∧ Below w.heap.size w w' := by
 have hb0 : Below w.heap.size w w := Below.refl _ _
 go_enter Tryz.func159, Tryz.ntmps159
 go_upto_region 1 with fail
 obtain ⟨qv1, hqv1⟩ := exq ((w).heap.size)
 obtain ⟨w1, hW1⟩ := exq ((w).alloc (.cells #[.int .i64 1, .string a, .string b, .int .i64 t] 152))
 have hz1 : (w).heap.size = qv1 := hqv1.symm
 first | rw [← hW1, ← hqv1] | rw [← hW1]
 have hs1 := hsa hW1 hz1
 have bw := bal hW1
 have hb1 := hbt hb0 bw
 have HBv1_1 := hnew hW1 hz1
 clear hb0 bw hW1 hz1
 clear hs1 hqv1
 have cv1_0 := (k4c HBv1_1).1
 have cv1_1 := (k4c HBv1_1).2.1
 go_wp2_with fail
 go_ret
 exact ⟨rfl, hb1⟩
theorem ruleOf_2 (a b : ByteArray) (t : Int) (w : World) :
  Calls Tryz.prog 159 #[.agg #[.int .i64 2, .string a, .string b, .int .i64 t]] w fun e w' => e = .returned (.iface 258 (.agg #[.string a])) ∧ Below w.heap.size w w' := by
 have hb0 : Below w.heap.size w w := Below.refl _ _
 go_enter Tryz.func159, Tryz.ntmps159
 go_upto_region 1 with fail
 obtain ⟨qv1, hqv1⟩ := exq ((w).heap.size)
 obtain ⟨w1, hW1⟩ := exq ((w).alloc (.cells #[.int .i64 2, .string a, .string b, .int .i64 t] 152))
 have hz1 : (w).heap.size = qv1 := hqv1.symm
 first | rw [← hW1, ← hqv1] | rw [← hW1]
 have hs1 := hsa hW1 hz1
 have bw := bal hW1
 have hb1 := hbt hb0 bw
 have HBv1_1 := hnew hW1 hz1
 clear hb0 bw hW1 hz1
 clear hs1 hqv1
 have cv1_0 := (k4c HBv1_1).1
 have cv1_1 := (k4c HBv1_1).2.1
 go_wp2_with fail
 go_ret
 exact ⟨rfl, hb1⟩
theorem ruleOf_3 (a b : ByteArray) (t : Int) (w : World) :
  Calls Tryz.prog 159 #[.agg #[.int .i64 3, .string a, .string b, .int .i64 t]] w fun e w' => e = .returned (.iface 260 (.agg #[.string a, .string b])) ∧ Below w.heap.size w w' := by
 have hb0 : Below w.heap.size w w := Below.refl _ _
 go_enter Tryz.func159, Tryz.ntmps159
 go_upto_region 1 with fail
 obtain ⟨qv1, hqv1⟩ := exq ((w).heap.size)
 obtain ⟨w1, hW1⟩ := exq ((w).alloc (.cells #[.int .i64 3, .string a, .string b, .int .i64 t] 152))
 have hz1 : (w).heap.size = qv1 := hqv1.symm
 first | rw [← hW1, ← hqv1] | rw [← hW1]
 have hs1 := hsa hW1 hz1
 have bw := bal hW1
 have hb1 := hbt hb0 bw
 have HBv1_1 := hnew hW1 hz1
 clear hb0 bw hW1 hz1
 clear hs1 hqv1
 have cv1_0 := (k4c HBv1_1).1
 have cv1_1 := (k4c HBv1_1).2.1
 have cv1_2 := (k4c HBv1_1).2.2.1
 go_wp2_with fail
 go_ret
 exact ⟨rfl, hb1⟩
theorem ruleOf_no (k : Int) (a b : ByteArray) (t : Int) (w : World) (h1 : ¬ k = 1) (h2 : ¬ k = 2) (h3 : ¬ k = 3) :
  Calls Tryz.prog 159 #[.agg #[.int .i64 k, .string a, .string b, .int .i64 t]] w fun e w' => e = .returned .nilIface ∧ Below w.heap.size w w' := by
 have hk1 : ((k : Int) == (1 : Int)) = false := by simpa using h1
 have hk2 : ((k : Int) == (2 : Int)) = false := by simpa using h2
 have hk3 : ((k : Int) == (3 : Int)) = false := by simpa using h3
 clear h1 h2 h3
 have hb0 : Below w.heap.size w w := Below.refl _ _
 go_enter Tryz.func159, Tryz.ntmps159
 go_upto_region 1 with fail
 obtain ⟨qv1, hqv1⟩ := exq ((w).heap.size)
 obtain ⟨w1, hW1⟩ := exq ((w).alloc (.cells #[.int .i64 k, .string a, .string b, .int .i64 t] 152))
 have hz1 : (w).heap.size = qv1 := hqv1.symm
 first | rw [← hW1, ← hqv1] | rw [← hW1]
 have hs1 := hsa hW1 hz1
 have bw := bal hW1
 have hb1 := hbt hb0 bw
 have HBv1_1 := hnew hW1 hz1
 clear hb0 bw hW1 hz1
 clear hs1 hqv1
 have cv1_0 := (k4c HBv1_1).1
 go_wp2_with fail
 go_ret
 exact ⟨rfl, hb1⟩
theorem banOf_1 (a : ByteArray) (t : Int) (w : World) :
  Calls Tryz.prog 160 #[.iface 256 (.agg #[.string a]), .int .i64 t] w fun e w' => e = .returned (.agg #[.int .i64 1, .string a, .string ⟨#[]⟩, .int .i64 t]) ∧ Below w.heap.size w w' := by
 have hta1 : ∀ W : World, (Instr.typeAssert (.iface 256 (.agg #[.string a])) 222 256 true).run Tryz.prog W = .ok (.tuple #[.agg #[.string a], .bool true]) W := fun _ => by kernel_rfl
 have hta2 : ∀ W : World, (Instr.typeAssert (.iface 256 (.agg #[.string a])) 222 258 true).run Tryz.prog W = .ok (.tuple #[.agg #[.string ⟨#[]⟩], .bool false]) W := fun _ => by kernel_rfl
 have hta3 : ∀ W : World, (Instr.typeAssert (.iface 256 (.agg #[.string a])) 222 260 true).run Tryz.prog W = .ok (.tuple #[.agg #[.string ⟨#[]⟩, .string ⟨#[]⟩], .bool false]) W := fun _ => by kernel_rfl
 have hb0 : Below w.heap.size w w := Below.refl _ _
 go_enter Tryz.func160, Tryz.ntmps160
 go_upto_region 1 with fail
 obtain ⟨qv1, hqv1⟩ := exq ((w).heap.size)
 obtain ⟨w1, hW1⟩ := exq ((w).alloc (.cells #[.int .i64 0, .string ⟨#[]⟩, .string ⟨#[]⟩, .int .i64 0] 152))
 have hz1 : (w).heap.size = qv1 := hqv1.symm
 first | rw [← hW1, ← hqv1] | rw [← hW1]
 have hs1 := hsa hW1 hz1
 have bw := bal hW1
 have hb1 := hbt hb0 bw
 have HBv1_1 := hnew hW1 hz1
 have HGv1 := hge hz1 hb0
 clear hb0 bw hW1 hz1
 clear hs1 hqv1
 go_upto_region 4 with fail
 obtain ⟨qv2, hqv2⟩ := exq ((w1).heap.size)
 obtain ⟨w2, hW2⟩ := exq ((w1).alloc (.cells #[.string a] 256))
 have hz2 : (w1).heap.size = qv2 := hqv2.symm
 first | rw [← hW2, ← hqv2] | rw [← hW2]
 have hs2 := hsa hW2 hz2
 have bw := bal hW2
 have hb2 := hbt hb1 bw
 have HBv1_2 := hblk HBv1_1 bw
 have HNv1v2 : Hid (qv1 ≠ qv2) := fun e => by have h1 := (Array.getElem?_eq_some_iff.1 HBv1_1.out).1; omega
 have HBv2_2 := hnew hW2 hz2
 clear hb1 HBv1_1 bw hW2 hz2
 clear hs2 hqv2
 have cv1_0 := (k4c HBv1_2).1
 have fcv1_0 := hfz HBv1_2 0
 have cv1_1 := (k4c HBv1_2).2.1
 have fcv1_1 := hfz HBv1_2 1
 have cv1_2 := (k4c HBv1_2).2.2.1
 have fcv1_2 := hfz HBv1_2 2
 have cv1_3 := (k4c HBv1_2).2.2.2
 have fcv1_3 := hfz HBv1_2 3
 have cv2_0 := k1c HBv2_2
 go_wp2_with fail
 obtain ⟨w3, hW3⟩ := exq ((w2).setCell ⟨qv1, 0, none⟩ (.int .i64 1))
 rw [← hW3]
 have hb3 := hbS hW3 hb2 HGv1
 have HBv2_3 := hset hW3 HNv1v2.out.symm HBv2_2
 have HBv1_3 : Hid ((w3).heap[qv1]? = some (.cells #[.int .i64 1, .string ⟨#[]⟩, .string ⟨#[]⟩, .int .i64 0] 152)) := by show _ = _; rw [hW3]; have h := heap_set _ _ 0 _ _ _ (.int .i64 1) HBv1_2.out; simpa using h
 clear hb2 HBv1_2 HBv2_2 hW3
 obtain ⟨w4, hW4⟩ := exq ((w3).setCell ⟨qv1, 1, none⟩ (.string a))
 rw [← hW4]
 have hb4 := hbS hW4 hb3 HGv1
 have HBv2_4 := hset hW4 HNv1v2.out.symm HBv2_3
 have HBv1_4 : Hid ((w4).heap[qv1]? = some (.cells #[.int .i64 1, .string a, .string ⟨#[]⟩, .int .i64 0] 152)) := by show _ = _; rw [hW4]; have h := heap_set _ _ 1 _ _ _ (.string a) HBv1_3.out; simpa using h
 clear hb3 HBv1_3 HBv2_3 hW4
 obtain ⟨w5, hW5⟩ := exq ((w4).setCell ⟨qv1, 2, none⟩ (.string ⟨#[]⟩))
 rw [← hW5]
 have hb5 := hbS hW5 hb4 HGv1
 have HBv2_5 := hset hW5 HNv1v2.out.symm HBv2_4
 have HBv1_5 : Hid ((w5).heap[qv1]? = some (.cells #[.int .i64 1, .string a, .string ⟨#[]⟩, .int .i64 0] 152)) := by show _ = _; rw [hW5]; have h := heap_set _ _ 2 _ _ _ (.string ⟨#[]⟩) HBv1_4.out; simpa using h
 clear hb4 HBv1_4 HBv2_4 hW5
 obtain ⟨w6, hW6⟩ := exq ((w5).setCell ⟨qv1, 3, none⟩ (.int .i64 t))
 rw [← hW6]
 have hb6 := hbS hW6 hb5 HGv1
 have HBv2_6 := hset hW6 HNv1v2.out.symm HBv2_5
 have HBv1_6 : Hid ((w6).heap[qv1]? = some (.cells #[.int .i64 1, .string a, .string ⟨#[]⟩, .int .i64 t] 152)) := by show _ = _; rw [hW6]; have h := heap_set _ _ 3 _ _ _ (.int .i64 t) HBv1_5.out; simpa using h
 clear hb5 HBv1_5 HBv2_5 hW6
 have kv1_0 := (k4c HBv1_6).1
 have kv1_1 := (k4c HBv1_6).2.1
 have kv1_2 := (k4c HBv1_6).2.2.1
 have kv1_3 := (k4c HBv1_6).2.2.2
 refine bodyPost_ret (v := .agg #[.int .i64 1, .string a, .string ⟨#[]⟩, .int .i64 t]) (by simp [results, Tryz.results160, go_sem, kv1_0, kv1_1, kv1_2, kv1_3]) rfl ?_
 exact ⟨rfl, hb6⟩
theorem banOf_2 (a : ByteArray) (t : Int) (w : World) :
  Calls Tryz.prog 160 #[.iface 258 (.agg #[.string a]), .int .i64 t] w fun e w' => e = .returned (.agg #[.int .i64 2, .string a, .string ⟨#[]⟩, .int .i64 t]) ∧ Below w.heap.size w w' := by
 have hta1 : ∀ W : World, (Instr.typeAssert (.iface 258 (.agg #[.string a])) 222 256 true).run Tryz.prog W = .ok (.tuple #[.agg #[.string ⟨#[]⟩], .bool false]) W := fun _ => by kernel_rfl
 have hta2 : ∀ W : World, (Instr.typeAssert (.iface 258 (.agg #[.string a])) 222 258 true).run Tryz.prog W = .ok (.tuple #[.agg #[.string a], .bool true]) W := fun _ => by kernel_rfl
 have hta3 : ∀ W : World, (Instr.typeAssert (.iface 258 (.agg #[.string a])) 222 260 true).run Tryz.prog W = .ok (.tuple #[.agg #[.string ⟨#[]⟩, .string ⟨#[]⟩], .bool false]) W := fun _ => by kernel_rfl
 have hb0 : Below w.heap.size w w := Below.refl _ _
 go_enter Tryz.func160, Tryz.ntmps160
 go_upto_region 1 with fail
 obtain ⟨qv1, hqv1⟩ := exq ((w).heap.size)
 obtain ⟨w1, hW1⟩ := exq ((w).alloc (.cells #[.int .i64 0, .string ⟨#[]⟩, .string ⟨#[]⟩, .int .i64 0] 152))
 have hz1 : (w).heap.size = qv1 := hqv1.symm
 first | rw [← hW1, ← hqv1] | rw [← hW1]
 have hs1 := hsa hW1 hz1
 have bw := bal hW1
 have hb1 := hbt hb0 bw
 have HBv1_1 := hnew hW1 hz1
 have HGv1 := hge hz1 hb0
 clear hb0 bw hW1 hz1
 clear hs1 hqv1
 go_upto_region 7 with fail
 obtain ⟨qv2, hqv2⟩ := exq ((w1).heap.size)
 obtain ⟨w2, hW2⟩ := exq ((w1).alloc (.cells #[.string a] 258))
 have hz2 : (w1).heap.size = qv2 := hqv2.symm
 first | rw [← hW2, ← hqv2] | rw [← hW2]
 have hs2 := hsa hW2 hz2
 have bw := bal hW2
 have hb2 := hbt hb1 bw
 have HBv1_2 := hblk HBv1_1 bw
 have HNv1v2 : Hid (qv1 ≠ qv2) := fun e => by have h1 := (Array.getElem?_eq_some_iff.1 HBv1_1.out).1; omega
 have HBv2_2 := hnew hW2 hz2
 clear hb1 HBv1_1 bw hW2 hz2
 clear hs2 hqv2
 have cv1_0 := (k4c HBv1_2).1
 have fcv1_0 := hfz HBv1_2 0
 have cv1_1 := (k4c HBv1_2).2.1
 have fcv1_1 := hfz HBv1_2 1
 have cv1_2 := (k4c HBv1_2).2.2.1
 have fcv1_2 := hfz HBv1_2 2
 have cv1_3 := (k4c HBv1_2).2.2.2
 have fcv1_3 := hfz HBv1_2 3
 have cv2_0 := k1c HBv2_2
 go_wp2_with fail
 obtain ⟨w3, hW3⟩ := exq ((w2).setCell ⟨qv1, 0, none⟩ (.int .i64 2))
 rw [← hW3]
 have hb3 := hbS hW3 hb2 HGv1
 have HBv2_3 := hset hW3 HNv1v2.out.symm HBv2_2
 have HBv1_3 : Hid ((w3).heap[qv1]? = some (.cells #[.int .i64 2, .string ⟨#[]⟩, .string ⟨#[]⟩, .int .i64 0] 152)) := by show _ = _; rw [hW3]; have h := heap_set _ _ 0 _ _ _ (.int .i64 2) HBv1_2.out; simpa using h
 clear hb2 HBv1_2 HBv2_2 hW3
 obtain ⟨w4, hW4⟩ := exq ((w3).setCell ⟨qv1, 1, none⟩ (.string a))
 rw [← hW4]
 have hb4 := hbS hW4 hb3 HGv1
 have HBv2_4 := hset hW4 HNv1v2.out.symm HBv2_3
 have HBv1_4 : Hid ((w4).heap[qv1]? = some (.cells #[.int .i64 2, .string a, .string ⟨#[]⟩, .int .i64 0] 152)) := by show _ = _; rw [hW4]; have h := heap_set _ _ 1 _ _ _ (.string a) HBv1_3.out; simpa using h
 clear hb3 HBv1_3 HBv2_3 hW4
 obtain ⟨w5, hW5⟩ := exq ((w4).setCell ⟨qv1, 2, none⟩ (.string ⟨#[]⟩))
 rw [← hW5]
 have hb5 := hbS hW5 hb4 HGv1
 have HBv2_5 := hset hW5 HNv1v2.out.symm HBv2_4
 have HBv1_5 : Hid ((w5).heap[qv1]? = some (.cells #[.int .i64 2, .string a, .string ⟨#[]⟩, .int .i64 0] 152)) := by show _ = _; rw [hW5]; have h := heap_set _ _ 2 _ _ _ (.string ⟨#[]⟩) HBv1_4.out; simpa using h
 clear hb4 HBv1_4 HBv2_4 hW5
 obtain ⟨w6, hW6⟩ := exq ((w5).setCell ⟨qv1, 3, none⟩ (.int .i64 t))
 rw [← hW6]
 have hb6 := hbS hW6 hb5 HGv1
 have HBv2_6 := hset hW6 HNv1v2.out.symm HBv2_5
 have HBv1_6 : Hid ((w6).heap[qv1]? = some (.cells #[.int .i64 2, .string a, .string ⟨#[]⟩, .int .i64 t] 152)) := by show _ = _; rw [hW6]; have h := heap_set _ _ 3 _ _ _ (.int .i64 t) HBv1_5.out; simpa using h
 clear hb5 HBv1_5 HBv2_5 hW6
 have kv1_0 := (k4c HBv1_6).1
 have kv1_1 := (k4c HBv1_6).2.1
 have kv1_2 := (k4c HBv1_6).2.2.1
 have kv1_3 := (k4c HBv1_6).2.2.2
 refine bodyPost_ret (v := .agg #[.int .i64 2, .string a, .string ⟨#[]⟩, .int .i64 t]) (by simp [results, Tryz.results160, go_sem, kv1_0, kv1_1, kv1_2, kv1_3]) rfl ?_
 exact ⟨rfl, hb6⟩
theorem banOf_3 (a b : ByteArray) (t : Int) (w : World) :
  Calls Tryz.prog 160 #[.iface 260 (.agg #[.string a, .string b]), .int .i64 t] w fun e w' => e = .returned (.agg #[.int .i64 3, .string a, .string b, .int .i64 t]) ∧ Below w.heap.size w w' := by
 have hta1 : ∀ W : World, (Instr.typeAssert (.iface 260 (.agg #[.string a, .string b])) 222 256 true).run Tryz.prog W = .ok (.tuple #[.agg #[.string ⟨#[]⟩], .bool false]) W := fun _ => by kernel_rfl
 have hta2 : ∀ W : World, (Instr.typeAssert (.iface 260 (.agg #[.string a, .string b])) 222 258 true).run Tryz.prog W = .ok (.tuple #[.agg #[.string ⟨#[]⟩], .bool false]) W := fun _ => by kernel_rfl
 have hta3 : ∀ W : World, (Instr.typeAssert (.iface 260 (.agg #[.string a, .string b])) 222 260 true).run Tryz.prog W = .ok (.tuple #[.agg #[.string a, .string b], .bool true]) W := fun _ => by kernel_rfl
 have hb0 : Below w.heap.size w w := Below.refl _ _
 go_enter Tryz.func160, Tryz.ntmps160
 go_upto_region 1 with fail
 obtain ⟨qv1, hqv1⟩ := exq ((w).heap.size)
 obtain ⟨w1, hW1⟩ := exq ((w).alloc (.cells #[.int .i64 0, .string ⟨#[]⟩, .string ⟨#[]⟩, .int .i64 0] 152))
 have hz1 : (w).heap.size = qv1 := hqv1.symm
 first | rw [← hW1, ← hqv1] | rw [← hW1]
 have hs1 := hsa hW1 hz1
 have bw := bal hW1
 have hb1 := hbt hb0 bw
 have HBv1_1 := hnew hW1 hz1
 have HGv1 := hge hz1 hb0
 clear hb0 bw hW1 hz1
 clear hs1 hqv1
 go_upto_region 10 with fail
 obtain ⟨qv2, hqv2⟩ := exq ((w1).heap.size)
 obtain ⟨w2, hW2⟩ := exq ((w1).alloc (.cells #[.string a, .string b] 260))
 have hz2 : (w1).heap.size = qv2 := hqv2.symm
 first | rw [← hW2, ← hqv2] | rw [← hW2]
 have hs2 := hsa hW2 hz2
 have bw := bal hW2
 have hb2 := hbt hb1 bw
 have HBv1_2 := hblk HBv1_1 bw
 have HNv1v2 : Hid (qv1 ≠ qv2) := fun e => by have h1 := (Array.getElem?_eq_some_iff.1 HBv1_1.out).1; omega
 have HBv2_2 := hnew hW2 hz2
 clear hb1 HBv1_1 bw hW2 hz2
 clear hs2 hqv2
 have cv1_0 := (k4c HBv1_2).1
 have fcv1_0 := hfz HBv1_2 0
 have cv1_1 := (k4c HBv1_2).2.1
 have fcv1_1 := hfz HBv1_2 1
 have cv1_2 := (k4c HBv1_2).2.2.1
 have fcv1_2 := hfz HBv1_2 2
 have cv1_3 := (k4c HBv1_2).2.2.2
 have fcv1_3 := hfz HBv1_2 3
 have cv2_0 := (k2c HBv2_2).1
 have cv2_1 := (k2c HBv2_2).2
 go_wp2_with fail
 obtain ⟨w3, hW3⟩ := exq ((w2).setCell ⟨qv1, 0, none⟩ (.int .i64 3))
 rw [← hW3]
 have hb3 := hbS hW3 hb2 HGv1
 have HBv2_3 := hset hW3 HNv1v2.out.symm HBv2_2
 have HBv1_3 : Hid ((w3).heap[qv1]? = some (.cells #[.int .i64 3, .string ⟨#[]⟩, .string ⟨#[]⟩, .int .i64 0] 152)) := by show _ = _; rw [hW3]; have h := heap_set _ _ 0 _ _ _ (.int .i64 3) HBv1_2.out; simpa using h
 clear hb2 HBv1_2 HBv2_2 hW3
 obtain ⟨w4, hW4⟩ := exq ((w3).setCell ⟨qv1, 1, none⟩ (.string a))
 rw [← hW4]
 have hb4 := hbS hW4 hb3 HGv1
 have HBv2_4 := hset hW4 HNv1v2.out.symm HBv2_3
 have HBv1_4 : Hid ((w4).heap[qv1]? = some (.cells #[.int .i64 3, .string a, .string ⟨#[]⟩, .int .i64 0] 152)) := by show _ = _; rw [hW4]; have h := heap_set _ _ 1 _ _ _ (.string a) HBv1_3.out; simpa using h
 clear hb3 HBv1_3 HBv2_3 hW4
 obtain ⟨w5, hW5⟩ := exq ((w4).setCell ⟨qv1, 2, none⟩ (.string b))
 rw [← hW5]
 have hb5 := hbS hW5 hb4 HGv1
 have HBv2_5 := hset hW5 HNv1v2.out.symm HBv2_4
 have HBv1_5 : Hid ((w5).heap[qv1]? = some (.cells #[.int .i64 3, .string a, .string b, .int .i64 0] 152)) := by show _ = _; rw [hW5]; have h := heap_set _ _ 2 _ _ _ (.string b) HBv1_4.out; simpa using h
 clear hb4 HBv1_4 HBv2_4 hW5
 obtain ⟨w6, hW6⟩ := exq ((w5).setCell ⟨qv1, 3, none⟩ (.int .i64 t))
 rw [← hW6]
 have hb6 := hbS hW6 hb5 HGv1
 have HBv2_6 := hset hW6 HNv1v2.out.symm HBv2_5
 have HBv1_6 : Hid ((w6).heap[qv1]? = some (.cells #[.int .i64 3, .string a, .string b, .int .i64 t] 152)) := by show _ = _; rw [hW6]; have h := heap_set _ _ 3 _ _ _ (.int .i64 t) HBv1_5.out; simpa using h
 clear hb5 HBv1_5 HBv2_5 hW6
 have kv1_0 := (k4c HBv1_6).1
 have kv1_1 := (k4c HBv1_6).2.1
 have kv1_2 := (k4c HBv1_6).2.2.1
 have kv1_3 := (k4c HBv1_6).2.2.2
 refine bodyPost_ret (v := .agg #[.int .i64 3, .string a, .string b, .int .i64 t]) (by simp [results, Tryz.results160, go_sem, kv1_0, kv1_1, kv1_2, kv1_3]) rfl ?_
 exact ⟨rfl, hb6⟩
theorem right_1 (a : ByteArray) (w : World) (ha : a.size ≤ maxLen) :
  Calls Tryz.prog 247 #[.agg #[.string a]] w fun e w' => BoolIs (PathOk a) w e w' := by
 have HAM : Hid (a.size ≤ maxLen) := ha
 clear ha
 have hb0 : Below w.heap.size w w := Below.refl _ _
 go_enter Tryz.func247, Tryz.ntmps247
 go_upto_region 1 with fail
 obtain ⟨qv1, hqv1⟩ := exq ((w).heap.size)
 obtain ⟨w1, hW1⟩ := exq ((w).alloc (.cells #[.string a] 256))
 have hz1 : (w).heap.size = qv1 := hqv1.symm
 first | rw [← hW1, ← hqv1] | rw [← hW1]
 have hs1 := hsa hW1 hz1
 have bw := bal hW1
 have hb1 := hbt hb0 bw
 have HBv1_1 := hnew hW1 hz1
 clear hb0 bw hW1 hz1
 clear hs1 hqv1
 have cv1_0 := k1c HBv1_1
 go_wp2_with fail
 refine (pathOk_any a _ HAM.out).mono ?_
 rintro e w2 ⟨u, rfl, htu, bw⟩
 have hb2 := hbt hb1 bw
 have HBv1_2 := hblk HBv1_1 bw
 clear hb1 HBv1_1 bw
 clear cv1_0
 go_wp2_with fail
 go_ret
 exact ⟨u, rfl, htu, hb2⟩
theorem right_2 (a : ByteArray) (w : World) (ha : a.size ≤ maxLen) :
  Calls Tryz.prog 249 #[.agg #[.string a]] w fun e w' => BoolIs (PathOk a) w e w' := by
 have HAM : Hid (a.size ≤ maxLen) := ha
 clear ha
 have hb0 : Below w.heap.size w w := Below.refl _ _
 go_enter Tryz.func249, Tryz.ntmps249
 go_upto_region 1 with fail
 obtain ⟨qv1, hqv1⟩ := exq ((w).heap.size)
 obtain ⟨w1, hW1⟩ := exq ((w).alloc (.cells #[.string a] 258))
 have hz1 : (w).heap.size = qv1 := hqv1.symm
 first | rw [← hW1, ← hqv1] | rw [← hW1]
 have hs1 := hsa hW1 hz1
 have bw := bal hW1
 have hb1 := hbt hb0 bw
 have HBv1_1 := hnew hW1 hz1
 clear hb0 bw hW1 hz1
 clear hs1 hqv1
 have cv1_0 := k1c HBv1_1
 go_wp2_with fail
 refine (pathOk_any a _ HAM.out).mono ?_
 rintro e w2 ⟨u, rfl, htu, bw⟩
 have hb2 := hbt hb1 bw
 have HBv1_2 := hblk HBv1_1 bw
 clear hb1 HBv1_1 bw
 clear cv1_0
 go_wp2_with fail
 go_ret
 exact ⟨u, rfl, htu, hb2⟩
theorem right_3 (a b : ByteArray) (w : World) (ha : a.size ≤ maxLen) (hb : b.size ≤ maxLen) :
  Calls Tryz.prog 252 #[.agg #[.string a, .string b]] w fun e w' => BoolIs (TokOk a ∧ ValOk b) w e w' := by
 have HAM : Hid (a.size ≤ maxLen) := ha
 have HBM : Hid (b.size ≤ maxLen) := hb
 clear ha hb
 have hb0 : Below w.heap.size w w := Below.refl _ _
 go_enter Tryz.func252, Tryz.ntmps252
 go_upto_region 1 with fail
 obtain ⟨qv1, hqv1⟩ := exq ((w).heap.size)
 obtain ⟨w1, hW1⟩ := exq ((w).alloc (.cells #[.string a, .string b] 260))
 have hz1 : (w).heap.size = qv1 := hqv1.symm
 first | rw [← hW1, ← hqv1] | rw [← hW1]
 have hs1 := hsa hW1 hz1
 have bw := bal hW1
 have hb1 := hbt hb0 bw
 have HBv1_1 := hnew hW1 hz1
 clear hb0 bw hW1 hz1
 clear hs1 hqv1
 have cv1_0 := (k2c HBv1_1).1
 go_wp2_with fail
 refine (implTokenOk_any a _ HAM.out).mono ?_
 rintro e w2 ⟨u, rfl, htu, bw⟩
 have hb2 := hbt hb1 bw
 have HBv1_2 := hblk HBv1_1 bw
 clear hb1 HBv1_1 bw
 clear cv1_0
 cases u with
 | false =>
  have HU : Hid (¬ TokOk a) := fun h => nomatch htu.2 h
  clear htu
  go_wp2_with fail
  go_ret
  exact ⟨false, rfl, ⟨fun h => (by cases h), fun h => absurd h.1 HU.out⟩, hb2⟩
 | true =>
  have HU : Hid (TokOk a) := htu.1 rfl
  clear htu
  have cv1_1 := (k2c HBv1_2).2
  go_wp2_with fail
  refine (implValueOk_any b _ HBM.out).mono ?_
  rintro e w3 ⟨v, rfl, htv, bw⟩
  have hb3 := hbt hb2 bw
  have HBv1_3 := hblk HBv1_2 bw
  clear hb2 HBv1_2 bw
  clear cv1_1
  go_wp2_with fail
  go_ret
  exact ⟨v, rfl, ⟨fun h => ⟨HU.out, htv.1 h⟩, fun h => htv.2 h.2⟩, hb3⟩
theorem bans_1 (a : ByteArray) (p : ByteArray) (v1 v2 : Value) (st : Int) (v3 : Value) (d : ByteArray) (u : Int) (w : World) :
  Calls Tryz.prog 246 #[.agg #[.string a], .agg #[.string p, v1, v2, .int .i64 st, v3, .string d, .int .i64 u]] w fun e w' => BoolIs (p = a) w e w' := by
 have hb0 : Below w.heap.size w w := Below.refl _ _
 go_enter Tryz.func246, Tryz.ntmps246
 go_upto_region 1 with fail
 obtain ⟨qv1, hqv1⟩ := exq ((w).heap.size)
 obtain ⟨w1, hW1⟩ := exq ((w).alloc (.cells #[.string a] 256))
 have hz1 : (w).heap.size = qv1 := hqv1.symm
 first | rw [← hW1, ← hqv1] | rw [← hW1]
 have hs1 := hsa hW1 hz1
 have bw := bal hW1
 have hb1 := hbt hb0 bw
 have HBv1_1 := hnew hW1 hz1
 clear hb0 bw hW1 hz1
 obtain ⟨qv2, hqv2⟩ := exq (qv1 + 1)
 obtain ⟨w2, hW2⟩ := exq ((w1).alloc (.cells #[.string p, v1, v2, .int .i64 st, v3, .string d, .int .i64 u] 66))
 have hz2 : (w1).heap.size = qv2 := by rw [hqv2]; exact hs1
 first | rw [← hW2, ← hqv2] | rw [← hW2]
 have hs2 := hsa hW2 hz2
 have bw := bal hW2
 have hb2 := hbt hb1 bw
 have HBv1_2 := hblk HBv1_1 bw
 have HBv2_2 := hnew hW2 hz2
 clear hb1 HBv1_1 bw hW2 hz2
 clear hs2 hqv2 hs1 hqv1
 have cv1_0 := k1c HBv1_2
 have cv2_0 := (k7c HBv2_2).1
 by_cases hc1 : p = a
 ·
  have hc1b : ((p).toList == (a).toList) = true := (text_beq _ _).2 hc1
  go_wp2_with fail
  go_ret
  exact ⟨true, rfl, by simpa using hc1, hb2⟩
 ·
  have hc1b : ((p).toList == (a).toList) = false := text_beq_no hc1
  go_wp2_with fail
  go_ret
  exact ⟨false, rfl, by simpa using hc1, hb2⟩
theorem begins_prefix (a p : ByteArray) : (bs a).isPrefixOf (bs p) = true ↔ Begins a p := by
 rw [List.isPrefixOf_iff_prefix]
 constructor
 · rintro ⟨r, h⟩; exact ⟨r, h.symm⟩
 · rintro ⟨r, h⟩; exact ⟨r, h.symm⟩
theorem bans_2 (a : ByteArray) (p : ByteArray) (v1 v2 : Value) (st : Int) (v3 : Value) (d : ByteArray) (u : Int) (w : World) (hp : p.size ≤ maxLen) :
  Calls Tryz.prog 248 #[.agg #[.string a], .agg #[.string p, v1, v2, .int .i64 st, v3, .string d, .int .i64 u]] w fun e w' => BoolIs (Begins a p) w e w' := by
 have HPM : Hid (p.size ≤ maxLen) := hp
 clear hp
 have hb0 : Below w.heap.size w w := Below.refl _ _
 go_enter Tryz.func248, Tryz.ntmps248
 go_upto_region 1 with fail
 obtain ⟨qv1, hqv1⟩ := exq ((w).heap.size)
 obtain ⟨w1, hW1⟩ := exq ((w).alloc (.cells #[.string a] 258))
 have hz1 : (w).heap.size = qv1 := hqv1.symm
 first | rw [← hW1, ← hqv1] | rw [← hW1]
 have hs1 := hsa hW1 hz1
 have bw := bal hW1
 have hb1 := hbt hb0 bw
 have HBv1_1 := hnew hW1 hz1
 clear hb0 bw hW1 hz1
 obtain ⟨qv2, hqv2⟩ := exq (qv1 + 1)
 obtain ⟨w2, hW2⟩ := exq ((w1).alloc (.cells #[.string p, v1, v2, .int .i64 st, v3, .string d, .int .i64 u] 66))
 have hz2 : (w1).heap.size = qv2 := by rw [hqv2]; exact hs1
 first | rw [← hW2, ← hqv2] | rw [← hW2]
 have hs2 := hsa hW2 hz2
 have bw := bal hW2
 have hb2 := hbt hb1 bw
 have HBv1_2 := hblk HBv1_1 bw
 have HBv2_2 := hnew hW2 hz2
 clear hb1 HBv1_1 bw hW2 hz2
 clear hs2 hqv2 hs1 hqv1
 have cv1_0 := k1c HBv1_2
 have cv2_0 := (k7c HBv2_2).1
 go_wp2_with fail
 refine (Tryz.strings_HasPrefix p a _).mono ?_
 rintro e w3 ⟨rfl, hwe⟩
 have bw : Below (w2).heap.size (w2) w3 := by rw [hwe]; exact Below.refl _ _
 clear hwe
 obtain ⟨u9, hu9⟩ := exq (Lib.hasPrefix p.data.toList a.data.toList)
 rw [← hu9]
 have HU9 : Hid (u9 = Lib.hasPrefix p.data.toList a.data.toList) := hu9
 clear hu9
 have hb3 := hbt hb2 bw
 have HBv1_3 := hblk HBv1_2 bw
 have HBv2_3 := hblk HBv2_2 bw
 clear hb2 HBv1_2 HBv2_2 bw
 clear cv1_0 cv2_0
 go_wp2_with fail
 go_ret
 exact ⟨u9, rfl, by rw [HU9.out]; exact begins_prefix a p, hb3⟩
theorem bans_3 (a b : ByteArray) (p : ByteArray) (v1 v2 : Value) (st : Int) (v3 : Value) (d : ByteArray) (u : Int) (w : World) (n3 base : Nat) (fs : List (ByteArray × ByteArray)) (h3 : FieldsV w base v3 n3 fs) (hn3 : n3 ≤ 2000000) (hc : CopyF fs) :
    Calls Tryz.prog 251 #[.agg #[.string a, .string b], .agg #[.string p, v1, v2, .int .i64 st, v3, .string d, .int .i64 u]] w fun e w' => BoolIs (getB fs a = true ∧ getV fs a = b) w e w' := by
  have HV3 : Hid (∀ W, Below w.heap.size w W → FieldsV W base v3 n3 fs) := fun W h => h3.below h
  have HC : Hid (CopyF fs) := hc
  clear h3 hc
  have hb0 : Below w.heap.size w w := Below.refl _ _
  go_enter Tryz.func251, Tryz.ntmps251
  go_upto_region 1 with fail
  obtain ⟨qv1, hqv1⟩ := exq ((w).heap.size)
  obtain ⟨w1, hW1⟩ := exq ((w).alloc (.cells #[.string a, .string b] 260))
  have hz1 : (w).heap.size = qv1 := hqv1.symm
  first | rw [← hW1, ← hqv1] | rw [← hW1]
  have hs1 := hsa hW1 hz1
  have bw := bal hW1
  have hb1 := hbt hb0 bw
  have HBv1_1 := hnew hW1 hz1
  clear hb0 bw hW1 hz1
  obtain ⟨qv2, hqv2⟩ := exq (qv1 + 1)
  obtain ⟨w2, hW2⟩ := exq ((w1).alloc (.cells #[.string p, v1, v2, .int .i64 st, v3, .string d, .int .i64 u] 66))
  have hz2 : (w1).heap.size = qv2 := by rw [hqv2]; exact hs1
  first | rw [← hW2, ← hqv2] | rw [← hW2]
  have hs2 := hsa hW2 hz2
  have bw := bal hW2
  have hb2 := hbt hb1 bw
  have HBv1_2 := hblk HBv1_1 bw
  have HBv2_2 := hnew hW2 hz2
  clear hb1 HBv1_1 bw hW2 hz2
  clear hs2 hqv2 hs1 hqv1
  have cv1_0 := (k2c HBv1_2).1
  have cv2_4 := (k7c HBv2_2).2.2.2.2.1
  go_wp2_with fail
  refine (implGet_any _ n3 base fs a _ (HV3.out _ hb2) (by omega) HC.out).mono ?_
  rintro e w3 ⟨rfl, bw⟩
  obtain ⟨gv, hgv⟩ := exq (getV fs a)
  obtain ⟨ug, hug⟩ := exq (getB fs a)
  have HGE : Hid (getV fs a = gv) := hgv.symm
  rw [← hgv, ← hug]
  clear hgv
  have hb3 := hbt hb2 bw
  have HBv1_3 := hblk HBv1_2 bw
  have HBv2_3 := hblk HBv2_2 bw
  clear hb2 HBv1_2 HBv2_2 bw
  clear cv1_0 cv2_4
  cases ug with
  | false =>
    have Hug : Hid (¬ getB fs a = true) := (by show ¬ _; rw [← hug]; decide)
    clear hug
    go_wp2_with fail
    go_ret
    refine ⟨false, rfl, ?_, hb3⟩
    have z1 := Hug.out
    have z2 := HGE.out
    first
      | (have z3 := HGV.out
         simp_all; done)
      | (simp_all; done)
  | true =>
    have Hug : Hid (getB fs a = true) := hug.symm
    clear hug
    have cv1_1 := (k2c HBv1_3).2
    by_cases hc1 : gv = b
    · have hc1b : ((gv).toList == (b).toList) = true := (text_beq _ _).2 hc1
      have HGV : Hid (gv = b) := hc1
      go_wp2_with fail
      go_ret
      refine ⟨true, rfl, ?_, hb3⟩
      have z1 := Hug.out
      have z2 := HGE.out
      first
        | (have z3 := HGV.out
           simp_all; done)
        | (simp_all; done)
    · have hc1b : ((gv).toList == (b).toList) = false := text_beq_no hc1
      have HGV : Hid (¬ gv = b) := hc1
      go_wp2_with fail
      go_ret
      refine ⟨false, rfl, ?_, hb3⟩
      have z1 := Hug.out
      have z2 := HGE.out
      first
        | (have z3 := HGV.out
           simp_all; done)
        | (simp_all; done)
end Go.Proofs.YtbmhonfgffjpcaaGreat
namespace Go.Proofs.YtbmhonfgffjpcaaGreat
open Go.RowKit
open Go.Lib hiding intOf
theorem guardBan : Tryz.prog.eqGuardType Tryz.prog.depth 152 = false := by kernel_rfl
open Classical in
theorem eqBanIn (k k' : Int) (a a' b b' : ByteArray) (t t' : Int) (w : World) : (Op.equalIn 10000 152 (.agg #[.int .i64 k, .string a, .string b, .int .i64 t]) (.agg #[.int .i64 k', .string a', .string b', .int .i64 t'])).run Tryz.prog w = .ok (decide (k = k' ∧ a = a' ∧ b = b' ∧ t = t')) w := by
 have u3 := Tryz.underlying3
 have a3 := Tryz.isAgg3
 have z3 := Tryz.sizeOf3
 have u9 := Tryz.underlying9
 have a9 := Tryz.isAgg9
 have z9 := Tryz.sizeOf9
 have hS : Tryz.prog.underlying 152 = some (.struct (Tryz.prog.fieldsOf 152)) := by kernel_rfl
 have hp : Tryz.prog.stoodInHeld 152 = false := by kernel_rfl
 rw [show (10000 : Nat) = 9999 + 1 from rfl, run_equalIn_agg w 9999 152 _ _ hS hp]
 simp only [Program.fieldsOf, Tryz.underlying152]
 have ea : ∀ x y : ByteArray, (x.toList == y.toList) = decide (x = y) := fun x y => by
  by_cases h : x = y
  · rw [decide_eq_true h]; exact (text_beq _ _).2 h
  · rw [decide_eq_false h]; exact text_beq_no h
 go_simp
 by_cases h1 : k = k'
 ·
  by_cases h2 : a = a'
  ·
   by_cases h3 : b = b'
   ·
    by_cases h4 : t = t'
    · simp [h1, h2, h3, h4]
    · simp [h1, h2, h3, h4]
   · simp [h1, h2, h3]
  · simp [h1, h2]
 · simp [h1]
open Classical in
theorem eqlBan (k k' : Int) (a a' b b' : ByteArray) (t t' : Int) (w : World) : (binOp .eql 152 (.agg #[.int .i64 k, .string a, .string b, .int .i64 t]) (.agg #[.int .i64 k', .string a', .string b', .int .i64 t'])).run Tryz.prog w = .ok (.bool (decide (k = k' ∧ a = a' ∧ b = b' ∧ t = t'))) w := by
 rw [run_eql_struct, eqBanIn]
 rfl
theorem implBanOk_1e (a : ByteArray) (t : Int) (w : World) (ha : a.size ≤ maxLen) :
  Calls Tryz.prog 135 #[.agg #[.int .i64 1, .string a, .string ⟨#[]⟩, .int .i64 t]] w fun e w' => BoolIs (BanP 1 a ⟨#[]⟩ t) w e w' := by
 classical
 have HAM : Hid (a.size ≤ maxLen) := ha
 have hnn : ∀ W : World, (binOp .neq 222 (.iface 256 (.agg #[.string a])) .nilIface).run Tryz.prog W = .ok (.bool true) W := fun _ => by kernel_rfl
 have hna : ∀ W : World, (nilAhead 157 256 (.agg #[.string a]) "loop.example/g00239/impl.right").run Tryz.prog W = .ok (some false) W := fun _ => by kernel_rfl
 have hmt : ∀ W : World, (method 157 256 (.agg #[.string a]) "loop.example/g00239/impl.right").run Tryz.prog W = .ok (247, .agg #[.string a]) W := fun _ => by kernel_rfl
 have hgb := guardBan
 have hqe : ∀ W : World, (binOp .eql 152 (.agg #[.int .i64 1, .string a, .string ⟨#[]⟩, .int .i64 t]) (.agg #[.int .i64 1, .string a, .string ⟨#[]⟩, .int .i64 t])).run Tryz.prog W = .ok (.bool true) W := fun W => by
  rw [eqlBan]
  first | (simp; done) | (have z := HB0.out; simp; exact fun e => z e.symm)
 clear ha
 have hb0 : Below w.heap.size w w := Below.refl _ _
 go_enter Tryz.func135, Tryz.ntmps135
 go_upto_region 1 with fail
 obtain ⟨qv1, hqv1⟩ := exq ((w).heap.size)
 obtain ⟨w1, hW1⟩ := exq ((w).alloc (.cells #[.int .i64 1, .string a, .string ⟨#[]⟩, .int .i64 t] 152))
 have hz1 : (w).heap.size = qv1 := hqv1.symm
 first | rw [← hW1, ← hqv1] | rw [← hW1]
 have hs1 := hsa hW1 hz1
 have bw := bal hW1
 have hb1 := hbt hb0 bw
 have HBv1_1 := hnew hW1 hz1
 clear hb0 bw hW1 hz1
 clear hs1 hqv1
 have cv1_0 := (k4c HBv1_1).1
 have cv1_1 := (k4c HBv1_1).2.1
 have cv1_2 := (k4c HBv1_1).2.2.1
 have cv1_3 := (k4c HBv1_1).2.2.2
 go_wp2_with fail
 refine (ruleOf_1 a ⟨#[]⟩ t _).mono ?_
 rintro e w2 ⟨rfl, bw⟩
 have hb2 := hbt hb1 bw
 have HBv1_2 := hblk HBv1_1 bw
 clear hb1 HBv1_1 bw
 clear cv1_0 cv1_1 cv1_2 cv1_3
 go_upto_region 2 with fail
 refine wp_region_held_drew (S := fun W => W.heap[qv1]? = some (.cells #[.int .i64 1, .string a, .string ⟨#[]⟩, .int .i64 t] 152)) (by kernel_rfl) HBv1_2.out (fun _ => ?_)
 obtain ⟨w3, hX⟩ := exq w2.drew
 have bw := bdr hX
 rw [← hX]
 have hb3 := hbt hb2 bw
 have HBv1_3 := hblk HBv1_2 bw
 have hS3 := HBv1_3.out
 clear hb2 HBv1_2 bw hX
 refine tkP 0 (.iface 256 (.agg #[.string a])) 6 rfl rfl hS3 ?_
 go_frame
 refine tkP 1 (.bool true) 7 rfl rfl hS3 ?_
 go_frame
 refine tkP 2 (.bool true) 8 rfl rfl hS3 ?_
 go_frame
 refine tkP 3 (.iface 256 (.agg #[.string a])) 9 rfl rfl hS3 ?_
 go_frame
 refine rd1 4 rfl (fun K hK => ?_)
 go_simp
 refine (right_1 a _ HAM.out).mono ?_
 rintro e w4 ⟨ur, rfl, htur, bw⟩
 have hb4 := hbt hb3 bw
 have HBv1_4 := hblk HBv1_3 bw
 clear hb3 HBv1_3 bw
 have hS4 := HBv1_4.out
 refine hK.out _ _ hS4 (fun _ => ?_)
 clear hK K hS3
 refine tkP 5 (.bool ur) 11 rfl rfl hS4 ?_
 go_frame
 refine tkP 6 (.bool ur) 12 rfl rfl hS4 ?_
 go_frame
 cases ur with
 | false =>
  have Hur : Hid (¬ (PathOk a)) := fun h => nomatch htur.2 h
  clear htur
  refine tkN 7 13 rfl rfl hS4 ?_
  go_frame
  refine tkN 8 14 rfl rfl hS4 ?_
  go_frame
  refine tkN 9 15 rfl rfl hS4 ?_
  go_frame
  refine tkP 10 (.bool false) 16 rfl rfl hS4 ?_
  go_frame
  refine tkP 11 (.bool false) 17 rfl rfl hS4 ?_
  go_frame
  refine tkN 12 18 rfl rfl hS4 ?_
  go_frame
  refine tkN 13 19 rfl rfl hS4 ?_
  go_frame
  refine tkN 14 20 rfl rfl hS4 ?_
  go_frame
  refine tkN 15 21 rfl rfl hS4 ?_
  go_frame
  refine tkN 16 22 rfl rfl hS4 ?_
  go_frame
  refine tkN 17 23 rfl rfl hS4 ?_
  go_frame
  refine tkP 18 (.bool false) 24 rfl rfl hS4 ?_
  go_frame
  refine tkP 19 (.bool false) 2 rfl rfl hS4 ?_
  go_frame
  clear hS4
  refine wpAnyH_done (by kernel_rfl) ?_ _
  go_wp2_with fail
  go_ret
  refine ⟨false, rfl, ?_, hb4⟩
  have zHur := Hur.out
  unfold BanP
  simp_all
 | true =>
  have Hur : Hid (PathOk a) := htur.1 rfl
  clear htur
  refine tkP 7 (.pointer (some ⟨qv1, 3, none⟩)) 13 rfl rfl hS4 ?_
  go_frame
  refine tkL 8 (.int .i64 t) 14 rfl rfl (Or.inl ⟨by rfl, by intro W hW; have hhv1 := hW; have y3 := (cell_of hhv1 3).trans rfl; go_simp⟩) hS4 ?_
  go_frame
  refine rd1 9 rfl (fun K hK => ?_)
  go_simp
  refine (timeOk_any t _).mono ?_
  rintro e w5 ⟨rfl, hwe⟩
  have bw : Below (w4).heap.size (w4) w5 := by rw [hwe]; exact Below.refl _ _
  clear hwe
  obtain ⟨ut, hut⟩ : ∃ u, u = decide ((0 : Int) ≤ t ∧ t ≤ 1000000) := ⟨_, rfl⟩
  rw [← hut]
  have hb5 := hbt hb4 bw
  have HBv1_5 := hblk HBv1_4 bw
  clear hb4 HBv1_4 bw
  have hS5 := HBv1_5.out
  refine hK.out _ _ hS5 (fun _ => ?_)
  clear hK K hS4
  refine tkP 10 (.bool ut) 16 rfl rfl hS5 ?_
  go_frame
  refine tkP 11 (.bool ut) 17 rfl rfl hS5 ?_
  go_frame
  cases ut with
  | false =>
   have Hut : Hid (¬ (0 ≤ t ∧ t ≤ 1000000)) := (show ¬ (0 ≤ t ∧ t ≤ 1000000) from of_decide_eq_false hut.symm)
   clear hut
   refine tkN 12 18 rfl rfl hS5 ?_
   go_frame
   refine tkN 13 19 rfl rfl hS5 ?_
   go_frame
   refine tkN 14 20 rfl rfl hS5 ?_
   go_frame
   refine tkN 15 21 rfl rfl hS5 ?_
   go_frame
   refine tkN 16 22 rfl rfl hS5 ?_
   go_frame
   refine tkN 17 23 rfl rfl hS5 ?_
   go_frame
   refine tkP 18 (.bool false) 24 rfl rfl hS5 ?_
   go_frame
   refine tkP 19 (.bool false) 2 rfl rfl hS5 ?_
   go_frame
   clear hS5
   refine wpAnyH_done (by kernel_rfl) ?_ _
   go_wp2_with fail
   go_ret
   refine ⟨false, rfl, ?_, hb5⟩
   have zHur := Hur.out
   have zHut := Hut.out
   unfold BanP
   simp_all
  | true =>
   have Hut : Hid (0 ≤ t ∧ t ≤ 1000000) := (show 0 ≤ t ∧ t ≤ 1000000 from of_decide_eq_true hut.symm)
   clear hut
   refine tkP 12 (.iface 256 (.agg #[.string a])) 18 rfl rfl hS5 ?_
   go_frame
   refine tkP 13 (.pointer (some ⟨qv1, 3, none⟩)) 19 rfl rfl hS5 ?_
   go_frame
   refine tkL 14 (.int .i64 t) 20 rfl rfl (Or.inl ⟨by rfl, by intro W hW; have hhv1 := hW; have y3 := (cell_of hhv1 3).trans rfl; go_simp⟩) hS5 ?_
   go_frame
   refine tkL 16 (.agg #[.int .i64 1, .string a, .string ⟨#[]⟩, .int .i64 t]) 22 rfl rfl (Or.inl ⟨by rfl, by intro W hW; have hhv1 := hW; have y0 := (cell_of hhv1 0).trans rfl; have y1 := (cell_of hhv1 1).trans rfl; have y2 := (cell_of hhv1 2).trans rfl; have y3 := (cell_of hhv1 3).trans rfl; go_simp⟩) hS5 ?_
   go_frame
   refine rd1 15 rfl (fun K hK => ?_)
   go_simp
   refine (banOf_1 a t _).mono ?_
   rintro e w6 ⟨rfl, bw⟩
   have hb6 := hbt hb5 bw
   have HBv1_6 := hblk HBv1_5 bw
   clear hb5 HBv1_5 bw
   have hS6 := HBv1_6.out
   refine hK.out _ _ hS6 (fun _ => ?_)
   clear hK K hS5
   refine tkP 17 (.bool true) 23 rfl rfl hS6 ?_
   go_frame
   refine tkP 18 (.bool true) 24 rfl rfl hS6 ?_
   go_frame
   refine tkP 19 (.bool true) 2 rfl rfl hS6 ?_
   go_frame
   clear hS6
   refine wpAnyH_done (by kernel_rfl) ?_ _
   go_wp2_with fail
   go_ret
   refine ⟨true, rfl, ?_, hb6⟩
   have zHur := Hur.out
   have zHut := Hut.out
   unfold BanP
   simp_all
theorem implBanOk_1n (a b : ByteArray) (t : Int) (w : World) (ha : a.size ≤ maxLen) (hb0 : ¬ b = ⟨#[]⟩) :
  Calls Tryz.prog 135 #[.agg #[.int .i64 1, .string a, .string b, .int .i64 t]] w fun e w' => BoolIs (BanP 1 a b t) w e w' := by
 classical
 have HAM : Hid (a.size ≤ maxLen) := ha
 have HB0 : Hid (¬ b = ⟨#[]⟩) := hb0
 have hnn : ∀ W : World, (binOp .neq 222 (.iface 256 (.agg #[.string a])) .nilIface).run Tryz.prog W = .ok (.bool true) W := fun _ => by kernel_rfl
 have hna : ∀ W : World, (nilAhead 157 256 (.agg #[.string a]) "loop.example/g00239/impl.right").run Tryz.prog W = .ok (some false) W := fun _ => by kernel_rfl
 have hmt : ∀ W : World, (method 157 256 (.agg #[.string a]) "loop.example/g00239/impl.right").run Tryz.prog W = .ok (247, .agg #[.string a]) W := fun _ => by kernel_rfl
 have hgb := guardBan
 have hqe : ∀ W : World, (binOp .eql 152 (.agg #[.int .i64 1, .string a, .string ⟨#[]⟩, .int .i64 t]) (.agg #[.int .i64 1, .string a, .string b, .int .i64 t])).run Tryz.prog W = .ok (.bool false) W := fun W => by
  rw [eqlBan]
  first | (simp; done) | (have z := HB0.out; simp; exact fun e => z e.symm)
 clear ha hb0
 have hb0 : Below w.heap.size w w := Below.refl _ _
 go_enter Tryz.func135, Tryz.ntmps135
 go_upto_region 1 with fail
 obtain ⟨qv1, hqv1⟩ := exq ((w).heap.size)
 obtain ⟨w1, hW1⟩ := exq ((w).alloc (.cells #[.int .i64 1, .string a, .string b, .int .i64 t] 152))
 have hz1 : (w).heap.size = qv1 := hqv1.symm
 first | rw [← hW1, ← hqv1] | rw [← hW1]
 have hs1 := hsa hW1 hz1
 have bw := bal hW1
 have hb1 := hbt hb0 bw
 have HBv1_1 := hnew hW1 hz1
 clear hb0 bw hW1 hz1
 clear hs1 hqv1
 have cv1_0 := (k4c HBv1_1).1
 have cv1_1 := (k4c HBv1_1).2.1
 have cv1_2 := (k4c HBv1_1).2.2.1
 have cv1_3 := (k4c HBv1_1).2.2.2
 go_wp2_with fail
 refine (ruleOf_1 a b t _).mono ?_
 rintro e w2 ⟨rfl, bw⟩
 have hb2 := hbt hb1 bw
 have HBv1_2 := hblk HBv1_1 bw
 clear hb1 HBv1_1 bw
 clear cv1_0 cv1_1 cv1_2 cv1_3
 go_upto_region 2 with fail
 refine wp_region_held_drew (S := fun W => W.heap[qv1]? = some (.cells #[.int .i64 1, .string a, .string b, .int .i64 t] 152)) (by kernel_rfl) HBv1_2.out (fun _ => ?_)
 obtain ⟨w3, hX⟩ := exq w2.drew
 have bw := bdr hX
 rw [← hX]
 have hb3 := hbt hb2 bw
 have HBv1_3 := hblk HBv1_2 bw
 have hS3 := HBv1_3.out
 clear hb2 HBv1_2 bw hX
 refine tkP 0 (.iface 256 (.agg #[.string a])) 6 rfl rfl hS3 ?_
 go_frame
 refine tkP 1 (.bool true) 7 rfl rfl hS3 ?_
 go_frame
 refine tkP 2 (.bool true) 8 rfl rfl hS3 ?_
 go_frame
 refine tkP 3 (.iface 256 (.agg #[.string a])) 9 rfl rfl hS3 ?_
 go_frame
 refine rd1 4 rfl (fun K hK => ?_)
 go_simp
 refine (right_1 a _ HAM.out).mono ?_
 rintro e w4 ⟨ur, rfl, htur, bw⟩
 have hb4 := hbt hb3 bw
 have HBv1_4 := hblk HBv1_3 bw
 clear hb3 HBv1_3 bw
 have hS4 := HBv1_4.out
 refine hK.out _ _ hS4 (fun _ => ?_)
 clear hK K hS3
 refine tkP 5 (.bool ur) 11 rfl rfl hS4 ?_
 go_frame
 refine tkP 6 (.bool ur) 12 rfl rfl hS4 ?_
 go_frame
 cases ur with
 | false =>
  have Hur : Hid (¬ (PathOk a)) := fun h => nomatch htur.2 h
  clear htur
  refine tkN 7 13 rfl rfl hS4 ?_
  go_frame
  refine tkN 8 14 rfl rfl hS4 ?_
  go_frame
  refine tkN 9 15 rfl rfl hS4 ?_
  go_frame
  refine tkP 10 (.bool false) 16 rfl rfl hS4 ?_
  go_frame
  refine tkP 11 (.bool false) 17 rfl rfl hS4 ?_
  go_frame
  refine tkN 12 18 rfl rfl hS4 ?_
  go_frame
  refine tkN 13 19 rfl rfl hS4 ?_
  go_frame
  refine tkN 14 20 rfl rfl hS4 ?_
  go_frame
  refine tkN 15 21 rfl rfl hS4 ?_
  go_frame
  refine tkN 16 22 rfl rfl hS4 ?_
  go_frame
  refine tkN 17 23 rfl rfl hS4 ?_
  go_frame
  refine tkP 18 (.bool false) 24 rfl rfl hS4 ?_
  go_frame
  refine tkP 19 (.bool false) 2 rfl rfl hS4 ?_
  go_frame
  clear hS4
  refine wpAnyH_done (by kernel_rfl) ?_ _
  go_wp2_with fail
  go_ret
  refine ⟨false, rfl, ?_, hb4⟩
  have zHur := Hur.out
  have zHB := HB0.out
  unfold BanP
  simp_all
 | true =>
  have Hur : Hid (PathOk a) := htur.1 rfl
  clear htur
  refine tkP 7 (.pointer (some ⟨qv1, 3, none⟩)) 13 rfl rfl hS4 ?_
  go_frame
  refine tkL 8 (.int .i64 t) 14 rfl rfl (Or.inl ⟨by rfl, by intro W hW; have hhv1 := hW; have y3 := (cell_of hhv1 3).trans rfl; go_simp⟩) hS4 ?_
  go_frame
  refine rd1 9 rfl (fun K hK => ?_)
  go_simp
  refine (timeOk_any t _).mono ?_
  rintro e w5 ⟨rfl, hwe⟩
  have bw : Below (w4).heap.size (w4) w5 := by rw [hwe]; exact Below.refl _ _
  clear hwe
  obtain ⟨ut, hut⟩ : ∃ u, u = decide ((0 : Int) ≤ t ∧ t ≤ 1000000) := ⟨_, rfl⟩
  rw [← hut]
  have hb5 := hbt hb4 bw
  have HBv1_5 := hblk HBv1_4 bw
  clear hb4 HBv1_4 bw
  have hS5 := HBv1_5.out
  refine hK.out _ _ hS5 (fun _ => ?_)
  clear hK K hS4
  refine tkP 10 (.bool ut) 16 rfl rfl hS5 ?_
  go_frame
  refine tkP 11 (.bool ut) 17 rfl rfl hS5 ?_
  go_frame
  cases ut with
  | false =>
   have Hut : Hid (¬ (0 ≤ t ∧ t ≤ 1000000)) := (show ¬ (0 ≤ t ∧ t ≤ 1000000) from of_decide_eq_false hut.symm)
   clear hut
   refine tkN 12 18 rfl rfl hS5 ?_
   go_frame
   refine tkN 13 19 rfl rfl hS5 ?_
   go_frame
   refine tkN 14 20 rfl rfl hS5 ?_
   go_frame
   refine tkN 15 21 rfl rfl hS5 ?_
   go_frame
   refine tkN 16 22 rfl rfl hS5 ?_
   go_frame
   refine tkN 17 23 rfl rfl hS5 ?_
   go_frame
   refine tkP 18 (.bool false) 24 rfl rfl hS5 ?_
   go_frame
   refine tkP 19 (.bool false) 2 rfl rfl hS5 ?_
   go_frame
   clear hS5
   refine wpAnyH_done (by kernel_rfl) ?_ _
   go_wp2_with fail
   go_ret
   refine ⟨false, rfl, ?_, hb5⟩
   have zHur := Hur.out
   have zHut := Hut.out
   have zHB := HB0.out
   unfold BanP
   simp_all
  | true =>
   have Hut : Hid (0 ≤ t ∧ t ≤ 1000000) := (show 0 ≤ t ∧ t ≤ 1000000 from of_decide_eq_true hut.symm)
   clear hut
   refine tkP 12 (.iface 256 (.agg #[.string a])) 18 rfl rfl hS5 ?_
   go_frame
   refine tkP 13 (.pointer (some ⟨qv1, 3, none⟩)) 19 rfl rfl hS5 ?_
   go_frame
   refine tkL 14 (.int .i64 t) 20 rfl rfl (Or.inl ⟨by rfl, by intro W hW; have hhv1 := hW; have y3 := (cell_of hhv1 3).trans rfl; go_simp⟩) hS5 ?_
   go_frame
   refine tkL 16 (.agg #[.int .i64 1, .string a, .string b, .int .i64 t]) 22 rfl rfl (Or.inl ⟨by rfl, by intro W hW; have hhv1 := hW; have y0 := (cell_of hhv1 0).trans rfl; have y1 := (cell_of hhv1 1).trans rfl; have y2 := (cell_of hhv1 2).trans rfl; have y3 := (cell_of hhv1 3).trans rfl; go_simp⟩) hS5 ?_
   go_frame
   refine rd1 15 rfl (fun K hK => ?_)
   go_simp
   refine (banOf_1 a t _).mono ?_
   rintro e w6 ⟨rfl, bw⟩
   have hb6 := hbt hb5 bw
   have HBv1_6 := hblk HBv1_5 bw
   clear hb5 HBv1_5 bw
   have hS6 := HBv1_6.out
   refine hK.out _ _ hS6 (fun _ => ?_)
   clear hK K hS5
   refine tkP 17 (.bool false) 23 rfl rfl hS6 ?_
   go_frame
   refine tkP 18 (.bool false) 24 rfl rfl hS6 ?_
   go_frame
   refine tkP 19 (.bool false) 2 rfl rfl hS6 ?_
   go_frame
   clear hS6
   refine wpAnyH_done (by kernel_rfl) ?_ _
   go_wp2_with fail
   go_ret
   refine ⟨false, rfl, ?_, hb6⟩
   have zHur := Hur.out
   have zHut := Hut.out
   have zHB := HB0.out
   unfold BanP
   simp_all
theorem implBanOk_2e (a : ByteArray) (t : Int) (w : World) (ha : a.size ≤ maxLen) :
  Calls Tryz.prog 135 #[.agg #[.int .i64 2, .string a, .string ⟨#[]⟩, .int .i64 t]] w fun e w' => BoolIs (BanP 2 a ⟨#[]⟩ t) w e w' := by
 classical
 have HAM : Hid (a.size ≤ maxLen) := ha
 have hnn : ∀ W : World, (binOp .neq 222 (.iface 258 (.agg #[.string a])) .nilIface).run Tryz.prog W = .ok (.bool true) W := fun _ => by kernel_rfl
 have hna : ∀ W : World, (nilAhead 157 258 (.agg #[.string a]) "loop.example/g00239/impl.right").run Tryz.prog W = .ok (some false) W := fun _ => by kernel_rfl
 have hmt : ∀ W : World, (method 157 258 (.agg #[.string a]) "loop.example/g00239/impl.right").run Tryz.prog W = .ok (249, .agg #[.string a]) W := fun _ => by kernel_rfl
 have hgb := guardBan
 have hqe : ∀ W : World, (binOp .eql 152 (.agg #[.int .i64 2, .string a, .string ⟨#[]⟩, .int .i64 t]) (.agg #[.int .i64 2, .string a, .string ⟨#[]⟩, .int .i64 t])).run Tryz.prog W = .ok (.bool true) W := fun W => by
  rw [eqlBan]
  first | (simp; done) | (have z := HB0.out; simp; exact fun e => z e.symm)
 clear ha
 have hb0 : Below w.heap.size w w := Below.refl _ _
 go_enter Tryz.func135, Tryz.ntmps135
 go_upto_region 1 with fail
 obtain ⟨qv1, hqv1⟩ := exq ((w).heap.size)
 obtain ⟨w1, hW1⟩ := exq ((w).alloc (.cells #[.int .i64 2, .string a, .string ⟨#[]⟩, .int .i64 t] 152))
 have hz1 : (w).heap.size = qv1 := hqv1.symm
 first | rw [← hW1, ← hqv1] | rw [← hW1]
 have hs1 := hsa hW1 hz1
 have bw := bal hW1
 have hb1 := hbt hb0 bw
 have HBv1_1 := hnew hW1 hz1
 clear hb0 bw hW1 hz1
 clear hs1 hqv1
 have cv1_0 := (k4c HBv1_1).1
 have cv1_1 := (k4c HBv1_1).2.1
 have cv1_2 := (k4c HBv1_1).2.2.1
 have cv1_3 := (k4c HBv1_1).2.2.2
 go_wp2_with fail
 refine (ruleOf_2 a ⟨#[]⟩ t _).mono ?_
 rintro e w2 ⟨rfl, bw⟩
 have hb2 := hbt hb1 bw
 have HBv1_2 := hblk HBv1_1 bw
 clear hb1 HBv1_1 bw
 clear cv1_0 cv1_1 cv1_2 cv1_3
 go_upto_region 2 with fail
 refine wp_region_held_drew (S := fun W => W.heap[qv1]? = some (.cells #[.int .i64 2, .string a, .string ⟨#[]⟩, .int .i64 t] 152)) (by kernel_rfl) HBv1_2.out (fun _ => ?_)
 obtain ⟨w3, hX⟩ := exq w2.drew
 have bw := bdr hX
 rw [← hX]
 have hb3 := hbt hb2 bw
 have HBv1_3 := hblk HBv1_2 bw
 have hS3 := HBv1_3.out
 clear hb2 HBv1_2 bw hX
 refine tkP 0 (.iface 258 (.agg #[.string a])) 6 rfl rfl hS3 ?_
 go_frame
 refine tkP 1 (.bool true) 7 rfl rfl hS3 ?_
 go_frame
 refine tkP 2 (.bool true) 8 rfl rfl hS3 ?_
 go_frame
 refine tkP 3 (.iface 258 (.agg #[.string a])) 9 rfl rfl hS3 ?_
 go_frame
 refine rd1 4 rfl (fun K hK => ?_)
 go_simp
 refine (right_2 a _ HAM.out).mono ?_
 rintro e w4 ⟨ur, rfl, htur, bw⟩
 have hb4 := hbt hb3 bw
 have HBv1_4 := hblk HBv1_3 bw
 clear hb3 HBv1_3 bw
 have hS4 := HBv1_4.out
 refine hK.out _ _ hS4 (fun _ => ?_)
 clear hK K hS3
 refine tkP 5 (.bool ur) 11 rfl rfl hS4 ?_
 go_frame
 refine tkP 6 (.bool ur) 12 rfl rfl hS4 ?_
 go_frame
 cases ur with
 | false =>
  have Hur : Hid (¬ (PathOk a)) := fun h => nomatch htur.2 h
  clear htur
  refine tkN 7 13 rfl rfl hS4 ?_
  go_frame
  refine tkN 8 14 rfl rfl hS4 ?_
  go_frame
  refine tkN 9 15 rfl rfl hS4 ?_
  go_frame
  refine tkP 10 (.bool false) 16 rfl rfl hS4 ?_
  go_frame
  refine tkP 11 (.bool false) 17 rfl rfl hS4 ?_
  go_frame
  refine tkN 12 18 rfl rfl hS4 ?_
  go_frame
  refine tkN 13 19 rfl rfl hS4 ?_
  go_frame
  refine tkN 14 20 rfl rfl hS4 ?_
  go_frame
  refine tkN 15 21 rfl rfl hS4 ?_
  go_frame
  refine tkN 16 22 rfl rfl hS4 ?_
  go_frame
  refine tkN 17 23 rfl rfl hS4 ?_
  go_frame
  refine tkP 18 (.bool false) 24 rfl rfl hS4 ?_
  go_frame
  refine tkP 19 (.bool false) 2 rfl rfl hS4 ?_
  go_frame
  clear hS4
  refine wpAnyH_done (by kernel_rfl) ?_ _
  go_wp2_with fail
  go_ret
  refine ⟨false, rfl, ?_, hb4⟩
  have zHur := Hur.out
  unfold BanP
  simp_all
 | true =>
  have Hur : Hid (PathOk a) := htur.1 rfl
  clear htur
  refine tkP 7 (.pointer (some ⟨qv1, 3, none⟩)) 13 rfl rfl hS4 ?_
  go_frame
  refine tkL 8 (.int .i64 t) 14 rfl rfl (Or.inl ⟨by rfl, by intro W hW; have hhv1 := hW; have y3 := (cell_of hhv1 3).trans rfl; go_simp⟩) hS4 ?_
  go_frame
  refine rd1 9 rfl (fun K hK => ?_)
  go_simp
  refine (timeOk_any t _).mono ?_
  rintro e w5 ⟨rfl, hwe⟩
  have bw : Below (w4).heap.size (w4) w5 := by rw [hwe]; exact Below.refl _ _
  clear hwe
  obtain ⟨ut, hut⟩ : ∃ u, u = decide ((0 : Int) ≤ t ∧ t ≤ 1000000) := ⟨_, rfl⟩
  rw [← hut]
  have hb5 := hbt hb4 bw
  have HBv1_5 := hblk HBv1_4 bw
  clear hb4 HBv1_4 bw
  have hS5 := HBv1_5.out
  refine hK.out _ _ hS5 (fun _ => ?_)
  clear hK K hS4
  refine tkP 10 (.bool ut) 16 rfl rfl hS5 ?_
  go_frame
  refine tkP 11 (.bool ut) 17 rfl rfl hS5 ?_
  go_frame
  cases ut with
  | false =>
   have Hut : Hid (¬ (0 ≤ t ∧ t ≤ 1000000)) := (show ¬ (0 ≤ t ∧ t ≤ 1000000) from of_decide_eq_false hut.symm)
   clear hut
   refine tkN 12 18 rfl rfl hS5 ?_
   go_frame
   refine tkN 13 19 rfl rfl hS5 ?_
   go_frame
   refine tkN 14 20 rfl rfl hS5 ?_
   go_frame
   refine tkN 15 21 rfl rfl hS5 ?_
   go_frame
   refine tkN 16 22 rfl rfl hS5 ?_
   go_frame
   refine tkN 17 23 rfl rfl hS5 ?_
   go_frame
   refine tkP 18 (.bool false) 24 rfl rfl hS5 ?_
   go_frame
   refine tkP 19 (.bool false) 2 rfl rfl hS5 ?_
   go_frame
   clear hS5
   refine wpAnyH_done (by kernel_rfl) ?_ _
   go_wp2_with fail
   go_ret
   refine ⟨false, rfl, ?_, hb5⟩
   have zHur := Hur.out
   have zHut := Hut.out
   unfold BanP
   simp_all
  | true =>
   have Hut : Hid (0 ≤ t ∧ t ≤ 1000000) := (show 0 ≤ t ∧ t ≤ 1000000 from of_decide_eq_true hut.symm)
   clear hut
   refine tkP 12 (.iface 258 (.agg #[.string a])) 18 rfl rfl hS5 ?_
   go_frame
   refine tkP 13 (.pointer (some ⟨qv1, 3, none⟩)) 19 rfl rfl hS5 ?_
   go_frame
   refine tkL 14 (.int .i64 t) 20 rfl rfl (Or.inl ⟨by rfl, by intro W hW; have hhv1 := hW; have y3 := (cell_of hhv1 3).trans rfl; go_simp⟩) hS5 ?_
   go_frame
   refine tkL 16 (.agg #[.int .i64 2, .string a, .string ⟨#[]⟩, .int .i64 t]) 22 rfl rfl (Or.inl ⟨by rfl, by intro W hW; have hhv1 := hW; have y0 := (cell_of hhv1 0).trans rfl; have y1 := (cell_of hhv1 1).trans rfl; have y2 := (cell_of hhv1 2).trans rfl; have y3 := (cell_of hhv1 3).trans rfl; go_simp⟩) hS5 ?_
   go_frame
   refine rd1 15 rfl (fun K hK => ?_)
   go_simp
   refine (banOf_2 a t _).mono ?_
   rintro e w6 ⟨rfl, bw⟩
   have hb6 := hbt hb5 bw
   have HBv1_6 := hblk HBv1_5 bw
   clear hb5 HBv1_5 bw
   have hS6 := HBv1_6.out
   refine hK.out _ _ hS6 (fun _ => ?_)
   clear hK K hS5
   refine tkP 17 (.bool true) 23 rfl rfl hS6 ?_
   go_frame
   refine tkP 18 (.bool true) 24 rfl rfl hS6 ?_
   go_frame
   refine tkP 19 (.bool true) 2 rfl rfl hS6 ?_
   go_frame
   clear hS6
   refine wpAnyH_done (by kernel_rfl) ?_ _
   go_wp2_with fail
   go_ret
   refine ⟨true, rfl, ?_, hb6⟩
   have zHur := Hur.out
   have zHut := Hut.out
   unfold BanP
   simp_all
theorem implBanOk_2n (a b : ByteArray) (t : Int) (w : World) (ha : a.size ≤ maxLen) (hb0 : ¬ b = ⟨#[]⟩) :
  Calls Tryz.prog 135 #[.agg #[.int .i64 2, .string a, .string b, .int .i64 t]] w fun e w' => BoolIs (BanP 2 a b t) w e w' := by
 classical
 have HAM : Hid (a.size ≤ maxLen) := ha
 have HB0 : Hid (¬ b = ⟨#[]⟩) := hb0
 have hnn : ∀ W : World, (binOp .neq 222 (.iface 258 (.agg #[.string a])) .nilIface).run Tryz.prog W = .ok (.bool true) W := fun _ => by kernel_rfl
 have hna : ∀ W : World, (nilAhead 157 258 (.agg #[.string a]) "loop.example/g00239/impl.right").run Tryz.prog W = .ok (some false) W := fun _ => by kernel_rfl
 have hmt : ∀ W : World, (method 157 258 (.agg #[.string a]) "loop.example/g00239/impl.right").run Tryz.prog W = .ok (249, .agg #[.string a]) W := fun _ => by kernel_rfl
 have hgb := guardBan
 have hqe : ∀ W : World, (binOp .eql 152 (.agg #[.int .i64 2, .string a, .string ⟨#[]⟩, .int .i64 t]) (.agg #[.int .i64 2, .string a, .string b, .int .i64 t])).run Tryz.prog W = .ok (.bool false) W := fun W => by
  rw [eqlBan]
  first | (simp; done) | (have z := HB0.out; simp; exact fun e => z e.symm)
 clear ha hb0
 have hb0 : Below w.heap.size w w := Below.refl _ _
 go_enter Tryz.func135, Tryz.ntmps135
 go_upto_region 1 with fail
 obtain ⟨qv1, hqv1⟩ := exq ((w).heap.size)
 obtain ⟨w1, hW1⟩ := exq ((w).alloc (.cells #[.int .i64 2, .string a, .string b, .int .i64 t] 152))
 have hz1 : (w).heap.size = qv1 := hqv1.symm
 first | rw [← hW1, ← hqv1] | rw [← hW1]
 have hs1 := hsa hW1 hz1
 have bw := bal hW1
 have hb1 := hbt hb0 bw
 have HBv1_1 := hnew hW1 hz1
 clear hb0 bw hW1 hz1
 clear hs1 hqv1
 have cv1_0 := (k4c HBv1_1).1
 have cv1_1 := (k4c HBv1_1).2.1
 have cv1_2 := (k4c HBv1_1).2.2.1
 have cv1_3 := (k4c HBv1_1).2.2.2
 go_wp2_with fail
 refine (ruleOf_2 a b t _).mono ?_
 rintro e w2 ⟨rfl, bw⟩
 have hb2 := hbt hb1 bw
 have HBv1_2 := hblk HBv1_1 bw
 clear hb1 HBv1_1 bw
 clear cv1_0 cv1_1 cv1_2 cv1_3
 go_upto_region 2 with fail
 refine wp_region_held_drew (S := fun W => W.heap[qv1]? = some (.cells #[.int .i64 2, .string a, .string b, .int .i64 t] 152)) (by kernel_rfl) HBv1_2.out (fun _ => ?_)
 obtain ⟨w3, hX⟩ := exq w2.drew
 have bw := bdr hX
 rw [← hX]
 have hb3 := hbt hb2 bw
 have HBv1_3 := hblk HBv1_2 bw
 have hS3 := HBv1_3.out
 clear hb2 HBv1_2 bw hX
 refine tkP 0 (.iface 258 (.agg #[.string a])) 6 rfl rfl hS3 ?_
 go_frame
 refine tkP 1 (.bool true) 7 rfl rfl hS3 ?_
 go_frame
 refine tkP 2 (.bool true) 8 rfl rfl hS3 ?_
 go_frame
 refine tkP 3 (.iface 258 (.agg #[.string a])) 9 rfl rfl hS3 ?_
 go_frame
 refine rd1 4 rfl (fun K hK => ?_)
 go_simp
 refine (right_2 a _ HAM.out).mono ?_
 rintro e w4 ⟨ur, rfl, htur, bw⟩
 have hb4 := hbt hb3 bw
 have HBv1_4 := hblk HBv1_3 bw
 clear hb3 HBv1_3 bw
 have hS4 := HBv1_4.out
 refine hK.out _ _ hS4 (fun _ => ?_)
 clear hK K hS3
 refine tkP 5 (.bool ur) 11 rfl rfl hS4 ?_
 go_frame
 refine tkP 6 (.bool ur) 12 rfl rfl hS4 ?_
 go_frame
 cases ur with
 | false =>
  have Hur : Hid (¬ (PathOk a)) := fun h => nomatch htur.2 h
  clear htur
  refine tkN 7 13 rfl rfl hS4 ?_
  go_frame
  refine tkN 8 14 rfl rfl hS4 ?_
  go_frame
  refine tkN 9 15 rfl rfl hS4 ?_
  go_frame
  refine tkP 10 (.bool false) 16 rfl rfl hS4 ?_
  go_frame
  refine tkP 11 (.bool false) 17 rfl rfl hS4 ?_
  go_frame
  refine tkN 12 18 rfl rfl hS4 ?_
  go_frame
  refine tkN 13 19 rfl rfl hS4 ?_
  go_frame
  refine tkN 14 20 rfl rfl hS4 ?_
  go_frame
  refine tkN 15 21 rfl rfl hS4 ?_
  go_frame
  refine tkN 16 22 rfl rfl hS4 ?_
  go_frame
  refine tkN 17 23 rfl rfl hS4 ?_
  go_frame
  refine tkP 18 (.bool false) 24 rfl rfl hS4 ?_
  go_frame
  refine tkP 19 (.bool false) 2 rfl rfl hS4 ?_
  go_frame
  clear hS4
  refine wpAnyH_done (by kernel_rfl) ?_ _
  go_wp2_with fail
  go_ret
  refine ⟨false, rfl, ?_, hb4⟩
  have zHur := Hur.out
  have zHB := HB0.out
  unfold BanP
  simp_all
 | true =>
  have Hur : Hid (PathOk a) := htur.1 rfl
  clear htur
  refine tkP 7 (.pointer (some ⟨qv1, 3, none⟩)) 13 rfl rfl hS4 ?_
  go_frame
  refine tkL 8 (.int .i64 t) 14 rfl rfl (Or.inl ⟨by rfl, by intro W hW; have hhv1 := hW; have y3 := (cell_of hhv1 3).trans rfl; go_simp⟩) hS4 ?_
  go_frame
  refine rd1 9 rfl (fun K hK => ?_)
  go_simp
  refine (timeOk_any t _).mono ?_
  rintro e w5 ⟨rfl, hwe⟩
  have bw : Below (w4).heap.size (w4) w5 := by rw [hwe]; exact Below.refl _ _
  clear hwe
  obtain ⟨ut, hut⟩ : ∃ u, u = decide ((0 : Int) ≤ t ∧ t ≤ 1000000) := ⟨_, rfl⟩
  rw [← hut]
  have hb5 := hbt hb4 bw
  have HBv1_5 := hblk HBv1_4 bw
  clear hb4 HBv1_4 bw
  have hS5 := HBv1_5.out
  refine hK.out _ _ hS5 (fun _ => ?_)
  clear hK K hS4
  refine tkP 10 (.bool ut) 16 rfl rfl hS5 ?_
  go_frame
  refine tkP 11 (.bool ut) 17 rfl rfl hS5 ?_
  go_frame
  cases ut with
  | false =>
   have Hut : Hid (¬ (0 ≤ t ∧ t ≤ 1000000)) := (show ¬ (0 ≤ t ∧ t ≤ 1000000) from of_decide_eq_false hut.symm)
   clear hut
   refine tkN 12 18 rfl rfl hS5 ?_
   go_frame
   refine tkN 13 19 rfl rfl hS5 ?_
   go_frame
   refine tkN 14 20 rfl rfl hS5 ?_
   go_frame
   refine tkN 15 21 rfl rfl hS5 ?_
   go_frame
   refine tkN 16 22 rfl rfl hS5 ?_
   go_frame
   refine tkN 17 23 rfl rfl hS5 ?_
   go_frame
   refine tkP 18 (.bool false) 24 rfl rfl hS5 ?_
   go_frame
   refine tkP 19 (.bool false) 2 rfl rfl hS5 ?_
   go_frame
   clear hS5
   refine wpAnyH_done (by kernel_rfl) ?_ _
   go_wp2_with fail
   go_ret
   refine ⟨false, rfl, ?_, hb5⟩
   have zHur := Hur.out
   have zHut := Hut.out
   have zHB := HB0.out
   unfold BanP
   simp_all
  | true =>
   have Hut : Hid (0 ≤ t ∧ t ≤ 1000000) := (show 0 ≤ t ∧ t ≤ 1000000 from of_decide_eq_true hut.symm)
   clear hut
   refine tkP 12 (.iface 258 (.agg #[.string a])) 18 rfl rfl hS5 ?_
   go_frame
   refine tkP 13 (.pointer (some ⟨qv1, 3, none⟩)) 19 rfl rfl hS5 ?_
   go_frame
   refine tkL 14 (.int .i64 t) 20 rfl rfl (Or.inl ⟨by rfl, by intro W hW; have hhv1 := hW; have y3 := (cell_of hhv1 3).trans rfl; go_simp⟩) hS5 ?_
   go_frame
   refine tkL 16 (.agg #[.int .i64 2, .string a, .string b, .int .i64 t]) 22 rfl rfl (Or.inl ⟨by rfl, by intro W hW; have hhv1 := hW; have y0 := (cell_of hhv1 0).trans rfl; have y1 := (cell_of hhv1 1).trans rfl; have y2 := (cell_of hhv1 2).trans rfl; have y3 := (cell_of hhv1 3).trans rfl; go_simp⟩) hS5 ?_
   go_frame
   refine rd1 15 rfl (fun K hK => ?_)
   go_simp
   refine (banOf_2 a t _).mono ?_
   rintro e w6 ⟨rfl, bw⟩
   have hb6 := hbt hb5 bw
   have HBv1_6 := hblk HBv1_5 bw
   clear hb5 HBv1_5 bw
   have hS6 := HBv1_6.out
   refine hK.out _ _ hS6 (fun _ => ?_)
   clear hK K hS5
   refine tkP 17 (.bool false) 23 rfl rfl hS6 ?_
   go_frame
   refine tkP 18 (.bool false) 24 rfl rfl hS6 ?_
   go_frame
   refine tkP 19 (.bool false) 2 rfl rfl hS6 ?_
   go_frame
   clear hS6
   refine wpAnyH_done (by kernel_rfl) ?_ _
   go_wp2_with fail
   go_ret
   refine ⟨false, rfl, ?_, hb6⟩
   have zHur := Hur.out
   have zHut := Hut.out
   have zHB := HB0.out
   unfold BanP
   simp_all
theorem implBanOk_3 (a b : ByteArray) (t : Int) (w : World) (ha : a.size ≤ maxLen) (hb : b.size ≤ maxLen) :
  Calls Tryz.prog 135 #[.agg #[.int .i64 3, .string a, .string b, .int .i64 t]] w fun e w' => BoolIs (BanP 3 a b t) w e w' := by
 classical
 have HAM : Hid (a.size ≤ maxLen) := ha
 have HBM : Hid (b.size ≤ maxLen) := hb
 have hnn : ∀ W : World, (binOp .neq 222 (.iface 260 (.agg #[.string a, .string b])) .nilIface).run Tryz.prog W = .ok (.bool true) W := fun _ => by kernel_rfl
 have hna : ∀ W : World, (nilAhead 157 260 (.agg #[.string a, .string b]) "loop.example/g00239/impl.right").run Tryz.prog W = .ok (some false) W := fun _ => by kernel_rfl
 have hmt : ∀ W : World, (method 157 260 (.agg #[.string a, .string b]) "loop.example/g00239/impl.right").run Tryz.prog W = .ok (252, .agg #[.string a, .string b]) W := fun _ => by kernel_rfl
 have hgb := guardBan
 have hqe : ∀ W : World, (binOp .eql 152 (.agg #[.int .i64 3, .string a, .string b, .int .i64 t]) (.agg #[.int .i64 3, .string a, .string b, .int .i64 t])).run Tryz.prog W = .ok (.bool true) W := fun W => by
  rw [eqlBan]
  first | (simp; done) | (have z := HB0.out; simp; exact fun e => z e.symm)
 clear ha hb
 have hb0 : Below w.heap.size w w := Below.refl _ _
 go_enter Tryz.func135, Tryz.ntmps135
 go_upto_region 1 with fail
 obtain ⟨qv1, hqv1⟩ := exq ((w).heap.size)
 obtain ⟨w1, hW1⟩ := exq ((w).alloc (.cells #[.int .i64 3, .string a, .string b, .int .i64 t] 152))
 have hz1 : (w).heap.size = qv1 := hqv1.symm
 first | rw [← hW1, ← hqv1] | rw [← hW1]
 have hs1 := hsa hW1 hz1
 have bw := bal hW1
 have hb1 := hbt hb0 bw
 have HBv1_1 := hnew hW1 hz1
 clear hb0 bw hW1 hz1
 clear hs1 hqv1
 have cv1_0 := (k4c HBv1_1).1
 have cv1_1 := (k4c HBv1_1).2.1
 have cv1_2 := (k4c HBv1_1).2.2.1
 have cv1_3 := (k4c HBv1_1).2.2.2
 go_wp2_with fail
 refine (ruleOf_3 a b t _).mono ?_
 rintro e w2 ⟨rfl, bw⟩
 have hb2 := hbt hb1 bw
 have HBv1_2 := hblk HBv1_1 bw
 clear hb1 HBv1_1 bw
 clear cv1_0 cv1_1 cv1_2 cv1_3
 go_upto_region 2 with fail
 refine wp_region_held_drew (S := fun W => W.heap[qv1]? = some (.cells #[.int .i64 3, .string a, .string b, .int .i64 t] 152)) (by kernel_rfl) HBv1_2.out (fun _ => ?_)
 obtain ⟨w3, hX⟩ := exq w2.drew
 have bw := bdr hX
 rw [← hX]
 have hb3 := hbt hb2 bw
 have HBv1_3 := hblk HBv1_2 bw
 have hS3 := HBv1_3.out
 clear hb2 HBv1_2 bw hX
 refine tkP 0 (.iface 260 (.agg #[.string a, .string b])) 6 rfl rfl hS3 ?_
 go_frame
 refine tkP 1 (.bool true) 7 rfl rfl hS3 ?_
 go_frame
 refine tkP 2 (.bool true) 8 rfl rfl hS3 ?_
 go_frame
 refine tkP 3 (.iface 260 (.agg #[.string a, .string b])) 9 rfl rfl hS3 ?_
 go_frame
 refine rd1 4 rfl (fun K hK => ?_)
 go_simp
 refine (right_3 a b _ HAM.out HBM.out).mono ?_
 rintro e w4 ⟨ur, rfl, htur, bw⟩
 have hb4 := hbt hb3 bw
 have HBv1_4 := hblk HBv1_3 bw
 clear hb3 HBv1_3 bw
 have hS4 := HBv1_4.out
 refine hK.out _ _ hS4 (fun _ => ?_)
 clear hK K hS3
 refine tkP 5 (.bool ur) 11 rfl rfl hS4 ?_
 go_frame
 refine tkP 6 (.bool ur) 12 rfl rfl hS4 ?_
 go_frame
 cases ur with
 | false =>
  have Hur : Hid (¬ (TokOk a ∧ ValOk b)) := fun h => nomatch htur.2 h
  clear htur
  refine tkN 7 13 rfl rfl hS4 ?_
  go_frame
  refine tkN 8 14 rfl rfl hS4 ?_
  go_frame
  refine tkN 9 15 rfl rfl hS4 ?_
  go_frame
  refine tkP 10 (.bool false) 16 rfl rfl hS4 ?_
  go_frame
  refine tkP 11 (.bool false) 17 rfl rfl hS4 ?_
  go_frame
  refine tkN 12 18 rfl rfl hS4 ?_
  go_frame
  refine tkN 13 19 rfl rfl hS4 ?_
  go_frame
  refine tkN 14 20 rfl rfl hS4 ?_
  go_frame
  refine tkN 15 21 rfl rfl hS4 ?_
  go_frame
  refine tkN 16 22 rfl rfl hS4 ?_
  go_frame
  refine tkN 17 23 rfl rfl hS4 ?_
  go_frame
  refine tkP 18 (.bool false) 24 rfl rfl hS4 ?_
  go_frame
  refine tkP 19 (.bool false) 2 rfl rfl hS4 ?_
  go_frame
  clear hS4
  refine wpAnyH_done (by kernel_rfl) ?_ _
  go_wp2_with fail
  go_ret
  refine ⟨false, rfl, ?_, hb4⟩
  have zHur := Hur.out
  unfold BanP
  simp_all
 | true =>
  have Hur : Hid (TokOk a ∧ ValOk b) := htur.1 rfl
  clear htur
  refine tkP 7 (.pointer (some ⟨qv1, 3, none⟩)) 13 rfl rfl hS4 ?_
  go_frame
  refine tkL 8 (.int .i64 t) 14 rfl rfl (Or.inl ⟨by rfl, by intro W hW; have hhv1 := hW; have y3 := (cell_of hhv1 3).trans rfl; go_simp⟩) hS4 ?_
  go_frame
  refine rd1 9 rfl (fun K hK => ?_)
  go_simp
  refine (timeOk_any t _).mono ?_
  rintro e w5 ⟨rfl, hwe⟩
  have bw : Below (w4).heap.size (w4) w5 := by rw [hwe]; exact Below.refl _ _
  clear hwe
  obtain ⟨ut, hut⟩ : ∃ u, u = decide ((0 : Int) ≤ t ∧ t ≤ 1000000) := ⟨_, rfl⟩
  rw [← hut]
  have hb5 := hbt hb4 bw
  have HBv1_5 := hblk HBv1_4 bw
  clear hb4 HBv1_4 bw
  have hS5 := HBv1_5.out
  refine hK.out _ _ hS5 (fun _ => ?_)
  clear hK K hS4
  refine tkP 10 (.bool ut) 16 rfl rfl hS5 ?_
  go_frame
  refine tkP 11 (.bool ut) 17 rfl rfl hS5 ?_
  go_frame
  cases ut with
  | false =>
   have Hut : Hid (¬ (0 ≤ t ∧ t ≤ 1000000)) := (show ¬ (0 ≤ t ∧ t ≤ 1000000) from of_decide_eq_false hut.symm)
   clear hut
   refine tkN 12 18 rfl rfl hS5 ?_
   go_frame
   refine tkN 13 19 rfl rfl hS5 ?_
   go_frame
   refine tkN 14 20 rfl rfl hS5 ?_
   go_frame
   refine tkN 15 21 rfl rfl hS5 ?_
   go_frame
   refine tkN 16 22 rfl rfl hS5 ?_
   go_frame
   refine tkN 17 23 rfl rfl hS5 ?_
   go_frame
   refine tkP 18 (.bool false) 24 rfl rfl hS5 ?_
   go_frame
   refine tkP 19 (.bool false) 2 rfl rfl hS5 ?_
   go_frame
   clear hS5
   refine wpAnyH_done (by kernel_rfl) ?_ _
   go_wp2_with fail
   go_ret
   refine ⟨false, rfl, ?_, hb5⟩
   have zHur := Hur.out
   have zHut := Hut.out
   unfold BanP
   simp_all
  | true =>
   have Hut : Hid (0 ≤ t ∧ t ≤ 1000000) := (show 0 ≤ t ∧ t ≤ 1000000 from of_decide_eq_true hut.symm)
   clear hut
   refine tkP 12 (.iface 260 (.agg #[.string a, .string b])) 18 rfl rfl hS5 ?_
   go_frame
   refine tkP 13 (.pointer (some ⟨qv1, 3, none⟩)) 19 rfl rfl hS5 ?_
   go_frame
   refine tkL 14 (.int .i64 t) 20 rfl rfl (Or.inl ⟨by rfl, by intro W hW; have hhv1 := hW; have y3 := (cell_of hhv1 3).trans rfl; go_simp⟩) hS5 ?_
   go_frame
   refine tkL 16 (.agg #[.int .i64 3, .string a, .string b, .int .i64 t]) 22 rfl rfl (Or.inl ⟨by rfl, by intro W hW; have hhv1 := hW; have y0 := (cell_of hhv1 0).trans rfl; have y1 := (cell_of hhv1 1).trans rfl; have y2 := (cell_of hhv1 2).trans rfl; have y3 := (cell_of hhv1 3).trans rfl; go_simp⟩) hS5 ?_
   go_frame
   refine rd1 15 rfl (fun K hK => ?_)
   go_simp
   refine (banOf_3 a b t _).mono ?_
   rintro e w6 ⟨rfl, bw⟩
   have hb6 := hbt hb5 bw
   have HBv1_6 := hblk HBv1_5 bw
   clear hb5 HBv1_5 bw
   have hS6 := HBv1_6.out
   refine hK.out _ _ hS6 (fun _ => ?_)
   clear hK K hS5
   refine tkP 17 (.bool true) 23 rfl rfl hS6 ?_
   go_frame
   refine tkP 18 (.bool true) 24 rfl rfl hS6 ?_
   go_frame
   refine tkP 19 (.bool true) 2 rfl rfl hS6 ?_
   go_frame
   clear hS6
   refine wpAnyH_done (by kernel_rfl) ?_ _
   go_wp2_with fail
   go_ret
   refine ⟨true, rfl, ?_, hb6⟩
   have zHur := Hur.out
   have zHut := Hut.out
   unfold BanP
   simp_all
theorem implBanOk_no (k : Int) (a b : ByteArray) (t : Int) (w : World) (h1 : ¬ k = 1) (h2 : ¬ k = 2) (h3 : ¬ k = 3) :
  Calls Tryz.prog 135 #[.agg #[.int .i64 k, .string a, .string b, .int .i64 t]] w fun e w' => BoolIs (BanP k a b t) w e w' := by
 have HK1 : Hid (¬ k = 1) := h1
 have HK2 : Hid (¬ k = 2) := h2
 have HK3 : Hid (¬ k = 3) := h3
 have hnn : ∀ W : World, (binOp .neq 222 .nilIface .nilIface).run Tryz.prog W = .ok (.bool false) W := fun _ => by kernel_rfl
 clear h1 h2 h3
 have hb0 : Below w.heap.size w w := Below.refl _ _
 go_enter Tryz.func135, Tryz.ntmps135
 go_upto_region 1 with fail
 obtain ⟨qv1, hqv1⟩ := exq ((w).heap.size)
 obtain ⟨w1, hW1⟩ := exq ((w).alloc (.cells #[.int .i64 k, .string a, .string b, .int .i64 t] 152))
 have hz1 : (w).heap.size = qv1 := hqv1.symm
 first | rw [← hW1, ← hqv1] | rw [← hW1]
 have hs1 := hsa hW1 hz1
 have bw := bal hW1
 have hb1 := hbt hb0 bw
 have HBv1_1 := hnew hW1 hz1
 clear hb0 bw hW1 hz1
 clear hs1 hqv1
 have cv1_0 := (k4c HBv1_1).1
 have cv1_1 := (k4c HBv1_1).2.1
 have cv1_2 := (k4c HBv1_1).2.2.1
 have cv1_3 := (k4c HBv1_1).2.2.2
 go_wp2_with fail
 refine (ruleOf_no k a b t _ HK1.out HK2.out HK3.out).mono ?_
 rintro e w2 ⟨rfl, bw⟩
 have hb2 := hbt hb1 bw
 have HBv1_2 := hblk HBv1_1 bw
 clear hb1 HBv1_1 bw
 clear cv1_0 cv1_1 cv1_2 cv1_3
 go_upto_region 2 with fail
 refine wp_region_held_drew (S := fun W => W.heap[qv1]? = some (.cells #[.int .i64 k, .string a, .string b, .int .i64 t] 152)) (by kernel_rfl) HBv1_2.out (fun _ => ?_)
 obtain ⟨w3, hX⟩ := exq w2.drew
 have bw := bdr hX
 rw [← hX]
 have hb3 := hbt hb2 bw
 have HBv1_3 := hblk HBv1_2 bw
 have hS3 := HBv1_3.out
 clear hb2 HBv1_2 bw hX
 refine tkP 0 (.nilIface) 6 rfl rfl hS3 ?_
 go_frame
 refine tkP 1 (.bool false) 7 rfl rfl hS3 ?_
 go_frame
 refine tkP 2 (.bool false) 8 rfl rfl hS3 ?_
 go_frame
 refine tkN 3 9 rfl rfl hS3 ?_
 go_frame
 refine tkN 4 10 rfl rfl hS3 ?_
 go_frame
 refine tkP 5 (.bool false) 11 rfl rfl hS3 ?_
 go_frame
 refine tkP 6 (.bool false) 12 rfl rfl hS3 ?_
 go_frame
 refine tkN 7 13 rfl rfl hS3 ?_
 go_frame
 refine tkN 8 14 rfl rfl hS3 ?_
 go_frame
 refine tkN 9 15 rfl rfl hS3 ?_
 go_frame
 refine tkP 10 (.bool false) 16 rfl rfl hS3 ?_
 go_frame
 refine tkP 11 (.bool false) 17 rfl rfl hS3 ?_
 go_frame
 refine tkN 12 18 rfl rfl hS3 ?_
 go_frame
 refine tkN 13 19 rfl rfl hS3 ?_
 go_frame
 refine tkN 14 20 rfl rfl hS3 ?_
 go_frame
 refine tkN 15 21 rfl rfl hS3 ?_
 go_frame
 refine tkN 16 22 rfl rfl hS3 ?_
 go_frame
 refine tkN 17 23 rfl rfl hS3 ?_
 go_frame
 refine tkP 18 (.bool false) 24 rfl rfl hS3 ?_
 go_frame
 refine tkP 19 (.bool false) 2 rfl rfl hS3 ?_
 go_frame
 clear hS3
 refine wpAnyH_done (by kernel_rfl) ?_ _
 go_wp2_with fail
 go_ret
 refine BoolIs.no ?_ hb3
 intro h
 rcases h.kinds with h | h | h
 · exact HK1.out h
 · exact HK2.out h
 · exact HK3.out h
theorem implBanOk_any (k : Int) (a b : ByteArray) (t : Int) (w : World) (ha : a.size ≤ maxLen) (hb : b.size ≤ maxLen) :
  Calls Tryz.prog 135 #[.agg #[.int .i64 k, .string a, .string b, .int .i64 t]] w fun e w' => BoolIs (BanP k a b t) w e w' := by
 classical
 by_cases h1 : k = 1
 ·
  subst h1
  by_cases h : b = ⟨#[]⟩
  · subst h; exact implBanOk_1e a t w ha
  · exact implBanOk_1n a b t w ha h
 ·
  by_cases h2 : k = 2
  ·
   subst h2
   by_cases h : b = ⟨#[]⟩
   · subst h; exact implBanOk_2e a t w ha
   · exact implBanOk_2n a b t w ha h
  ·
   by_cases h3 : k = 3
   · subst h3; exact implBanOk_3 a b t w ha hb
   · exact implBanOk_no k a b t w h1 h2 h3
end Go.Proofs.YtbmhonfgffjpcaaGreat
namespace Go.Proofs.YtbmhonfgffjpcaaGreat
open Go.RowKit
open Go.Lib hiding intOf
theorem implHits_1 (a b : ByteArray) (t : Int) (p : ByteArray) (o1 : Option Addr) (n1 c1 : Nat) (xs : List ByteArray) (o2 : Option Addr) (n2 c2 : Nat) (ys : List ByteArray) (st : Int) (v3 : Value) (n3 base : Nat) (fs : List (ByteArray × ByteArray)) (d : ByteArray) (u : Int) (w : World) (ha : a.size ≤ maxLen) (hb : b.size ≤ maxLen) (h1 : TextsA w o1 n1 xs) (h2 : TextsA w o2 n2 ys) (h3 : FieldsV w base v3 n3 fs) (hn1 : n1 ≤ 2000000) (hn2 : n2 ≤ 2000000) (hn3 : n3 ≤ 2000000) (hs1 : ∀ i, i < n1 → (textAt xs i).size ≤ maxLen) (hs2 : ∀ i, i < n2 → (textAt ys i).size ≤ maxLen) (hs3 : WalkF n3 fs) (hc : CopyF fs) (hp : p.size ≤ maxLen) (hx : d.size ≤ maxLen) (hg : (getV fs varyName).size ≤ 1048576) :
    Calls Tryz.prog 148 #[.agg #[.int .i64 1, .string a, .string b, .int .i64 t], .agg #[.string p, .slice o1 n1 c1, .slice o2 n2 c2, .int .i64 st, v3, .string d, .int .i64 u]] w fun e w' => BoolIs (HitP 1 a b t p xs ys st fs d u) w e w' := by
  obtain ⟨o3, c3, rfl, _⟩ := h3.slice
  have HV1 : Hid (∀ W, Below w.heap.size w W → TextsA W o1 n1 xs) := fun W h => h1.below h
  have HV2 : Hid (∀ W, Below w.heap.size w W → TextsA W o2 n2 ys) := fun W h => h2.below h
  have HV3 : Hid (∀ W, Below w.heap.size w W → FieldsV W base (.slice o3 n3 c3) n3 fs) := fun W h => h3.below h
  have HS1 : Hid (∀ i, i < n1 → (textAt xs i).size ≤ maxLen) := hs1
  have HS2 : Hid (∀ i, i < n2 → (textAt ys i).size ≤ maxLen) := hs2
  have HS3 : Hid (WalkF n3 fs) := hs3
  have HC : Hid (CopyF fs) := hc
  have HPM : Hid (p.size ≤ maxLen) := hp
  have HX : Hid (d.size ≤ maxLen) := hx
  have HG : Hid ((getV fs varyName).size ≤ 1048576) := hg
  have HAM : Hid (a.size ≤ maxLen) := ha
  have HBM : Hid (b.size ≤ maxLen) := hb
  clear h1 h2 h3 hs1 hs2 hs3 hc hp hx hg ha hb
  have hna : ∀ W : World, (nilAhead 157 256 (.agg #[.string a]) "loop.example/g00239/impl.bans").run Tryz.prog W = .ok (some false) W := fun _ => by kernel_rfl
  have hmt : ∀ W : World, (method 157 256 (.agg #[.string a]) "loop.example/g00239/impl.bans").run Tryz.prog W = .ok (246, .agg #[.string a]) W := fun _ => by kernel_rfl
  have hb0 : Below w.heap.size w w := Below.refl _ _
  go_enter Tryz.func148, Tryz.ntmps148
  go_upto_region 1 with fail
  obtain ⟨qv1, hqv1⟩ := exq ((w).heap.size)
  obtain ⟨w1, hW1⟩ := exq ((w).alloc (.cells #[.int .i64 1, .string a, .string b, .int .i64 t] 152))
  have hz1 : (w).heap.size = qv1 := hqv1.symm
  first | rw [← hW1, ← hqv1] | rw [← hW1]
  have hs1 := hsa hW1 hz1
  have bw := bal hW1
  have hb1 := hbt hb0 bw
  have HBv1_1 := hnew hW1 hz1
  clear hb0 bw hW1 hz1
  obtain ⟨qv2, hqv2⟩ := exq (qv1 + 1)
  obtain ⟨w2, hW2⟩ := exq ((w1).alloc (.cells #[.string p, .slice o1 n1 c1, .slice o2 n2 c2, .int .i64 st, .slice o3 n3 c3, .string d, .int .i64 u] 66))
  have hz2 : (w1).heap.size = qv2 := by rw [hqv2]; exact hs1
  first | rw [← hW2, ← hqv2] | rw [← hW2]
  have hs2 := hsa hW2 hz2
  have bw := bal hW2
  have hb2 := hbt hb1 bw
  have HBv1_2 := hblk HBv1_1 bw
  have HBv2_2 := hnew hW2 hz2
  clear hb1 HBv1_1 bw hW2 hz2
  clear hs2 hqv2 hs1 hqv1
  go_upto_region 1 with fail
  refine wp_region_held_drew (S := fun W => W.heap[qv1]? = some (.cells #[.int .i64 1, .string a, .string b, .int .i64 t] 152) ∧ W.heap[qv2]? = some (.cells #[.string p, .slice o1 n1 c1, .slice o2 n2 c2, .int .i64 st, .slice o3 n3 c3, .string d, .int .i64 u] 66)) (by kernel_rfl) ⟨HBv1_2.out, HBv2_2.out⟩ (fun _ => ?_)
  obtain ⟨w3, hX⟩ := exq w2.drew
  have bw := bdr hX
  rw [← hX]
  have hb3 := hbt hb2 bw
  have HBv1_3 := hblk HBv1_2 bw
  have HBv2_3 := hblk HBv2_2 bw
  have hS3 := And.intro HBv1_3.out HBv2_3.out
  clear hb2 HBv1_2 HBv2_2 bw hX
  refine tkL 0 (.agg #[.int .i64 1, .string a, .string b, .int .i64 t]) 5 rfl rfl (Or.inl ⟨by rfl, by intro W hW; obtain ⟨hhv1, hhv2⟩ := hW; have y0 := (cell_of hhv1 0).trans rfl; have y1 := (cell_of hhv1 1).trans rfl; have y2 := (cell_of hhv1 2).trans rfl; have y3 := (cell_of hhv1 3).trans rfl; go_simp⟩) hS3 ?_
  go_frame
  refine rd1 1 rfl (fun K hK => ?_)
  go_simp
  refine (implBanOk_any 1 a b t _ HAM.out HBM.out).mono ?_
  rintro e w4 ⟨ub, rfl, htub, bw⟩
  have hb4 := hbt hb3 bw
  have HBv1_4 := hblk HBv1_3 bw
  have HBv2_4 := hblk HBv2_3 bw
  clear hb3 HBv1_3 HBv2_3 bw
  have hS4 := And.intro HBv1_4.out HBv2_4.out
  refine hK.out _ _ hS4 (fun _ => ?_)
  clear hK K hS3
  refine tkP 2 (.bool ub) 7 rfl rfl hS4 ?_
  go_frame
  cases ub with
  | false =>
    have Hub : Hid (¬ (BanP 1 a b t)) := fun h => nomatch htub.2 h
    clear htub
    refine tkN 3 8 rfl rfl hS4 ?_
    go_frame
    refine tkN 4 9 rfl rfl hS4 ?_
    go_frame
    refine tkP 5 (.bool false) 10 rfl rfl hS4 ?_
    go_frame
    refine tkP 6 (.bool false) 11 rfl rfl hS4 ?_
    go_frame
    refine tkN 7 12 rfl rfl hS4 ?_
    go_frame
    refine tkN 8 13 rfl rfl hS4 ?_
    go_frame
    refine tkN 9 14 rfl rfl hS4 ?_
    go_frame
    refine tkN 10 15 rfl rfl hS4 ?_
    go_frame
    refine tkN 11 16 rfl rfl hS4 ?_
    go_frame
    refine tkP 12 (.bool false) 17 rfl rfl hS4 ?_
    go_frame
    refine tkP 13 (.bool false) 18 rfl rfl hS4 ?_
    go_frame
    refine tkN 14 19 rfl rfl hS4 ?_
    go_frame
    refine tkN 15 20 rfl rfl hS4 ?_
    go_frame
    refine tkN 16 21 rfl rfl hS4 ?_
    go_frame
    refine tkN 17 22 rfl rfl hS4 ?_
    go_frame
    refine tkP 18 (.bool false) 23 rfl rfl hS4 ?_
    go_frame
    refine tkP 19 (.bool false) 4 rfl rfl hS4 ?_
    go_frame
    clear hS4
    refine wpAnyH_done (by kernel_rfl) ?_ _
    go_wp2_with fail
    go_ret
    refine ⟨false, rfl, ?_, hb4⟩
    have zHub := Hub.out
    refine ⟨fun h => (by cases h), fun h => ?_⟩
    exfalso
    obtain ⟨q1, q2, q3, q4⟩ := h
    first
      | exact zHub q1
      | exact zHuo q2
      | exact zHLE q3
      | (rcases q4 with ⟨e1, e2⟩ | ⟨e1, e2⟩ | ⟨e1, e2, e3⟩
         all_goals first
           | omega
           | exact zHuh e2
           | exact zHuh ⟨e2, e3⟩)
  | true =>
    have Hub : Hid (BanP 1 a b t) := htub.1 rfl
    clear htub
    refine tkL 3 (.agg #[.string p, .slice o1 n1 c1, .slice o2 n2 c2, .int .i64 st, .slice o3 n3 c3, .string d, .int .i64 u]) 8 rfl rfl (Or.inl ⟨by rfl, by intro W hW; obtain ⟨hhv1, hhv2⟩ := hW; have y0 := (cell_of hhv2 0).trans rfl; have y1 := (cell_of hhv2 1).trans rfl; have y2 := (cell_of hhv2 2).trans rfl; have y3 := (cell_of hhv2 3).trans rfl; have y4 := (cell_of hhv2 4).trans rfl; have y5 := (cell_of hhv2 5).trans rfl; have y6 := (cell_of hhv2 6).trans rfl; go_simp⟩) hS4 ?_
    go_frame
    refine rd1 4 rfl (fun K hK => ?_)
    go_simp
    refine (implObjOk_any p _ n1 _ xs _ n2 _ ys st _ n3 base fs d u _ (HV1.out _ hb4) (HV2.out _ hb4) (HV3.out _ hb4) (by omega) (by omega) (by omega) HS1.out HS2.out HS3.out HC.out HPM.out HX.out HG.out).mono ?_
    rintro e w5 ⟨uo, rfl, htuo, bw⟩
    have hb5 := hbt hb4 bw
    have HBv1_5 := hblk HBv1_4 bw
    have HBv2_5 := hblk HBv2_4 bw
    clear hb4 HBv1_4 HBv2_4 bw
    have hS5 := And.intro HBv1_5.out HBv2_5.out
    refine hK.out _ _ hS5 (fun _ => ?_)
    clear hK K hS4
    refine tkP 5 (.bool uo) 10 rfl rfl hS5 ?_
    go_frame
    refine tkP 6 (.bool uo) 11 rfl rfl hS5 ?_
    go_frame
    cases uo with
    | false =>
      have Huo : Hid (¬ (ObjP p xs ys st fs d u)) := fun h => nomatch htuo.2 h
      clear htuo
      refine tkN 7 12 rfl rfl hS5 ?_
      go_frame
      refine tkN 8 13 rfl rfl hS5 ?_
      go_frame
      refine tkN 9 14 rfl rfl hS5 ?_
      go_frame
      refine tkN 10 15 rfl rfl hS5 ?_
      go_frame
      refine tkN 11 16 rfl rfl hS5 ?_
      go_frame
      refine tkP 12 (.bool false) 17 rfl rfl hS5 ?_
      go_frame
      refine tkP 13 (.bool false) 18 rfl rfl hS5 ?_
      go_frame
      refine tkN 14 19 rfl rfl hS5 ?_
      go_frame
      refine tkN 15 20 rfl rfl hS5 ?_
      go_frame
      refine tkN 16 21 rfl rfl hS5 ?_
      go_frame
      refine tkN 17 22 rfl rfl hS5 ?_
      go_frame
      refine tkP 18 (.bool false) 23 rfl rfl hS5 ?_
      go_frame
      refine tkP 19 (.bool false) 4 rfl rfl hS5 ?_
      go_frame
      clear hS5
      refine wpAnyH_done (by kernel_rfl) ?_ _
      go_wp2_with fail
      go_ret
      refine ⟨false, rfl, ?_, hb5⟩
      have zHub := Hub.out
      have zHuo := Huo.out
      refine ⟨fun h => (by cases h), fun h => ?_⟩
      exfalso
      obtain ⟨q1, q2, q3, q4⟩ := h
      first
        | exact zHub q1
        | exact zHuo q2
        | exact zHLE q3
        | (rcases q4 with ⟨e1, e2⟩ | ⟨e1, e2⟩ | ⟨e1, e2, e3⟩
           all_goals first
             | omega
             | exact zHuh e2
             | exact zHuh ⟨e2, e3⟩)
    | true =>
      have Huo : Hid (ObjP p xs ys st fs d u) := htuo.1 rfl
      clear htuo
      refine tkP 7 (.pointer (some ⟨qv2, 6, none⟩)) 12 rfl rfl hS5 ?_
      go_frame
      refine tkL 8 (.int .i64 u) 13 rfl rfl (Or.inl ⟨by rfl, by intro W hW; obtain ⟨hhv1, hhv2⟩ := hW; have y6 := (cell_of hhv2 6).trans rfl; go_simp⟩) hS5 ?_
      go_frame
      refine tkP 9 (.pointer (some ⟨qv1, 3, none⟩)) 14 rfl rfl hS5 ?_
      go_frame
      refine tkL 10 (.int .i64 t) 15 rfl rfl (Or.inl ⟨by rfl, by intro W hW; obtain ⟨hhv1, hhv2⟩ := hW; have y3 := (cell_of hhv1 3).trans rfl; go_simp⟩) hS5 ?_
      go_frame
      by_cases hc1 : u ≤ t
      · have HLE : Hid (u ≤ t) := hc1
        refine tkP 11 (.bool true) 16 rfl rfl hS5 ?_
        go_frame
        refine tkP 12 (.bool true) 17 rfl rfl hS5 ?_
        go_frame
        refine tkP 13 (.bool true) 18 rfl rfl hS5 ?_
        go_frame
        refine tkL 14 (.agg #[.int .i64 1, .string a, .string b, .int .i64 t]) 19 rfl rfl (Or.inl ⟨by rfl, by intro W hW; obtain ⟨hhv1, hhv2⟩ := hW; have y0 := (cell_of hhv1 0).trans rfl; have y1 := (cell_of hhv1 1).trans rfl; have y2 := (cell_of hhv1 2).trans rfl; have y3 := (cell_of hhv1 3).trans rfl; go_simp⟩) hS5 ?_
        go_frame
        refine tkL 16 (.agg #[.string p, .slice o1 n1 c1, .slice o2 n2 c2, .int .i64 st, .slice o3 n3 c3, .string d, .int .i64 u]) 21 rfl rfl (Or.inl ⟨by rfl, by intro W hW; obtain ⟨hhv1, hhv2⟩ := hW; have y0 := (cell_of hhv2 0).trans rfl; have y1 := (cell_of hhv2 1).trans rfl; have y2 := (cell_of hhv2 2).trans rfl; have y3 := (cell_of hhv2 3).trans rfl; have y4 := (cell_of hhv2 4).trans rfl; have y5 := (cell_of hhv2 5).trans rfl; have y6 := (cell_of hhv2 6).trans rfl; go_simp⟩) hS5 ?_
        go_frame
        refine rd1 15 rfl (fun K hK => ?_)
        go_simp
        refine (ruleOf_1 a b t _).mono ?_
        rintro e w6 ⟨rfl, bw⟩
        have hb6 := hbt hb5 bw
        have HBv1_6 := hblk HBv1_5 bw
        have HBv2_6 := hblk HBv2_5 bw
        clear hb5 HBv1_5 HBv2_5 bw
        have hS6 := And.intro HBv1_6.out HBv2_6.out
        refine hK.out _ _ hS6 (fun _ => ?_)
        clear hK K hS5
        refine rd1 17 rfl (fun K hK => ?_)
        go_simp
        refine (bans_1 a p _ _ st _ d u _).mono ?_
        rintro e w7 ⟨uh, rfl, htuh, bw⟩
        have hb7 := hbt hb6 bw
        have HBv1_7 := hblk HBv1_6 bw
        have HBv2_7 := hblk HBv2_6 bw
        clear hb6 HBv1_6 HBv2_6 bw
        have hS7 := And.intro HBv1_7.out HBv2_7.out
        refine hK.out _ _ hS7 (fun _ => ?_)
        clear hK K hS6
        refine tkP 18 (.bool uh) 23 rfl rfl hS7 ?_
        go_frame
        refine tkP 19 (.bool uh) 4 rfl rfl hS7 ?_
        go_frame
        clear hS7
        refine wpAnyH_done (by kernel_rfl) ?_ _
        cases uh with
        | false =>
          have Huh : Hid (¬ (p = a)) := fun h => nomatch htuh.2 h
          clear htuh
          go_wp2_with fail
          go_ret
          refine ⟨false, rfl, ?_, hb7⟩
          have zHub := Hub.out
          have zHuo := Huo.out
          have zHLE := HLE.out
          have zHuh := Huh.out
          refine ⟨fun h => (by cases h), fun h => ?_⟩
          exfalso
          obtain ⟨q1, q2, q3, q4⟩ := h
          first
            | exact zHub q1
            | exact zHuo q2
            | exact zHLE q3
            | (rcases q4 with ⟨e1, e2⟩ | ⟨e1, e2⟩ | ⟨e1, e2, e3⟩
               all_goals first
                 | omega
                 | exact zHuh e2
                 | exact zHuh ⟨e2, e3⟩)
        | true =>
          have Huh : Hid (p = a) := htuh.1 rfl
          clear htuh
          go_wp2_with fail
          go_ret
          refine ⟨true, rfl, ?_, hb7⟩
          have zHub := Hub.out
          have zHuo := Huo.out
          have zHLE := HLE.out
          have zHuh := Huh.out
          exact ⟨fun _ => ⟨zHub, zHuo, zHLE, .inl ⟨rfl, zHuh⟩⟩, fun _ => rfl⟩
      · have HLE : Hid (¬ u ≤ t) := hc1
        refine tkP 11 (.bool false) 16 rfl rfl hS5 ?_
        go_frame
        refine tkP 12 (.bool false) 17 rfl rfl hS5 ?_
        go_frame
        refine tkP 13 (.bool false) 18 rfl rfl hS5 ?_
        go_frame
        refine tkN 14 19 rfl rfl hS5 ?_
        go_frame
        refine tkN 15 20 rfl rfl hS5 ?_
        go_frame
        refine tkN 16 21 rfl rfl hS5 ?_
        go_frame
        refine tkN 17 22 rfl rfl hS5 ?_
        go_frame
        refine tkP 18 (.bool false) 23 rfl rfl hS5 ?_
        go_frame
        refine tkP 19 (.bool false) 4 rfl rfl hS5 ?_
        go_frame
        clear hS5
        refine wpAnyH_done (by kernel_rfl) ?_ _
        go_wp2_with fail
        go_ret
        refine ⟨false, rfl, ?_, hb5⟩
        have zHub := Hub.out
        have zHuo := Huo.out
        have zHLE := HLE.out
        refine ⟨fun h => (by cases h), fun h => ?_⟩
        exfalso
        obtain ⟨q1, q2, q3, q4⟩ := h
        first
          | exact zHub q1
          | exact zHuo q2
          | exact zHLE q3
          | (rcases q4 with ⟨e1, e2⟩ | ⟨e1, e2⟩ | ⟨e1, e2, e3⟩
             all_goals first
               | omega
               | exact zHuh e2
               | exact zHuh ⟨e2, e3⟩)
theorem implHits_2 (a b : ByteArray) (t : Int) (p : ByteArray) (o1 : Option Addr) (n1 c1 : Nat) (xs : List ByteArray) (o2 : Option Addr) (n2 c2 : Nat) (ys : List ByteArray) (st : Int) (v3 : Value) (n3 base : Nat) (fs : List (ByteArray × ByteArray)) (d : ByteArray) (u : Int) (w : World) (ha : a.size ≤ maxLen) (hb : b.size ≤ maxLen) (h1 : TextsA w o1 n1 xs) (h2 : TextsA w o2 n2 ys) (h3 : FieldsV w base v3 n3 fs) (hn1 : n1 ≤ 2000000) (hn2 : n2 ≤ 2000000) (hn3 : n3 ≤ 2000000) (hs1 : ∀ i, i < n1 → (textAt xs i).size ≤ maxLen) (hs2 : ∀ i, i < n2 → (textAt ys i).size ≤ maxLen) (hs3 : WalkF n3 fs) (hc : CopyF fs) (hp : p.size ≤ maxLen) (hx : d.size ≤ maxLen) (hg : (getV fs varyName).size ≤ 1048576) :
    Calls Tryz.prog 148 #[.agg #[.int .i64 2, .string a, .string b, .int .i64 t], .agg #[.string p, .slice o1 n1 c1, .slice o2 n2 c2, .int .i64 st, v3, .string d, .int .i64 u]] w fun e w' => BoolIs (HitP 2 a b t p xs ys st fs d u) w e w' := by
  obtain ⟨o3, c3, rfl, _⟩ := h3.slice
  have HV1 : Hid (∀ W, Below w.heap.size w W → TextsA W o1 n1 xs) := fun W h => h1.below h
  have HV2 : Hid (∀ W, Below w.heap.size w W → TextsA W o2 n2 ys) := fun W h => h2.below h
  have HV3 : Hid (∀ W, Below w.heap.size w W → FieldsV W base (.slice o3 n3 c3) n3 fs) := fun W h => h3.below h
  have HS1 : Hid (∀ i, i < n1 → (textAt xs i).size ≤ maxLen) := hs1
  have HS2 : Hid (∀ i, i < n2 → (textAt ys i).size ≤ maxLen) := hs2
  have HS3 : Hid (WalkF n3 fs) := hs3
  have HC : Hid (CopyF fs) := hc
  have HPM : Hid (p.size ≤ maxLen) := hp
  have HX : Hid (d.size ≤ maxLen) := hx
  have HG : Hid ((getV fs varyName).size ≤ 1048576) := hg
  have HAM : Hid (a.size ≤ maxLen) := ha
  have HBM : Hid (b.size ≤ maxLen) := hb
  clear h1 h2 h3 hs1 hs2 hs3 hc hp hx hg ha hb
  have hna : ∀ W : World, (nilAhead 157 258 (.agg #[.string a]) "loop.example/g00239/impl.bans").run Tryz.prog W = .ok (some false) W := fun _ => by kernel_rfl
  have hmt : ∀ W : World, (method 157 258 (.agg #[.string a]) "loop.example/g00239/impl.bans").run Tryz.prog W = .ok (248, .agg #[.string a]) W := fun _ => by kernel_rfl
  have hb0 : Below w.heap.size w w := Below.refl _ _
  go_enter Tryz.func148, Tryz.ntmps148
  go_upto_region 1 with fail
  obtain ⟨qv1, hqv1⟩ := exq ((w).heap.size)
  obtain ⟨w1, hW1⟩ := exq ((w).alloc (.cells #[.int .i64 2, .string a, .string b, .int .i64 t] 152))
  have hz1 : (w).heap.size = qv1 := hqv1.symm
  first | rw [← hW1, ← hqv1] | rw [← hW1]
  have hs1 := hsa hW1 hz1
  have bw := bal hW1
  have hb1 := hbt hb0 bw
  have HBv1_1 := hnew hW1 hz1
  clear hb0 bw hW1 hz1
  obtain ⟨qv2, hqv2⟩ := exq (qv1 + 1)
  obtain ⟨w2, hW2⟩ := exq ((w1).alloc (.cells #[.string p, .slice o1 n1 c1, .slice o2 n2 c2, .int .i64 st, .slice o3 n3 c3, .string d, .int .i64 u] 66))
  have hz2 : (w1).heap.size = qv2 := by rw [hqv2]; exact hs1
  first | rw [← hW2, ← hqv2] | rw [← hW2]
  have hs2 := hsa hW2 hz2
  have bw := bal hW2
  have hb2 := hbt hb1 bw
  have HBv1_2 := hblk HBv1_1 bw
  have HBv2_2 := hnew hW2 hz2
  clear hb1 HBv1_1 bw hW2 hz2
  clear hs2 hqv2 hs1 hqv1
  go_upto_region 1 with fail
  refine wp_region_held_drew (S := fun W => W.heap[qv1]? = some (.cells #[.int .i64 2, .string a, .string b, .int .i64 t] 152) ∧ W.heap[qv2]? = some (.cells #[.string p, .slice o1 n1 c1, .slice o2 n2 c2, .int .i64 st, .slice o3 n3 c3, .string d, .int .i64 u] 66)) (by kernel_rfl) ⟨HBv1_2.out, HBv2_2.out⟩ (fun _ => ?_)
  obtain ⟨w3, hX⟩ := exq w2.drew
  have bw := bdr hX
  rw [← hX]
  have hb3 := hbt hb2 bw
  have HBv1_3 := hblk HBv1_2 bw
  have HBv2_3 := hblk HBv2_2 bw
  have hS3 := And.intro HBv1_3.out HBv2_3.out
  clear hb2 HBv1_2 HBv2_2 bw hX
  refine tkL 0 (.agg #[.int .i64 2, .string a, .string b, .int .i64 t]) 5 rfl rfl (Or.inl ⟨by rfl, by intro W hW; obtain ⟨hhv1, hhv2⟩ := hW; have y0 := (cell_of hhv1 0).trans rfl; have y1 := (cell_of hhv1 1).trans rfl; have y2 := (cell_of hhv1 2).trans rfl; have y3 := (cell_of hhv1 3).trans rfl; go_simp⟩) hS3 ?_
  go_frame
  refine rd1 1 rfl (fun K hK => ?_)
  go_simp
  refine (implBanOk_any 2 a b t _ HAM.out HBM.out).mono ?_
  rintro e w4 ⟨ub, rfl, htub, bw⟩
  have hb4 := hbt hb3 bw
  have HBv1_4 := hblk HBv1_3 bw
  have HBv2_4 := hblk HBv2_3 bw
  clear hb3 HBv1_3 HBv2_3 bw
  have hS4 := And.intro HBv1_4.out HBv2_4.out
  refine hK.out _ _ hS4 (fun _ => ?_)
  clear hK K hS3
  refine tkP 2 (.bool ub) 7 rfl rfl hS4 ?_
  go_frame
  cases ub with
  | false =>
    have Hub : Hid (¬ (BanP 2 a b t)) := fun h => nomatch htub.2 h
    clear htub
    refine tkN 3 8 rfl rfl hS4 ?_
    go_frame
    refine tkN 4 9 rfl rfl hS4 ?_
    go_frame
    refine tkP 5 (.bool false) 10 rfl rfl hS4 ?_
    go_frame
    refine tkP 6 (.bool false) 11 rfl rfl hS4 ?_
    go_frame
    refine tkN 7 12 rfl rfl hS4 ?_
    go_frame
    refine tkN 8 13 rfl rfl hS4 ?_
    go_frame
    refine tkN 9 14 rfl rfl hS4 ?_
    go_frame
    refine tkN 10 15 rfl rfl hS4 ?_
    go_frame
    refine tkN 11 16 rfl rfl hS4 ?_
    go_frame
    refine tkP 12 (.bool false) 17 rfl rfl hS4 ?_
    go_frame
    refine tkP 13 (.bool false) 18 rfl rfl hS4 ?_
    go_frame
    refine tkN 14 19 rfl rfl hS4 ?_
    go_frame
    refine tkN 15 20 rfl rfl hS4 ?_
    go_frame
    refine tkN 16 21 rfl rfl hS4 ?_
    go_frame
    refine tkN 17 22 rfl rfl hS4 ?_
    go_frame
    refine tkP 18 (.bool false) 23 rfl rfl hS4 ?_
    go_frame
    refine tkP 19 (.bool false) 4 rfl rfl hS4 ?_
    go_frame
    clear hS4
    refine wpAnyH_done (by kernel_rfl) ?_ _
    go_wp2_with fail
    go_ret
    refine ⟨false, rfl, ?_, hb4⟩
    have zHub := Hub.out
    refine ⟨fun h => (by cases h), fun h => ?_⟩
    exfalso
    obtain ⟨q1, q2, q3, q4⟩ := h
    first
      | exact zHub q1
      | exact zHuo q2
      | exact zHLE q3
      | (rcases q4 with ⟨e1, e2⟩ | ⟨e1, e2⟩ | ⟨e1, e2, e3⟩
         all_goals first
           | omega
           | exact zHuh e2
           | exact zHuh ⟨e2, e3⟩)
  | true =>
    have Hub : Hid (BanP 2 a b t) := htub.1 rfl
    clear htub
    refine tkL 3 (.agg #[.string p, .slice o1 n1 c1, .slice o2 n2 c2, .int .i64 st, .slice o3 n3 c3, .string d, .int .i64 u]) 8 rfl rfl (Or.inl ⟨by rfl, by intro W hW; obtain ⟨hhv1, hhv2⟩ := hW; have y0 := (cell_of hhv2 0).trans rfl; have y1 := (cell_of hhv2 1).trans rfl; have y2 := (cell_of hhv2 2).trans rfl; have y3 := (cell_of hhv2 3).trans rfl; have y4 := (cell_of hhv2 4).trans rfl; have y5 := (cell_of hhv2 5).trans rfl; have y6 := (cell_of hhv2 6).trans rfl; go_simp⟩) hS4 ?_
    go_frame
    refine rd1 4 rfl (fun K hK => ?_)
    go_simp
    refine (implObjOk_any p _ n1 _ xs _ n2 _ ys st _ n3 base fs d u _ (HV1.out _ hb4) (HV2.out _ hb4) (HV3.out _ hb4) (by omega) (by omega) (by omega) HS1.out HS2.out HS3.out HC.out HPM.out HX.out HG.out).mono ?_
    rintro e w5 ⟨uo, rfl, htuo, bw⟩
    have hb5 := hbt hb4 bw
    have HBv1_5 := hblk HBv1_4 bw
    have HBv2_5 := hblk HBv2_4 bw
    clear hb4 HBv1_4 HBv2_4 bw
    have hS5 := And.intro HBv1_5.out HBv2_5.out
    refine hK.out _ _ hS5 (fun _ => ?_)
    clear hK K hS4
    refine tkP 5 (.bool uo) 10 rfl rfl hS5 ?_
    go_frame
    refine tkP 6 (.bool uo) 11 rfl rfl hS5 ?_
    go_frame
    cases uo with
    | false =>
      have Huo : Hid (¬ (ObjP p xs ys st fs d u)) := fun h => nomatch htuo.2 h
      clear htuo
      refine tkN 7 12 rfl rfl hS5 ?_
      go_frame
      refine tkN 8 13 rfl rfl hS5 ?_
      go_frame
      refine tkN 9 14 rfl rfl hS5 ?_
      go_frame
      refine tkN 10 15 rfl rfl hS5 ?_
      go_frame
      refine tkN 11 16 rfl rfl hS5 ?_
      go_frame
      refine tkP 12 (.bool false) 17 rfl rfl hS5 ?_
      go_frame
      refine tkP 13 (.bool false) 18 rfl rfl hS5 ?_
      go_frame
      refine tkN 14 19 rfl rfl hS5 ?_
      go_frame
      refine tkN 15 20 rfl rfl hS5 ?_
      go_frame
      refine tkN 16 21 rfl rfl hS5 ?_
      go_frame
      refine tkN 17 22 rfl rfl hS5 ?_
      go_frame
      refine tkP 18 (.bool false) 23 rfl rfl hS5 ?_
      go_frame
      refine tkP 19 (.bool false) 4 rfl rfl hS5 ?_
      go_frame
      clear hS5
      refine wpAnyH_done (by kernel_rfl) ?_ _
      go_wp2_with fail
      go_ret
      refine ⟨false, rfl, ?_, hb5⟩
      have zHub := Hub.out
      have zHuo := Huo.out
      refine ⟨fun h => (by cases h), fun h => ?_⟩
      exfalso
      obtain ⟨q1, q2, q3, q4⟩ := h
      first
        | exact zHub q1
        | exact zHuo q2
        | exact zHLE q3
        | (rcases q4 with ⟨e1, e2⟩ | ⟨e1, e2⟩ | ⟨e1, e2, e3⟩
           all_goals first
             | omega
             | exact zHuh e2
             | exact zHuh ⟨e2, e3⟩)
    | true =>
      have Huo : Hid (ObjP p xs ys st fs d u) := htuo.1 rfl
      clear htuo
      refine tkP 7 (.pointer (some ⟨qv2, 6, none⟩)) 12 rfl rfl hS5 ?_
      go_frame
      refine tkL 8 (.int .i64 u) 13 rfl rfl (Or.inl ⟨by rfl, by intro W hW; obtain ⟨hhv1, hhv2⟩ := hW; have y6 := (cell_of hhv2 6).trans rfl; go_simp⟩) hS5 ?_
      go_frame
      refine tkP 9 (.pointer (some ⟨qv1, 3, none⟩)) 14 rfl rfl hS5 ?_
      go_frame
      refine tkL 10 (.int .i64 t) 15 rfl rfl (Or.inl ⟨by rfl, by intro W hW; obtain ⟨hhv1, hhv2⟩ := hW; have y3 := (cell_of hhv1 3).trans rfl; go_simp⟩) hS5 ?_
      go_frame
      by_cases hc1 : u ≤ t
      · have HLE : Hid (u ≤ t) := hc1
        refine tkP 11 (.bool true) 16 rfl rfl hS5 ?_
        go_frame
        refine tkP 12 (.bool true) 17 rfl rfl hS5 ?_
        go_frame
        refine tkP 13 (.bool true) 18 rfl rfl hS5 ?_
        go_frame
        refine tkL 14 (.agg #[.int .i64 2, .string a, .string b, .int .i64 t]) 19 rfl rfl (Or.inl ⟨by rfl, by intro W hW; obtain ⟨hhv1, hhv2⟩ := hW; have y0 := (cell_of hhv1 0).trans rfl; have y1 := (cell_of hhv1 1).trans rfl; have y2 := (cell_of hhv1 2).trans rfl; have y3 := (cell_of hhv1 3).trans rfl; go_simp⟩) hS5 ?_
        go_frame
        refine tkL 16 (.agg #[.string p, .slice o1 n1 c1, .slice o2 n2 c2, .int .i64 st, .slice o3 n3 c3, .string d, .int .i64 u]) 21 rfl rfl (Or.inl ⟨by rfl, by intro W hW; obtain ⟨hhv1, hhv2⟩ := hW; have y0 := (cell_of hhv2 0).trans rfl; have y1 := (cell_of hhv2 1).trans rfl; have y2 := (cell_of hhv2 2).trans rfl; have y3 := (cell_of hhv2 3).trans rfl; have y4 := (cell_of hhv2 4).trans rfl; have y5 := (cell_of hhv2 5).trans rfl; have y6 := (cell_of hhv2 6).trans rfl; go_simp⟩) hS5 ?_
        go_frame
        refine rd1 15 rfl (fun K hK => ?_)
        go_simp
        refine (ruleOf_2 a b t _).mono ?_
        rintro e w6 ⟨rfl, bw⟩
        have hb6 := hbt hb5 bw
        have HBv1_6 := hblk HBv1_5 bw
        have HBv2_6 := hblk HBv2_5 bw
        clear hb5 HBv1_5 HBv2_5 bw
        have hS6 := And.intro HBv1_6.out HBv2_6.out
        refine hK.out _ _ hS6 (fun _ => ?_)
        clear hK K hS5
        refine rd1 17 rfl (fun K hK => ?_)
        go_simp
        refine (bans_2 a p _ _ st _ d u _ HPM.out).mono ?_
        rintro e w7 ⟨uh, rfl, htuh, bw⟩
        have hb7 := hbt hb6 bw
        have HBv1_7 := hblk HBv1_6 bw
        have HBv2_7 := hblk HBv2_6 bw
        clear hb6 HBv1_6 HBv2_6 bw
        have hS7 := And.intro HBv1_7.out HBv2_7.out
        refine hK.out _ _ hS7 (fun _ => ?_)
        clear hK K hS6
        refine tkP 18 (.bool uh) 23 rfl rfl hS7 ?_
        go_frame
        refine tkP 19 (.bool uh) 4 rfl rfl hS7 ?_
        go_frame
        clear hS7
        refine wpAnyH_done (by kernel_rfl) ?_ _
        cases uh with
        | false =>
          have Huh : Hid (¬ (Begins a p)) := fun h => nomatch htuh.2 h
          clear htuh
          go_wp2_with fail
          go_ret
          refine ⟨false, rfl, ?_, hb7⟩
          have zHub := Hub.out
          have zHuo := Huo.out
          have zHLE := HLE.out
          have zHuh := Huh.out
          refine ⟨fun h => (by cases h), fun h => ?_⟩
          exfalso
          obtain ⟨q1, q2, q3, q4⟩ := h
          first
            | exact zHub q1
            | exact zHuo q2
            | exact zHLE q3
            | (rcases q4 with ⟨e1, e2⟩ | ⟨e1, e2⟩ | ⟨e1, e2, e3⟩
               all_goals first
                 | omega
                 | exact zHuh e2
                 | exact zHuh ⟨e2, e3⟩)
        | true =>
          have Huh : Hid (Begins a p) := htuh.1 rfl
          clear htuh
          go_wp2_with fail
          go_ret
          refine ⟨true, rfl, ?_, hb7⟩
          have zHub := Hub.out
          have zHuo := Huo.out
          have zHLE := HLE.out
          have zHuh := Huh.out
          exact ⟨fun _ => ⟨zHub, zHuo, zHLE, .inr (.inl ⟨rfl, zHuh⟩)⟩, fun _ => rfl⟩
      · have HLE : Hid (¬ u ≤ t) := hc1
        refine tkP 11 (.bool false) 16 rfl rfl hS5 ?_
        go_frame
        refine tkP 12 (.bool false) 17 rfl rfl hS5 ?_
        go_frame
        refine tkP 13 (.bool false) 18 rfl rfl hS5 ?_
        go_frame
        refine tkN 14 19 rfl rfl hS5 ?_
        go_frame
        refine tkN 15 20 rfl rfl hS5 ?_
        go_frame
        refine tkN 16 21 rfl rfl hS5 ?_
        go_frame
        refine tkN 17 22 rfl rfl hS5 ?_
        go_frame
        refine tkP 18 (.bool false) 23 rfl rfl hS5 ?_
        go_frame
        refine tkP 19 (.bool false) 4 rfl rfl hS5 ?_
        go_frame
        clear hS5
        refine wpAnyH_done (by kernel_rfl) ?_ _
        go_wp2_with fail
        go_ret
        refine ⟨false, rfl, ?_, hb5⟩
        have zHub := Hub.out
        have zHuo := Huo.out
        have zHLE := HLE.out
        refine ⟨fun h => (by cases h), fun h => ?_⟩
        exfalso
        obtain ⟨q1, q2, q3, q4⟩ := h
        first
          | exact zHub q1
          | exact zHuo q2
          | exact zHLE q3
          | (rcases q4 with ⟨e1, e2⟩ | ⟨e1, e2⟩ | ⟨e1, e2, e3⟩
             all_goals first
               | omega
               | exact zHuh e2
               | exact zHuh ⟨e2, e3⟩)
theorem implHits_3 (a b : ByteArray) (t : Int) (p : ByteArray) (o1 : Option Addr) (n1 c1 : Nat) (xs : List ByteArray) (o2 : Option Addr) (n2 c2 : Nat) (ys : List ByteArray) (st : Int) (v3 : Value) (n3 base : Nat) (fs : List (ByteArray × ByteArray)) (d : ByteArray) (u : Int) (w : World) (ha : a.size ≤ maxLen) (hb : b.size ≤ maxLen) (h1 : TextsA w o1 n1 xs) (h2 : TextsA w o2 n2 ys) (h3 : FieldsV w base v3 n3 fs) (hn1 : n1 ≤ 2000000) (hn2 : n2 ≤ 2000000) (hn3 : n3 ≤ 2000000) (hs1 : ∀ i, i < n1 → (textAt xs i).size ≤ maxLen) (hs2 : ∀ i, i < n2 → (textAt ys i).size ≤ maxLen) (hs3 : WalkF n3 fs) (hc : CopyF fs) (hp : p.size ≤ maxLen) (hx : d.size ≤ maxLen) (hg : (getV fs varyName).size ≤ 1048576) :
    Calls Tryz.prog 148 #[.agg #[.int .i64 3, .string a, .string b, .int .i64 t], .agg #[.string p, .slice o1 n1 c1, .slice o2 n2 c2, .int .i64 st, v3, .string d, .int .i64 u]] w fun e w' => BoolIs (HitP 3 a b t p xs ys st fs d u) w e w' := by
  obtain ⟨o3, c3, rfl, _⟩ := h3.slice
  have HV1 : Hid (∀ W, Below w.heap.size w W → TextsA W o1 n1 xs) := fun W h => h1.below h
  have HV2 : Hid (∀ W, Below w.heap.size w W → TextsA W o2 n2 ys) := fun W h => h2.below h
  have HV3 : Hid (∀ W, Below w.heap.size w W → FieldsV W base (.slice o3 n3 c3) n3 fs) := fun W h => h3.below h
  have HS1 : Hid (∀ i, i < n1 → (textAt xs i).size ≤ maxLen) := hs1
  have HS2 : Hid (∀ i, i < n2 → (textAt ys i).size ≤ maxLen) := hs2
  have HS3 : Hid (WalkF n3 fs) := hs3
  have HC : Hid (CopyF fs) := hc
  have HPM : Hid (p.size ≤ maxLen) := hp
  have HX : Hid (d.size ≤ maxLen) := hx
  have HG : Hid ((getV fs varyName).size ≤ 1048576) := hg
  have HAM : Hid (a.size ≤ maxLen) := ha
  have HBM : Hid (b.size ≤ maxLen) := hb
  clear h1 h2 h3 hs1 hs2 hs3 hc hp hx hg ha hb
  have hna : ∀ W : World, (nilAhead 157 260 (.agg #[.string a, .string b]) "loop.example/g00239/impl.bans").run Tryz.prog W = .ok (some false) W := fun _ => by kernel_rfl
  have hmt : ∀ W : World, (method 157 260 (.agg #[.string a, .string b]) "loop.example/g00239/impl.bans").run Tryz.prog W = .ok (251, .agg #[.string a, .string b]) W := fun _ => by kernel_rfl
  have hb0 : Below w.heap.size w w := Below.refl _ _
  go_enter Tryz.func148, Tryz.ntmps148
  go_upto_region 1 with fail
  obtain ⟨qv1, hqv1⟩ := exq ((w).heap.size)
  obtain ⟨w1, hW1⟩ := exq ((w).alloc (.cells #[.int .i64 3, .string a, .string b, .int .i64 t] 152))
  have hz1 : (w).heap.size = qv1 := hqv1.symm
  first | rw [← hW1, ← hqv1] | rw [← hW1]
  have hs1 := hsa hW1 hz1
  have bw := bal hW1
  have hb1 := hbt hb0 bw
  have HBv1_1 := hnew hW1 hz1
  clear hb0 bw hW1 hz1
  obtain ⟨qv2, hqv2⟩ := exq (qv1 + 1)
  obtain ⟨w2, hW2⟩ := exq ((w1).alloc (.cells #[.string p, .slice o1 n1 c1, .slice o2 n2 c2, .int .i64 st, .slice o3 n3 c3, .string d, .int .i64 u] 66))
  have hz2 : (w1).heap.size = qv2 := by rw [hqv2]; exact hs1
  first | rw [← hW2, ← hqv2] | rw [← hW2]
  have hs2 := hsa hW2 hz2
  have bw := bal hW2
  have hb2 := hbt hb1 bw
  have HBv1_2 := hblk HBv1_1 bw
  have HBv2_2 := hnew hW2 hz2
  clear hb1 HBv1_1 bw hW2 hz2
  clear hs2 hqv2 hs1 hqv1
  go_upto_region 1 with fail
  refine wp_region_held_drew (S := fun W => W.heap[qv1]? = some (.cells #[.int .i64 3, .string a, .string b, .int .i64 t] 152) ∧ W.heap[qv2]? = some (.cells #[.string p, .slice o1 n1 c1, .slice o2 n2 c2, .int .i64 st, .slice o3 n3 c3, .string d, .int .i64 u] 66)) (by kernel_rfl) ⟨HBv1_2.out, HBv2_2.out⟩ (fun _ => ?_)
  obtain ⟨w3, hX⟩ := exq w2.drew
  have bw := bdr hX
  rw [← hX]
  have hb3 := hbt hb2 bw
  have HBv1_3 := hblk HBv1_2 bw
  have HBv2_3 := hblk HBv2_2 bw
  have hS3 := And.intro HBv1_3.out HBv2_3.out
  clear hb2 HBv1_2 HBv2_2 bw hX
  refine tkL 0 (.agg #[.int .i64 3, .string a, .string b, .int .i64 t]) 5 rfl rfl (Or.inl ⟨by rfl, by intro W hW; obtain ⟨hhv1, hhv2⟩ := hW; have y0 := (cell_of hhv1 0).trans rfl; have y1 := (cell_of hhv1 1).trans rfl; have y2 := (cell_of hhv1 2).trans rfl; have y3 := (cell_of hhv1 3).trans rfl; go_simp⟩) hS3 ?_
  go_frame
  refine rd1 1 rfl (fun K hK => ?_)
  go_simp
  refine (implBanOk_any 3 a b t _ HAM.out HBM.out).mono ?_
  rintro e w4 ⟨ub, rfl, htub, bw⟩
  have hb4 := hbt hb3 bw
  have HBv1_4 := hblk HBv1_3 bw
  have HBv2_4 := hblk HBv2_3 bw
  clear hb3 HBv1_3 HBv2_3 bw
  have hS4 := And.intro HBv1_4.out HBv2_4.out
  refine hK.out _ _ hS4 (fun _ => ?_)
  clear hK K hS3
  refine tkP 2 (.bool ub) 7 rfl rfl hS4 ?_
  go_frame
  cases ub with
  | false =>
    have Hub : Hid (¬ (BanP 3 a b t)) := fun h => nomatch htub.2 h
    clear htub
    refine tkN 3 8 rfl rfl hS4 ?_
    go_frame
    refine tkN 4 9 rfl rfl hS4 ?_
    go_frame
    refine tkP 5 (.bool false) 10 rfl rfl hS4 ?_
    go_frame
    refine tkP 6 (.bool false) 11 rfl rfl hS4 ?_
    go_frame
    refine tkN 7 12 rfl rfl hS4 ?_
    go_frame
    refine tkN 8 13 rfl rfl hS4 ?_
    go_frame
    refine tkN 9 14 rfl rfl hS4 ?_
    go_frame
    refine tkN 10 15 rfl rfl hS4 ?_
    go_frame
    refine tkN 11 16 rfl rfl hS4 ?_
    go_frame
    refine tkP 12 (.bool false) 17 rfl rfl hS4 ?_
    go_frame
    refine tkP 13 (.bool false) 18 rfl rfl hS4 ?_
    go_frame
    refine tkN 14 19 rfl rfl hS4 ?_
    go_frame
    refine tkN 15 20 rfl rfl hS4 ?_
    go_frame
    refine tkN 16 21 rfl rfl hS4 ?_
    go_frame
    refine tkN 17 22 rfl rfl hS4 ?_
    go_frame
    refine tkP 18 (.bool false) 23 rfl rfl hS4 ?_
    go_frame
    refine tkP 19 (.bool false) 4 rfl rfl hS4 ?_
    go_frame
    clear hS4
    refine wpAnyH_done (by kernel_rfl) ?_ _
    go_wp2_with fail
    go_ret
    refine ⟨false, rfl, ?_, hb4⟩
    have zHub := Hub.out
    refine ⟨fun h => (by cases h), fun h => ?_⟩
    exfalso
    obtain ⟨q1, q2, q3, q4⟩ := h
    first
      | exact zHub q1
      | exact zHuo q2
      | exact zHLE q3
      | (rcases q4 with ⟨e1, e2⟩ | ⟨e1, e2⟩ | ⟨e1, e2, e3⟩
         all_goals first
           | omega
           | exact zHuh e2
           | exact zHuh ⟨e2, e3⟩)
  | true =>
    have Hub : Hid (BanP 3 a b t) := htub.1 rfl
    clear htub
    refine tkL 3 (.agg #[.string p, .slice o1 n1 c1, .slice o2 n2 c2, .int .i64 st, .slice o3 n3 c3, .string d, .int .i64 u]) 8 rfl rfl (Or.inl ⟨by rfl, by intro W hW; obtain ⟨hhv1, hhv2⟩ := hW; have y0 := (cell_of hhv2 0).trans rfl; have y1 := (cell_of hhv2 1).trans rfl; have y2 := (cell_of hhv2 2).trans rfl; have y3 := (cell_of hhv2 3).trans rfl; have y4 := (cell_of hhv2 4).trans rfl; have y5 := (cell_of hhv2 5).trans rfl; have y6 := (cell_of hhv2 6).trans rfl; go_simp⟩) hS4 ?_
    go_frame
    refine rd1 4 rfl (fun K hK => ?_)
    go_simp
    refine (implObjOk_any p _ n1 _ xs _ n2 _ ys st _ n3 base fs d u _ (HV1.out _ hb4) (HV2.out _ hb4) (HV3.out _ hb4) (by omega) (by omega) (by omega) HS1.out HS2.out HS3.out HC.out HPM.out HX.out HG.out).mono ?_
    rintro e w5 ⟨uo, rfl, htuo, bw⟩
    have hb5 := hbt hb4 bw
    have HBv1_5 := hblk HBv1_4 bw
    have HBv2_5 := hblk HBv2_4 bw
    clear hb4 HBv1_4 HBv2_4 bw
    have hS5 := And.intro HBv1_5.out HBv2_5.out
    refine hK.out _ _ hS5 (fun _ => ?_)
    clear hK K hS4
    refine tkP 5 (.bool uo) 10 rfl rfl hS5 ?_
    go_frame
    refine tkP 6 (.bool uo) 11 rfl rfl hS5 ?_
    go_frame
    cases uo with
    | false =>
      have Huo : Hid (¬ (ObjP p xs ys st fs d u)) := fun h => nomatch htuo.2 h
      clear htuo
      refine tkN 7 12 rfl rfl hS5 ?_
      go_frame
      refine tkN 8 13 rfl rfl hS5 ?_
      go_frame
      refine tkN 9 14 rfl rfl hS5 ?_
      go_frame
      refine tkN 10 15 rfl rfl hS5 ?_
      go_frame
      refine tkN 11 16 rfl rfl hS5 ?_
      go_frame
      refine tkP 12 (.bool false) 17 rfl rfl hS5 ?_
      go_frame
      refine tkP 13 (.bool false) 18 rfl rfl hS5 ?_
      go_frame
      refine tkN 14 19 rfl rfl hS5 ?_
      go_frame
      refine tkN 15 20 rfl rfl hS5 ?_
      go_frame
      refine tkN 16 21 rfl rfl hS5 ?_
      go_frame
      refine tkN 17 22 rfl rfl hS5 ?_
      go_frame
      refine tkP 18 (.bool false) 23 rfl rfl hS5 ?_
      go_frame
      refine tkP 19 (.bool false) 4 rfl rfl hS5 ?_
      go_frame
      clear hS5
      refine wpAnyH_done (by kernel_rfl) ?_ _
      go_wp2_with fail
      go_ret
      refine ⟨false, rfl, ?_, hb5⟩
      have zHub := Hub.out
      have zHuo := Huo.out
      refine ⟨fun h => (by cases h), fun h => ?_⟩
      exfalso
      obtain ⟨q1, q2, q3, q4⟩ := h
      first
        | exact zHub q1
        | exact zHuo q2
        | exact zHLE q3
        | (rcases q4 with ⟨e1, e2⟩ | ⟨e1, e2⟩ | ⟨e1, e2, e3⟩
           all_goals first
             | omega
             | exact zHuh e2
             | exact zHuh ⟨e2, e3⟩)
    | true =>
      have Huo : Hid (ObjP p xs ys st fs d u) := htuo.1 rfl
      clear htuo
      refine tkP 7 (.pointer (some ⟨qv2, 6, none⟩)) 12 rfl rfl hS5 ?_
      go_frame
      refine tkL 8 (.int .i64 u) 13 rfl rfl (Or.inl ⟨by rfl, by intro W hW; obtain ⟨hhv1, hhv2⟩ := hW; have y6 := (cell_of hhv2 6).trans rfl; go_simp⟩) hS5 ?_
      go_frame
      refine tkP 9 (.pointer (some ⟨qv1, 3, none⟩)) 14 rfl rfl hS5 ?_
      go_frame
      refine tkL 10 (.int .i64 t) 15 rfl rfl (Or.inl ⟨by rfl, by intro W hW; obtain ⟨hhv1, hhv2⟩ := hW; have y3 := (cell_of hhv1 3).trans rfl; go_simp⟩) hS5 ?_
      go_frame
      by_cases hc1 : u ≤ t
      · have HLE : Hid (u ≤ t) := hc1
        refine tkP 11 (.bool true) 16 rfl rfl hS5 ?_
        go_frame
        refine tkP 12 (.bool true) 17 rfl rfl hS5 ?_
        go_frame
        refine tkP 13 (.bool true) 18 rfl rfl hS5 ?_
        go_frame
        refine tkL 14 (.agg #[.int .i64 3, .string a, .string b, .int .i64 t]) 19 rfl rfl (Or.inl ⟨by rfl, by intro W hW; obtain ⟨hhv1, hhv2⟩ := hW; have y0 := (cell_of hhv1 0).trans rfl; have y1 := (cell_of hhv1 1).trans rfl; have y2 := (cell_of hhv1 2).trans rfl; have y3 := (cell_of hhv1 3).trans rfl; go_simp⟩) hS5 ?_
        go_frame
        refine tkL 16 (.agg #[.string p, .slice o1 n1 c1, .slice o2 n2 c2, .int .i64 st, .slice o3 n3 c3, .string d, .int .i64 u]) 21 rfl rfl (Or.inl ⟨by rfl, by intro W hW; obtain ⟨hhv1, hhv2⟩ := hW; have y0 := (cell_of hhv2 0).trans rfl; have y1 := (cell_of hhv2 1).trans rfl; have y2 := (cell_of hhv2 2).trans rfl; have y3 := (cell_of hhv2 3).trans rfl; have y4 := (cell_of hhv2 4).trans rfl; have y5 := (cell_of hhv2 5).trans rfl; have y6 := (cell_of hhv2 6).trans rfl; go_simp⟩) hS5 ?_
        go_frame
        refine rd1 15 rfl (fun K hK => ?_)
        go_simp
        refine (ruleOf_3 a b t _).mono ?_
        rintro e w6 ⟨rfl, bw⟩
        have hb6 := hbt hb5 bw
        have HBv1_6 := hblk HBv1_5 bw
        have HBv2_6 := hblk HBv2_5 bw
        clear hb5 HBv1_5 HBv2_5 bw
        have hS6 := And.intro HBv1_6.out HBv2_6.out
        refine hK.out _ _ hS6 (fun _ => ?_)
        clear hK K hS5
        refine rd1 17 rfl (fun K hK => ?_)
        go_simp
        refine (bans_3 a b p _ _ st _ d u _ n3 base fs (HV3.out _ hb6) (by omega) HC.out).mono ?_
        rintro e w7 ⟨uh, rfl, htuh, bw⟩
        have hb7 := hbt hb6 bw
        have HBv1_7 := hblk HBv1_6 bw
        have HBv2_7 := hblk HBv2_6 bw
        clear hb6 HBv1_6 HBv2_6 bw
        have hS7 := And.intro HBv1_7.out HBv2_7.out
        refine hK.out _ _ hS7 (fun _ => ?_)
        clear hK K hS6
        refine tkP 18 (.bool uh) 23 rfl rfl hS7 ?_
        go_frame
        refine tkP 19 (.bool uh) 4 rfl rfl hS7 ?_
        go_frame
        clear hS7
        refine wpAnyH_done (by kernel_rfl) ?_ _
        cases uh with
        | false =>
          have Huh : Hid (¬ (getB fs a = true ∧ getV fs a = b)) := fun h => nomatch htuh.2 h
          clear htuh
          go_wp2_with fail
          go_ret
          refine ⟨false, rfl, ?_, hb7⟩
          have zHub := Hub.out
          have zHuo := Huo.out
          have zHLE := HLE.out
          have zHuh := Huh.out
          refine ⟨fun h => (by cases h), fun h => ?_⟩
          exfalso
          obtain ⟨q1, q2, q3, q4⟩ := h
          first
            | exact zHub q1
            | exact zHuo q2
            | exact zHLE q3
            | (rcases q4 with ⟨e1, e2⟩ | ⟨e1, e2⟩ | ⟨e1, e2, e3⟩
               all_goals first
                 | omega
                 | exact zHuh e2
                 | exact zHuh ⟨e2, e3⟩)
        | true =>
          have Huh : Hid (getB fs a = true ∧ getV fs a = b) := htuh.1 rfl
          clear htuh
          go_wp2_with fail
          go_ret
          refine ⟨true, rfl, ?_, hb7⟩
          have zHub := Hub.out
          have zHuo := Huo.out
          have zHLE := HLE.out
          have zHuh := Huh.out
          exact ⟨fun _ => ⟨zHub, zHuo, zHLE, .inr (.inr ⟨rfl, zHuh.1, zHuh.2⟩)⟩, fun _ => rfl⟩
      · have HLE : Hid (¬ u ≤ t) := hc1
        refine tkP 11 (.bool false) 16 rfl rfl hS5 ?_
        go_frame
        refine tkP 12 (.bool false) 17 rfl rfl hS5 ?_
        go_frame
        refine tkP 13 (.bool false) 18 rfl rfl hS5 ?_
        go_frame
        refine tkN 14 19 rfl rfl hS5 ?_
        go_frame
        refine tkN 15 20 rfl rfl hS5 ?_
        go_frame
        refine tkN 16 21 rfl rfl hS5 ?_
        go_frame
        refine tkN 17 22 rfl rfl hS5 ?_
        go_frame
        refine tkP 18 (.bool false) 23 rfl rfl hS5 ?_
        go_frame
        refine tkP 19 (.bool false) 4 rfl rfl hS5 ?_
        go_frame
        clear hS5
        refine wpAnyH_done (by kernel_rfl) ?_ _
        go_wp2_with fail
        go_ret
        refine ⟨false, rfl, ?_, hb5⟩
        have zHub := Hub.out
        have zHuo := Huo.out
        have zHLE := HLE.out
        refine ⟨fun h => (by cases h), fun h => ?_⟩
        exfalso
        obtain ⟨q1, q2, q3, q4⟩ := h
        first
          | exact zHub q1
          | exact zHuo q2
          | exact zHLE q3
          | (rcases q4 with ⟨e1, e2⟩ | ⟨e1, e2⟩ | ⟨e1, e2, e3⟩
             all_goals first
               | omega
               | exact zHuh e2
               | exact zHuh ⟨e2, e3⟩)
theorem implHits_no (k : Int) (hk1 : ¬ k = 1) (hk2 : ¬ k = 2) (hk3 : ¬ k = 3) (a b : ByteArray) (t : Int) (p : ByteArray) (o1 : Option Addr) (n1 c1 : Nat) (xs : List ByteArray) (o2 : Option Addr) (n2 c2 : Nat) (ys : List ByteArray) (st : Int) (v3 : Value) (n3 base : Nat) (fs : List (ByteArray × ByteArray)) (d : ByteArray) (u : Int) (w : World) (ha : a.size ≤ maxLen) (hb : b.size ≤ maxLen) (h1 : TextsA w o1 n1 xs) (h2 : TextsA w o2 n2 ys) (h3 : FieldsV w base v3 n3 fs) (_hn1 : n1 ≤ 2000000) (_hn2 : n2 ≤ 2000000) (_hn3 : n3 ≤ 2000000) (hs1 : ∀ i, i < n1 → (textAt xs i).size ≤ maxLen) (hs2 : ∀ i, i < n2 → (textAt ys i).size ≤ maxLen) (hs3 : WalkF n3 fs) (hc : CopyF fs) (hp : p.size ≤ maxLen) (hx : d.size ≤ maxLen) (hg : (getV fs varyName).size ≤ 1048576) :
  Calls Tryz.prog 148 #[.agg #[.int .i64 k, .string a, .string b, .int .i64 t], .agg #[.string p, .slice o1 n1 c1, .slice o2 n2 c2, .int .i64 st, v3, .string d, .int .i64 u]] w fun e w' => BoolIs (HitP k a b t p xs ys st fs d u) w e w' := by
 obtain ⟨o3, c3, rfl, _⟩ := h3.slice
 have HV1 : Hid (∀ W, Below w.heap.size w W → TextsA W o1 n1 xs) := fun W h => h1.below h
 have HV2 : Hid (∀ W, Below w.heap.size w W → TextsA W o2 n2 ys) := fun W h => h2.below h
 have HV3 : Hid (∀ W, Below w.heap.size w W → FieldsV W base (.slice o3 n3 c3) n3 fs) := fun W h => h3.below h
 have HS1 : Hid (∀ i, i < n1 → (textAt xs i).size ≤ maxLen) := hs1
 have HS2 : Hid (∀ i, i < n2 → (textAt ys i).size ≤ maxLen) := hs2
 have HS3 : Hid (WalkF n3 fs) := hs3
 have HC : Hid (CopyF fs) := hc
 have HPM : Hid (p.size ≤ maxLen) := hp
 have HX : Hid (d.size ≤ maxLen) := hx
 have HG : Hid ((getV fs varyName).size ≤ 1048576) := hg
 have HAM : Hid (a.size ≤ maxLen) := ha
 have HBM : Hid (b.size ≤ maxLen) := hb
 clear h1 h2 h3 hs1 hs2 hs3 hc hp hx hg ha hb
 have HK1 : Hid (¬ k = 1) := hk1
 have HK2 : Hid (¬ k = 2) := hk2
 have HK3 : Hid (¬ k = 3) := hk3
 clear hk1 hk2 hk3
 have hb0 : Below w.heap.size w w := Below.refl _ _
 go_enter Tryz.func148, Tryz.ntmps148
 go_upto_region 1 with fail
 obtain ⟨qv1, hqv1⟩ := exq ((w).heap.size)
 obtain ⟨w1, hW1⟩ := exq ((w).alloc (.cells #[.int .i64 k, .string a, .string b, .int .i64 t] 152))
 have hz1 : (w).heap.size = qv1 := hqv1.symm
 first | rw [← hW1, ← hqv1] | rw [← hW1]
 have hs1 := hsa hW1 hz1
 have bw := bal hW1
 have hb1 := hbt hb0 bw
 have HBv1_1 := hnew hW1 hz1
 clear hb0 bw hW1 hz1
 obtain ⟨qv2, hqv2⟩ := exq (qv1 + 1)
 obtain ⟨w2, hW2⟩ := exq ((w1).alloc (.cells #[.string p, .slice o1 n1 c1, .slice o2 n2 c2, .int .i64 st, .slice o3 n3 c3, .string d, .int .i64 u] 66))
 have hz2 : (w1).heap.size = qv2 := by rw [hqv2]; exact hs1
 first | rw [← hW2, ← hqv2] | rw [← hW2]
 have hs2 := hsa hW2 hz2
 have bw := bal hW2
 have hb2 := hbt hb1 bw
 have HBv1_2 := hblk HBv1_1 bw
 have HBv2_2 := hnew hW2 hz2
 clear hb1 HBv1_1 bw hW2 hz2
 clear hs2 hqv2 hs1 hqv1
 go_upto_region 1 with fail
 refine wp_region_held_drew (S := fun W => W.heap[qv1]? = some (.cells #[.int .i64 k, .string a, .string b, .int .i64 t] 152) ∧ W.heap[qv2]? = some (.cells #[.string p, .slice o1 n1 c1, .slice o2 n2 c2, .int .i64 st, .slice o3 n3 c3, .string d, .int .i64 u] 66)) (by kernel_rfl) ⟨HBv1_2.out, HBv2_2.out⟩ (fun _ => ?_)
 obtain ⟨w3, hX⟩ := exq w2.drew
 have bw := bdr hX
 rw [← hX]
 have hb3 := hbt hb2 bw
 have HBv1_3 := hblk HBv1_2 bw
 have HBv2_3 := hblk HBv2_2 bw
 have hS3 := And.intro HBv1_3.out HBv2_3.out
 clear hb2 HBv1_2 HBv2_2 bw hX
 refine tkL 0 (.agg #[.int .i64 k, .string a, .string b, .int .i64 t]) 5 rfl rfl (Or.inl ⟨by rfl, by intro W hW; obtain ⟨hhv1, hhv2⟩ := hW; have y0 := (cell_of hhv1 0).trans rfl; have y1 := (cell_of hhv1 1).trans rfl; have y2 := (cell_of hhv1 2).trans rfl; have y3 := (cell_of hhv1 3).trans rfl; go_simp⟩) hS3 ?_
 go_frame
 refine rd1 1 rfl (fun K hK => ?_)
 go_simp
 refine (implBanOk_any k a b t _ HAM.out HBM.out).mono ?_
 rintro e w4 ⟨ub, rfl, htub, bw⟩
 have HNB : Hid (¬ BanP k a b t) := fun h => h.kinds.elim HK1.out (fun h => h.elim HK2.out HK3.out)
 obtain rfl : ub = false := by
  cases ub with
  | false => rfl
  | true => exact absurd (htub.1 rfl) HNB.out
 clear htub
 have hb4 := hbt hb3 bw
 have HBv1_4 := hblk HBv1_3 bw
 have HBv2_4 := hblk HBv2_3 bw
 clear hb3 HBv1_3 HBv2_3 bw
 have hS4 := And.intro HBv1_4.out HBv2_4.out
 refine hK.out _ _ hS4 (fun _ => ?_)
 clear hK K hS3
 refine tkP 2 (.bool false) 7 rfl rfl hS4 ?_
 go_frame
 refine tkN 3 8 rfl rfl hS4 ?_
 go_frame
 refine tkN 4 9 rfl rfl hS4 ?_
 go_frame
 refine tkP 5 (.bool false) 10 rfl rfl hS4 ?_
 go_frame
 refine tkP 6 (.bool false) 11 rfl rfl hS4 ?_
 go_frame
 refine tkN 7 12 rfl rfl hS4 ?_
 go_frame
 refine tkN 8 13 rfl rfl hS4 ?_
 go_frame
 refine tkN 9 14 rfl rfl hS4 ?_
 go_frame
 refine tkN 10 15 rfl rfl hS4 ?_
 go_frame
 refine tkN 11 16 rfl rfl hS4 ?_
 go_frame
 refine tkP 12 (.bool false) 17 rfl rfl hS4 ?_
 go_frame
 refine tkP 13 (.bool false) 18 rfl rfl hS4 ?_
 go_frame
 refine tkN 14 19 rfl rfl hS4 ?_
 go_frame
 refine tkN 15 20 rfl rfl hS4 ?_
 go_frame
 refine tkN 16 21 rfl rfl hS4 ?_
 go_frame
 refine tkN 17 22 rfl rfl hS4 ?_
 go_frame
 refine tkP 18 (.bool false) 23 rfl rfl hS4 ?_
 go_frame
 refine tkP 19 (.bool false) 4 rfl rfl hS4 ?_
 go_frame
 clear hS4
 refine wpAnyH_done (by kernel_rfl) ?_ _
 go_wp2_with fail
 go_ret
 exact BoolIs.no (fun h => HNB.out h.1) hb4
theorem implHits_any (k : Int) (a b : ByteArray) (t : Int) (p : ByteArray) (o1 : Option Addr) (n1 c1 : Nat) (xs : List ByteArray) (o2 : Option Addr) (n2 c2 : Nat) (ys : List ByteArray) (st : Int) (v3 : Value) (n3 base : Nat) (fs : List (ByteArray × ByteArray)) (d : ByteArray) (u : Int) (w : World) (ha : a.size ≤ maxLen) (hb : b.size ≤ maxLen) (h1 : TextsA w o1 n1 xs) (h2 : TextsA w o2 n2 ys) (h3 : FieldsV w base v3 n3 fs) (hn1 : n1 ≤ 2000000) (hn2 : n2 ≤ 2000000) (hn3 : n3 ≤ 2000000) (hs1 : ∀ i, i < n1 → (textAt xs i).size ≤ maxLen) (hs2 : ∀ i, i < n2 → (textAt ys i).size ≤ maxLen) (hs3 : WalkF n3 fs) (hc : CopyF fs) (hp : p.size ≤ maxLen) (hx : d.size ≤ maxLen) (hg : (getV fs varyName).size ≤ 1048576) :
  Calls Tryz.prog 148 #[.agg #[.int .i64 k, .string a, .string b, .int .i64 t], .agg #[.string p, .slice o1 n1 c1, .slice o2 n2 c2, .int .i64 st, v3, .string d, .int .i64 u]] w fun e w' => BoolIs (HitP k a b t p xs ys st fs d u) w e w' := by
 by_cases h1' : k = 1
 · subst h1'; exact implHits_1 a b t p o1 n1 c1 xs o2 n2 c2 ys st v3 n3 base fs d u w ha hb h1 h2 h3 hn1 hn2 hn3 hs1 hs2 hs3 hc hp hx hg
 ·
  by_cases h2' : k = 2
  · subst h2'; exact implHits_2 a b t p o1 n1 c1 xs o2 n2 c2 ys st v3 n3 base fs d u w ha hb h1 h2 h3 hn1 hn2 hn3 hs1 hs2 hs3 hc hp hx hg
  ·
   by_cases h3' : k = 3
   · subst h3'; exact implHits_3 a b t p o1 n1 c1 xs o2 n2 c2 ys st v3 n3 base fs d u w ha hb h1 h2 h3 hn1 hn2 hn3 hs1 hs2 hs3 hc hp hx hg
   · exact implHits_no k h1' h2' h3' a b t p o1 n1 c1 xs o2 n2 c2 ys st v3 n3 base fs d u w ha hb h1 h2 h3 hn1 hn2 hn3 hs1 hs2 hs3 hc hp hx hg
end Go.Proofs.YtbmhonfgffjpcaaGreat
namespace Go.Proofs.YtbmhonfgffjpcaaGreat
open Go.RowKit
open Go.Lib hiding intOf
theorem implHitsAny_any (oa : Option Addr) (n cap : Nat) (l : List (Int × ByteArray × ByteArray × Int)) (p : ByteArray) (o1 : Option Addr) (n1 c1 : Nat) (xs : List ByteArray) (o2 : Option Addr) (n2 c2 : Nat) (ys : List ByteArray) (st : Int) (v3 : Value) (n3 base : Nat) (fs : List (ByteArray × ByteArray)) (d : ByteArray) (u : Int) (w : World) (hl : BanA w oa n l) (hn : n ≤ 2000000) (hlz : ∀ x ∈ l, x.2.1.size ≤ maxLen ∧ x.2.2.1.size ≤ maxLen) (h1 : TextsA w o1 n1 xs) (h2 : TextsA w o2 n2 ys) (h3 : FieldsV w base v3 n3 fs) (hn1 : n1 ≤ 2000000) (hn2 : n2 ≤ 2000000) (hn3 : n3 ≤ 2000000) (hs1 : ∀ i, i < n1 → (textAt xs i).size ≤ maxLen) (hs2 : ∀ i, i < n2 → (textAt ys i).size ≤ maxLen) (hs3 : WalkF n3 fs) (hc : CopyF fs) (hp : p.size ≤ maxLen) (hx : d.size ≤ maxLen) (hg : (getV fs varyName).size ≤ 1048576) :
  Calls Tryz.prog 123 #[.slice oa n cap, .agg #[.string p, .slice o1 n1 c1, .slice o2 n2 c2, .int .i64 st, v3, .string d, .int .i64 u]] w fun e w' => BoolIs (AnyP l p xs ys st fs d u) w e w' := by
 obtain ⟨o3, c3, rfl, _⟩ := h3.slice
 have HL : Hid (∀ W, Below w.heap.size w W → BanA W oa n l) := fun W h => hl.below h
 have HLN : Hid (l.length = n) := hl.1
 have HC : Hid (∀ (k : Int) (a b : ByteArray) (t : Int) (W : World), Below w.heap.size w W → a.size ≤ maxLen → b.size ≤ maxLen → Calls Tryz.prog 148 #[.agg #[.int .i64 k, .string a, .string b, .int .i64 t], .agg #[.string p, .slice o1 n1 c1, .slice o2 n2 c2, .int .i64 st, .slice o3 n3 c3, .string d, .int .i64 u]] W fun e w' => BoolIs (HitP k a b t p xs ys st fs d u) W e w') := fun k a b t W h ha hb =>
  implHits_any k a b t p o1 n1 c1 xs o2 n2 c2 ys st _ n3 base fs d u W ha hb (h1.below h) (h2.below h) (h3.below h) hn1 hn2 hn3 hs1 hs2 hs3 hc hp hx hg
 have HLZ : Hid (∀ x ∈ l, x.2.1.size ≤ maxLen ∧ x.2.2.1.size ≤ maxLen) := hlz
 clear hl hlz h1 h2 h3 hs1 hs2 hs3 hc hp hx hg
 have hb0 : Below w.heap.size w w := Below.refl _ _
 go_enter Tryz.func123, Tryz.ntmps123
 go_upto_region 1 with fail
 obtain ⟨qv1, hqv1⟩ := exq ((w).heap.size)
 obtain ⟨w1, hW1⟩ := exq ((w).alloc (.cells #[.string p, .slice o1 n1 c1, .slice o2 n2 c2, .int .i64 st, .slice o3 n3 c3, .string d, .int .i64 u] 66))
 have hz1 : (w).heap.size = qv1 := hqv1.symm
 first | rw [← hW1, ← hqv1] | rw [← hW1]
 have hs1 := hsa hW1 hz1
 have bw := bal hW1
 have hb1 := hbt hb0 bw
 have HBv1_1 := hnew hW1 hz1
 clear hb0 bw hW1 hz1
 clear hs1 hqv1
 go_wp2_with fail
 go_loopw [9] (fun i wr => ∃ j : Nat, j ≤ n ∧ i = .int .i64 (j : Int) ∧ Hid (Below w.heap.size w wr ∧ (wr).heap[qv1]? = some (.cells #[.string p, .slice o1 n1 c1, .slice o2 n2 c2, .int .i64 st, .slice o3 n3 c3, .string d, .int .i64 u] 66)) ∧ Hid (∀ x ∈ l.take j, ¬ HitP x.1 x.2.1 x.2.2.1 x.2.2.2 p xs ys st fs d u)) (fun i _ => n - (intOf i).toNat)
 case atStart => exact ⟨0, Nat.zero_le _, rfl, ⟨hb1, HBv1_1.out⟩, fun x hx => by simp at hx⟩
 case round =>
  obtain ⟨j, hj, rfl, HW, HN⟩ := hrel
  by_cases hlt : (j : Int) < (n : Int)
  ·
   have hb2 := HW.out.1
   have HBv1_2 : Hid ((wr).heap[qv1]? = some (.cells #[.string p, .slice o1 n1 c1, .slice o2 n2 c2, .int .i64 st, .slice o3 n3 c3, .string d, .int .i64 u] 66)) := HW.out.2
   clear HW hb1 HBv1_1
   have hjx : j < l.length := by rw [HLN.out]; omega
   obtain ⟨g, hog, hgl, r0, r1, r2, r3⟩ := (HL.out wr hb2).2 j (by omega)
   subst hog
   obtain ⟨y, hy⟩ := exq (banAt l j)
   rw [← hy] at r0 r1 r2 r3
   have HM : Hid (y ∈ l) := by show _ ∈ _; rw [hy]; exact banAt_mem l j hjx
   have HTK : Hid (l.take (j + 1) = l.take j ++ [y]) := by show _ = _; rw [hy]; exact take_banAt l j hjx
   have HZ : Hid (y.2.1.size ≤ maxLen ∧ y.2.2.1.size ≤ maxLen) := HLZ.out y HM.out
   clear hy hjx hgl
   obtain ⟨y0, y1, y2, y3⟩ := y
   go_upto_region 4 with fail
   obtain ⟨qv2, hqv2⟩ := exq ((wr).heap.size)
   obtain ⟨w3, hW3⟩ := exq ((wr).alloc (.cells #[.int .i64 y0, .string y1, .string y2, .int .i64 y3] 152))
   have hz3 : (wr).heap.size = qv2 := hqv2.symm
   first | rw [← hW3, ← hqv2] | rw [← hW3]
   have hs3 := hsa hW3 hz3
   have bw := bal hW3
   have hb3 := hbt hb2 bw
   have HBv1_3 := hblk HBv1_2 bw
   have HBv2_3 := hnew hW3 hz3
   clear hb2 HBv1_2 bw hW3 hz3
   clear hs3 hqv2
   clear r0 r1 r2 r3
   have cv1_0 := (k7c HBv1_3).1
   have cv1_1 := (k7c HBv1_3).2.1
   have cv1_2 := (k7c HBv1_3).2.2.1
   have cv1_3 := (k7c HBv1_3).2.2.2.1
   have cv1_4 := (k7c HBv1_3).2.2.2.2.1
   have cv1_5 := (k7c HBv1_3).2.2.2.2.2.1
   have cv1_6 := (k7c HBv1_3).2.2.2.2.2.2
   have cv2_0 := (k4c HBv2_3).1
   have cv2_1 := (k4c HBv2_3).2.1
   have cv2_2 := (k4c HBv2_3).2.2.1
   have cv2_3 := (k4c HBv2_3).2.2.2
   go_wp2_with fail
   refine (HC.out y0 y1 y2 y3 _ hb3 HZ.out.1 HZ.out.2).mono ?_
   rintro e w4 ⟨uh, rfl, htuh, bw⟩
   have hb4 := hbt hb3 bw
   have HBv1_4 := hblk HBv1_3 bw
   have HBv2_4 := hblk HBv2_3 bw
   clear hb3 HBv1_3 HBv2_3 bw
   clear cv1_0 cv1_1 cv1_2 cv1_3 cv1_4 cv1_5 cv1_6 cv2_0 cv2_1 cv2_2 cv2_3
   cases uh with
   | false =>
    have HN2 : Hid (∀ x ∈ l.take (j + 1), ¬ HitP x.1 x.2.1 x.2.2.1 x.2.2.2 p xs ys st fs d u) := by
     intro x hx
     rw [HTK.out] at hx
     rcases List.mem_append.1 hx with hx | hx
     · exact HN.out x hx
     · rw [List.mem_singleton.1 hx]; exact fun h => nomatch htuh.2 h
    clear htuh HN
    go_wp2_with fail
    go_roundw
    case rel => exact ⟨j + 1, by omega, by go_num, ⟨hb4, HBv1_4.out⟩, HN2⟩
    case measure => simp [intOf]; omega
   | true =>
    have HA : Hid (AnyP l p xs ys st fs d u) := ⟨_, HM.out, htuh.1 rfl⟩
    clear htuh HN
    go_wp2_with fail
    go_ret
    exact ⟨true, rfl, ⟨fun _ => HA.out, fun _ => rfl⟩, hb4⟩
  ·
   have hb2 := HW.out.1
   have HBv1_2 : Hid ((wr).heap[qv1]? = some (.cells #[.string p, .slice o1 n1 c1, .slice o2 n2 c2, .int .i64 st, .slice o3 n3 c3, .string d, .int .i64 u] 66)) := HW.out.2
   clear HW hb1 HBv1_1
   have HA : Hid (¬ AnyP l p xs ys st fs d u) := by
    rintro ⟨x, hx, h⟩
    have h2 := HN.out
    rw [List.take_of_length_le (by rw [HLN.out]; omega)] at h2
    exact h2 x hx h
   clear HN
   go_wp2_with fail
   go_ret
   exact BoolIs.no HA.out hb2
end Go.Proofs.YtbmhonfgffjpcaaGreat
