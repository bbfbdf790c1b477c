/- What the proof of FnAnswered leans on: contracts of the program's and the specification's functions, and plain facts (part 5 of 9). -/
import Derived.Test.YtmcmeeibogkpaaaGreatDoorRFnAnsweredD
set_option maxHeartbeats 16000000
set_option maxRecDepth 100000
namespace Go.Proofs.YtmcmeeibogkpaaaGreatDoorR
open Go.RowKit
open Go.Lib hiding intOf
theorem path_cls (n : Int) : PathB n ↔ (cls n ≠ 4 ∧ cls n ≠ 7) := by
 have := cls_spec n
 unfold PathB
 constructor
 · intro h; omega
 · intro h; omega
theorem path_small {n : Int} (h : PathB n) : n < 128 := by unfold PathB at h; omega
theorem isPathRune_any (r : Int) (w : World) :
  Calls Tryz.prog 156 #[.int .i32 r] w fun e w' => BoolIs (PathB r) w e w' := by
 have HP : Hid (PathB r ↔ (cls r ≠ 4 ∧ cls r ≠ 7)) := path_cls r
 go_enter Tryz.func156, Tryz.ntmps156
 go_wp2_with fail
 refine (classOf_any r _).mono ?_
 rintro e w1 ⟨rfl, hb⟩
 generalize cls r = c at HP ⊢
 by_cases h4 : c = 4
 ·
  have HN : Hid (¬ PathB r) := fun h => (HP.out.1 h).1 h4
  subst h4
  go_wp2_with fail
  go_ret
  exact BoolIs.no HN.out hb
 ·
  have h5 : (c != 4) = true := by rw [bne_iff_ne]; exact h4
  by_cases h7 : c = 7
  ·
   have HN : Hid (¬ PathB r) := fun h => (HP.out.1 h).2 h7
   subst h7
   go_wp2_with fail
   go_ret
   exact BoolIs.no HN.out hb
  ·
   have h8 : (c != 7) = true := by rw [bne_iff_ne]; exact h7
   have HY : Hid (PathB r) := HP.out.2 ⟨h4, h7⟩
   go_wp2_with fail
   go_ret
   exact BoolIs.yes HY.out hb
theorem allRunes_path (s : ByteArray) (w : World) :
  Calls Tryz.prog 155 #[.string s, .func (.func 156) #[] #[]] w fun e w' => BoolIs (AllB PathB s) w e w' := by
 go_enter Tryz.func155, Tryz.ntmps155
 go_wp2
 go_loopw [6] (fun _ wr => ∃ pos : Nat, wr.heap[w.heap.size]? = some (.stringIter s pos) ∧ Below w.heap.size w wr ∧ Hid (AllTo PathB s pos)) (fun _ wr => s.size - wr.iterPos w.heap.size)
 case atStart => exact ⟨0, World.iter_heap _ _ _, (Below.refl _ _).alloc (Nat.le_refl _) _, allTo_zero _ _⟩
 case round =>
  obtain ⟨pos, hh, hbw, hall⟩ := hrel
  by_cases hp : pos < s.size
  ·
   have hnx := fun ty => run_next_any_at (P := Tryz.prog) wr w.heap.size s pos ty hh hp
   go_wp2_with (go_at_call 156; refine (isPathRune_any _ _).mono ?_; rintro e w1 ⟨b, rfl, hbt, hb1⟩)
   ·
    have hbf : b = false := by simpa using ‹(!b) = true›
    have hno : ¬ PathB ((Utf8.decode s pos).1 : Int) := fun h => by rw [hbt.2 h] at hbf; cases hbf
    go_ret
    exact BoolIs.no (rune_no (fun _ => path_small) s pos hp hno) (iter_step hh hbw hb1).2
   ·
    have hbf : b = true := by simpa using ‹(!b) = false›
    obtain ⟨hv, hone⟩ := rune_ok (fun _ => path_small) s pos hp (hbt.1 hbf)
    rw [hone] at hb1
    obtain ⟨h1, h2⟩ := iter_step hh hbw hb1
    exact ⟨⟨pos + 1, h1, h2, allTo_succ hall.out hp hv⟩, by rw [iterPos_of h1, iterPos_of hh]; omega⟩
  ·
   have hnx := fun ty => run_next_end_at (P := Tryz.prog) wr w.heap.size s pos ty hh hp
   go_wp2
   go_ret
   exact BoolIs.yes (allTo_end hall.out hp) hbw
theorem pathOk_any (s : ByteArray) (w : World) (hs : s.size ≤ maxLen) :
  Calls Tryz.prog 136 #[.string s] w fun e w' => BoolIs (PathOk s) w e w' := by
 unfold maxLen at hs
 by_cases h1 : (1 : Int) ≤ (s.size : Int)
 ·
  have h0 : 0 < s.size := by omega
  by_cases h2 : (s.size : Int) ≤ 60
  ·
   by_cases h3 : ((s[0]'h0).toNat : Int) = 47
   ·
    have h4 : (((s[0]'h0).toNat : Int) == 47) = true := by rw [beq_iff_eq]; exact h3
    have H3 : Hid ((s[0]'h0).toNat = 47) := by show _ = _; omega
    clear h3
    go_enter Tryz.func136, Tryz.ntmps136
    go_wp2_with fail
    refine (allRunes_path s _).mono ?_
    rintro e w1 ⟨b, rfl, hbt, hb1⟩
    cases b
    ·
     have HN : Hid (¬ PathOk s) := fun h => by have := hbt.2 h.1; cases this
     clear hbt
     go_wp2_with fail
     go_ret
     exact BoolIs.no HN.out hb1
    ·
     have HY : Hid (PathOk s) := ⟨hbt.1 rfl, by omega, by omega, h0, H3.out⟩
     clear hbt
     go_wp2_with fail
     go_ret
     exact BoolIs.yes HY.out hb1
   ·
    have h4 : (((s[0]'h0).toNat : Int) == 47) = false := by rw [beq_eq_false_iff_ne]; exact h3
    have HN : Hid (¬ PathOk s) := fun h => by obtain ⟨_, _, _, _, h5⟩ := h; omega
    clear h3
    go_enter Tryz.func136, Tryz.ntmps136
    go_wp2_with fail
    go_ret
    exact BoolIs.no HN.out (Below.refl _ _)
  ·
   have HN : Hid (¬ PathOk s) := fun h => by obtain ⟨_, _, h5, _⟩ := h; omega
   have hd : decide ((s.size : Int) ≤ 60) = false := by simpa using h2
   go_enter Tryz.func136, Tryz.ntmps136
   go_wp2_with fail
   go_ret
   exact BoolIs.no HN.out (Below.refl _ _)
 ·
  have HN : Hid (¬ PathOk s) := fun h => by obtain ⟨_, h5, _⟩ := h; omega
  have hd : decide ((1 : Int) ≤ (s.size : Int)) = false := by simpa using h1
  go_enter Tryz.func136, Tryz.ntmps136
  go_wp2_with fail
  go_ret
  exact BoolIs.no HN.out (Below.refl _ _)
theorem methB_none {m : Int} (h : ¬ (1 ≤ m ∧ m ≤ 4)) : methB m = ⟨#[]⟩ := by
 unfold methB
 rw [if_neg (by omega), if_neg (by omega), if_neg (by omega), if_neg (by omega)]
theorem methodName_any (m : Int) (w : World) :
  Calls Tryz.prog 105 #[.int .i64 m] w fun e w' => e = .returned (.string (methB m)) ∧ w' = w := by
 by_cases h1 : m = 1
 ·
  subst h1
  go_enter Tryz.func105, Tryz.ntmps105
  go_wp2
  go_ret
  exact ⟨rfl, rfl⟩
 ·
  by_cases h2 : m = 2
  ·
   subst h2
   go_enter Tryz.func105, Tryz.ntmps105
   go_wp2
   go_ret
   exact ⟨rfl, rfl⟩
  ·
   by_cases h3 : m = 3
   ·
    subst h3
    go_enter Tryz.func105, Tryz.ntmps105
    go_wp2
    go_ret
    exact ⟨rfl, rfl⟩
   ·
    by_cases h4 : m = 4
    ·
     subst h4
     go_enter Tryz.func105, Tryz.ntmps105
     go_wp2
     go_ret
     exact ⟨rfl, rfl⟩
    ·
     have HE : Hid (methB m = ⟨#[]⟩) := methB_none (by omega)
     have e1 : (m == 1) = false := by rw [beq_eq_false_iff_ne]; exact h1
     have e2 : (m == 2) = false := by rw [beq_eq_false_iff_ne]; exact h2
     have e3 : (m == 3) = false := by rw [beq_eq_false_iff_ne]; exact h3
     have e4 : (m == 4) = false := by rw [beq_eq_false_iff_ne]; exact h4
     go_enter Tryz.func105, Tryz.ntmps105
     go_wp2
     go_ret
     exact ⟨by rw [HE.out]; rfl, rfl⟩
/-- What is right of what stands behind the first line. -/
def RestP (fs : List (ByteArray × ByteArray)) (b : ByteArray) : Prop := FldsOk fs ∧ b.size ≤ 120
theorem restOk_any (v : Value) (b : ByteArray) (n base : Nat) (fs : List (ByteArray × ByteArray)) (w : World) (hv : FieldsV w base v n fs) (hn : n ≤ 1073741824) (hsz : WalkF n fs) (hb : b.size ≤ maxLen) :
  Calls Tryz.prog 114 #[.agg #[v, .string b]] w fun e w' => BoolIs (RestP fs b) w e w' := by
 obtain ⟨oa, cap, rfl, _⟩ := hv.slice
 obtain ⟨r, hr⟩ := exq (w.heap.size)
 have HR : Hid (∀ W, Below (w.alloc (.cells #[.slice oa n cap, .string b] 77)).heap.size (w.alloc (.cells #[.slice oa n cap, .string b] 77)) W → (W.cell? ⟨r, 0, none⟩ = some (.slice oa n cap) ∧ W.cell? ⟨r, 1, none⟩ = some (.string b)) ∧ FieldsV W base (.slice oa n cap) n fs ∧ Below w.heap.size w W) := fun W h => by
  have hh := kept_new h
  rw [← hr] at hh
  exact ⟨⟨by simp [World.cell?, hh], by simp [World.cell?, hh]⟩, hv.below (below_new h), below_new h⟩
 obtain ⟨_, hv0, _⟩ := HR.out _ (Below.refl _ _)
 unfold maxLen at hb
 go_enter Tryz.func114, Tryz.ntmps114
 go_wp2_with fail
 refine (ok_any _ n base fs _ hv0 hn hsz).mono ?_
 rintro e w1 ⟨b1, rfl, kb1, bb1⟩
 rw [← hr]
 obtain ⟨⟨c0, c1⟩, _, hbw1⟩ := HR.out w1 bb1
 clear hv hv0 hsz bb1 hr
 cases b1
 ·
  have HF : Hid (¬ RestP fs b) := fun h => by have := kb1.2 h.1; cases this
  clear kb1
  go_wp2_with fail
  go_ret
  exact BoolIs.no HF.out hbw1
 ·
  have HT : Hid (FldsOk fs) := kb1.1 rfl
  clear kb1
  by_cases h120 : (b.size : Int) ≤ 120
  ·
   have HY : Hid (RestP fs b) := ⟨HT.out, by omega⟩
   go_wp2_with fail
   go_ret
   exact BoolIs.yes HY.out hbw1
  ·
   have HF : Hid (¬ RestP fs b) := fun h => by have := h.2; omega
   have hd : decide ((b.size : Int) ≤ 120) = false := by simpa using h120
   go_wp2_with fail
   go_ret
   exact BoolIs.no HF.out hbw1
theorem meth_empty {m : Int} (h : 1 ≤ m ∧ m ≤ 4) : (methB m).toList.isEmpty = false := by
 refine isEmpty_no ?_
 rcases meth_cases h with rfl | rfl | rfl | rfl <;> decide
theorem reqOk_any (m : Int) (p : ByteArray) (v : Value) (b : ByteArray) (n base : Nat) (fs : List (ByteArray × ByteArray)) (w : World) (hv : FieldsV w base v n fs) (hn : n ≤ 1073741824) (hsz : WalkF n fs) (hp : p.size ≤ maxLen) (hb : b.size ≤ maxLen) :
  Calls Tryz.prog 104 #[.agg #[v, .string b, .int .i64 m, .string p]] w fun e w' => BoolIs (ReqP m p fs b) w e w' := by
 obtain ⟨oa, cap, rfl, _⟩ := hv.slice
 obtain ⟨r, hr⟩ := exq (w.heap.size)
 have HR : Hid (∀ W, Below (w.alloc (.cells #[.slice oa n cap, .string b, .int .i64 m, .string p] 92)).heap.size (w.alloc (.cells #[.slice oa n cap, .string b, .int .i64 m, .string p] 92)) W → (W.cell? ⟨r, 0, none⟩ = some (.slice oa n cap) ∧ W.cell? ⟨r, 1, none⟩ = some (.string b) ∧ W.cell? ⟨r, 2, none⟩ = some (.int .i64 m) ∧ W.cell? ⟨r, 3, none⟩ = some (.string p)) ∧ FieldsV W base (.slice oa n cap) n fs ∧ Below w.heap.size w W) := fun W h => by
  have hh := kept_new h
  rw [← hr] at hh
  exact ⟨⟨by simp [World.cell?, hh], by simp [World.cell?, hh], by simp [World.cell?, hh], by simp [World.cell?, hh]⟩, hv.below (below_new h), below_new h⟩
 have HSZ : Hid (WalkF n fs) := hsz
 have HP : Hid (p.size ≤ maxLen) := hp
 have HBS : Hid (b.size ≤ maxLen) := hb
 clear hv hsz hp hb
 go_enter Tryz.func104, Tryz.ntmps104
 go_wp2_with fail
 refine (methodName_any m _).mono ?_
 rintro e w1 ⟨rfl, hw1⟩
 have hb1 : Below (w.alloc (.cells #[.slice oa n cap, .string b, .int .i64 m, .string p] 92)).heap.size (w.alloc (.cells #[.slice oa n cap, .string b, .int .i64 m, .string p] 92)) w1 := by rw [hw1]; exact Below.refl _ _
 clear hw1
 rw [← hr]
 obtain ⟨⟨c0, c1, c2, c3⟩, _, hbw1⟩ := HR.out w1 hb1
 by_cases hm : 1 ≤ m ∧ m ≤ 4
 ·
  have e1 := meth_empty hm
  have HM : Hid (1 ≤ m ∧ m ≤ 4) := hm
  generalize methB m = mt at e1 ⊢
  clear hr hm
  go_wp2_with fail
  refine (pathOk_any p _ HP.out).mono ?_
  rintro e w2 ⟨b1, rfl, kb1, bb2⟩
  have hb2 := hb1.trans (bb2.mono hb1.size)
  clear c0 c1 c2 c3 bb2 hb1 hbw1
  obtain ⟨⟨c0, c1, c2, c3⟩, hv2, hbw2⟩ := HR.out w2 hb2
  have HV2 : Hid (FieldsV w2 base (.slice oa n cap) n fs) := hv2
  clear hv2
  cases b1
  ·
   have HF : Hid (¬ ReqP m p fs b) := fun h => by have := kb1.2 h.2.1; cases this
   clear kb1
   go_wp2_with fail
   go_ret
   exact BoolIs.no HF.out hbw2
  ·
   have HT : Hid (PathOk p) := kb1.1 rfl
   clear kb1
   go_wp2_with fail
   refine (restOk_any _ b n base fs _ HV2.out hn HSZ.out HBS.out).mono ?_
   rintro e w3 ⟨b2, rfl, kb2, bb3⟩
   have hb3 := hb2.trans (bb3.mono hb2.size)
   clear c0 c1 c2 c3 bb3 hb2 hbw2
   obtain ⟨_, _, hbw3⟩ := HR.out w3 hb3
   cases b2
   ·
    have HF : Hid (¬ ReqP m p fs b) := fun h => by have := kb2.2 h.2.2; cases this
    clear kb2
    go_wp2_with fail
    go_ret
    exact BoolIs.no HF.out hbw3
   ·
    have HY : Hid (ReqP m p fs b) := ⟨HM.out, HT.out, kb2.1 rfl⟩
    clear kb2
    go_wp2_with fail
    go_ret
    exact BoolIs.yes HY.out hbw3
 ·
  have HF : Hid (¬ ReqP m p fs b) := fun h => hm h.1
  rw [methB_none hm]
  clear hr hm
  go_wp2_with fail
  go_ret
  exact BoolIs.no HF.out hbw1
theorem respOk_any (st : Int) (v : Value) (b : ByteArray) (n base : Nat) (fs : List (ByteArray × ByteArray)) (w : World) (hv : FieldsV w base v n fs) (hn : n ≤ 1073741824) (hsz : WalkF n fs) (hb : b.size ≤ maxLen) :
  Calls Tryz.prog 71 #[.agg #[v, .string b, .int .i64 st]] w fun e w' => BoolIs (RespP st fs b) w e w' := by
 obtain ⟨oa, cap, rfl, _⟩ := hv.slice
 obtain ⟨r, hr⟩ := exq (w.heap.size)
 have HR : Hid (∀ W, Below (w.alloc (.cells #[.slice oa n cap, .string b, .int .i64 st] 79)).heap.size (w.alloc (.cells #[.slice oa n cap, .string b, .int .i64 st] 79)) W → (W.cell? ⟨r, 0, none⟩ = some (.slice oa n cap) ∧ W.cell? ⟨r, 1, none⟩ = some (.string b) ∧ W.cell? ⟨r, 2, none⟩ = some (.int .i64 st)) ∧ FieldsV W base (.slice oa n cap) n fs ∧ Below w.heap.size w W) := fun W h => by
  have hh := kept_new h
  rw [← hr] at hh
  exact ⟨⟨by simp [World.cell?, hh], by simp [World.cell?, hh], by simp [World.cell?, hh]⟩, hv.below (below_new h), below_new h⟩
 obtain ⟨_, hv0, hbw0⟩ := HR.out _ (Below.refl _ _)
 have HV0 : Hid (FieldsV (w.alloc (.cells #[.slice oa n cap, .string b, .int .i64 st] 79)) base (.slice oa n cap) n fs) := hv0
 have HSZ : Hid (WalkF n fs) := hsz
 have HBS : Hid (b.size ≤ maxLen) := hb
 clear hv hv0 hsz hb
 by_cases h1 : 100 ≤ st
 ·
  by_cases h2 : st ≤ 599
  ·
   go_enter Tryz.func71, Tryz.ntmps71
   go_wp2_with fail
   refine (restOk_any _ b n base fs _ HV0.out hn HSZ.out HBS.out).mono ?_
   rintro e w3 ⟨b2, rfl, kb2, bb3⟩
   obtain ⟨_, _, hbw3⟩ := HR.out w3 bb3
   clear bb3 hbw0
   cases b2
   ·
    have HF : Hid (¬ RespP st fs b) := fun h => by have := kb2.2 h.2; cases this
    clear kb2
    go_wp2_with fail
    go_ret
    exact BoolIs.no HF.out hbw3
   ·
    have HY : Hid (RespP st fs b) := ⟨⟨h1, h2⟩, kb2.1 rfl⟩
    clear kb2
    go_wp2_with fail
    go_ret
    exact BoolIs.yes HY.out hbw3
  ·
   have HF : Hid (¬ RespP st fs b) := fun h => h2 h.1.2
   have hd : decide (st ≤ 599) = false := by simpa using h2
   go_enter Tryz.func71, Tryz.ntmps71
   go_wp2_with fail
   go_ret
   exact BoolIs.no HF.out hbw0
 ·
  have HF : Hid (¬ RespP st fs b) := fun h => h1 h.1.1
  have hd : decide (100 ≤ st) = false := by simpa using h1
  go_enter Tryz.func71, Tryz.ntmps71
  go_wp2_with fail
  go_ret
  exact BoolIs.no HF.out hbw0
theorem requestOf_any (m : Int) (p : ByteArray) (oa : Option Addr) (n cap : Nat) (b : ByteArray) (w : World) :
  Calls Tryz.prog 57 #[.agg #[.int .i64 m, .string p, .slice oa n cap, .string b]] w fun e w' => e = .returned (.agg #[.slice oa n cap, .string b, .int .i64 m, .string p]) ∧ Below w.heap.size w w' := by
 go_enter Tryz.func57, Tryz.ntmps57
 go_wp2
 exact bodyPost_ret (v := .agg #[.slice oa n cap, .string b, .int .i64 m, .string p]) (by simp [results, Tryz.results57, go_sem]) rfl ⟨rfl, ((Below.refl _ _).alloc (Nat.le_refl _) _).alloc (by simp) _⟩
theorem answerOf_any (m : Int) (oa : Option Addr) (n cap : Nat) (b : ByteArray) (w : World) :
  Calls Tryz.prog 39 #[.agg #[.int .i64 m, .slice oa n cap, .string b]] w fun e w' => e = .returned (.agg #[.slice oa n cap, .string b, .int .i64 m]) ∧ Below w.heap.size w w' := by
 go_enter Tryz.func39, Tryz.ntmps39
 go_wp2
 exact bodyPost_ret (v := .agg #[.slice oa n cap, .string b, .int .i64 m]) (by simp [results, Tryz.results39, go_sem]) rfl ⟨rfl, ((Below.refl _ _).alloc (Nat.le_refl _) _).alloc (by simp) _⟩
theorem implReqOk_any (m : Int) (p : ByteArray) (v : Value) (b : ByteArray) (n base : Nat) (fs : List (ByteArray × ByteArray)) (w : World) (hv : FieldsV w base v n fs) (hn : n ≤ 1073741824) (hsz : WalkF n fs) (hp : p.size ≤ maxLen) (hb : b.size ≤ maxLen) :
  Calls Tryz.prog 133 #[.agg #[.int .i64 m, .string p, v, .string b]] w fun e w' => BoolIs (ReqP m p fs b) w e w' := by
 obtain ⟨oa, cap, rfl, _⟩ := hv.slice
 have hb0 : Below w.heap.size w (w.alloc (.cells #[.int .i64 m, .string p, .slice oa n cap, .string b] 26)) := (Below.refl _ _).alloc (Nat.le_refl _) _
 go_enter Tryz.func133, Tryz.ntmps133
 go_wp2_with fail
 refine (requestOf_any m p oa n cap b _).mono ?_
 rintro e w1 ⟨rfl, bb1⟩
 have hb1 : Below w.heap.size w w1 := hb0.trans (bb1.mono hb0.size)
 have hv1 := hv.below hb1
 clear bb1 hb0 hv
 go_wp2_with fail
 refine (reqOk_any m p _ b n base fs _ hv1 hn hsz hp hb).mono ?_
 rintro e w2 ⟨b1, rfl, kb, bb2⟩
 have hb2 : Below w.heap.size w w2 := hb1.trans (bb2.mono hb1.size)
 have HK : Hid (b1 = true ↔ ReqP m p fs b) := kb
 clear hv1 hsz hb bb2 hb1 kb hp
 go_wp2_with fail
 go_ret
 exact ⟨b1, rfl, HK.out, hb2⟩
theorem implRespOk_any (m : Int) (v : Value) (b : ByteArray) (n base : Nat) (fs : List (ByteArray × ByteArray)) (w : World) (hv : FieldsV w base v n fs) (hn : n ≤ 1073741824) (hsz : WalkF n fs) (hb : b.size ≤ maxLen) :
  Calls Tryz.prog 19 #[.agg #[.int .i64 m, v, .string b]] w fun e w' => BoolIs (RespP m fs b) w e w' := by
 obtain ⟨oa, cap, rfl, _⟩ := hv.slice
 have hb0 : Below w.heap.size w (w.alloc (.cells #[.int .i64 m, .slice oa n cap, .string b] 29)) := (Below.refl _ _).alloc (Nat.le_refl _) _
 go_enter Tryz.func19, Tryz.ntmps19
 go_wp2_with fail
 refine (answerOf_any m oa n cap b _).mono ?_
 rintro e w1 ⟨rfl, bb1⟩
 have hb1 : Below w.heap.size w w1 := hb0.trans (bb1.mono hb0.size)
 have hv1 := hv.below hb1
 clear bb1 hb0 hv
 go_wp2_with fail
 refine (respOk_any m _ b n base fs _ hv1 hn hsz hb).mono ?_
 rintro e w2 ⟨b1, rfl, kb, bb2⟩
 have hb2 : Below w.heap.size w w2 := hb1.trans (bb2.mono hb1.size)
 have HK : Hid (b1 = true ↔ RespP m fs b) := kb
 clear hv1 hsz hb bb2 hb1 kb
 go_wp2_with fail
 go_ret
 exact ⟨b1, rfl, HK.out, hb2⟩
end Go.Proofs.YtmcmeeibogkpaaaGreatDoorR
namespace Go.Proofs
open Go.Shelf
def Tryz.lays166_ren : Go.Shelf.Ren := ⟨fun | 166 => 149 | 240 => 162 | 276 => 174 | n => n, fun | 0 => 0 | 3 => 3 | 4 => 4 | 5 => 5 | 9 => 9 | 20 => 20 | 37 => 22 | 70 => 154 | 72 => 156 | 75 => 158 | 80 => 81 | 164 => 178 | n => n, fun | n => n⟩
theorem Tryz.lays166 : Go.Proofs.Lays.n166 Tryz.prog Tryz.lays166_ren := {
 mixed := by kernel_rfl
 f166 := Tryz.func149.trans (congrArg some (by kernel_rfl))
 f240 := Tryz.func162.trans (congrArg some (by kernel_rfl))
 f276 := Tryz.func174.trans (congrArg some (by kernel_rfl))
 t0 := Tryz.underlying0
 a0 := Tryz.isAgg0
 z0 := Tryz.sizeOf0
 v0 := Tryz.zeroValue0
 t3 := Tryz.underlying3
 a3 := Tryz.isAgg3
 z3 := Tryz.sizeOf3
 v3 := Tryz.zeroValue3
 t4 := Tryz.underlying4
 a4 := Tryz.isAgg4
 z4 := Tryz.sizeOf4
 v4 := Tryz.zeroValue4
 t9 := Tryz.underlying9
 a9 := Tryz.isAgg9
 z9 := Tryz.sizeOf9
 v9 := Tryz.zeroValue9
 t20 := Tryz.underlying20
 a20 := Tryz.isAgg20
 z20 := Tryz.sizeOf20
 v20 := Tryz.zeroValue20
 t37 := Tryz.underlying22
 a37 := Tryz.isAgg22
 z37 := Tryz.sizeOf22
 v37 := Tryz.zeroValue22
 t70 := Tryz.underlying154
 a70 := Tryz.isAgg154
 z70 := Tryz.sizeOf154
 v70 := Tryz.zeroValue154
 t72 := Tryz.underlying156
 a72 := Tryz.isAgg156
 z72 := Tryz.sizeOf156
 v72 := Tryz.zeroValue156
 t75 := Tryz.underlying158
 a75 := Tryz.isAgg158
 z75 := Tryz.sizeOf158
 v75 := Tryz.zeroValue158
 t164 := Tryz.underlying178
 a164 := Tryz.isAgg178
 z164 := Tryz.sizeOf178
 v164 := Tryz.zeroValue178 }
theorem Tryz.Builder_Extra_166 : Builder.Extra Tryz.prog Tryz.lays166_ren := {
 sizeBuilder := by kernel_rfl
 liesBuilder := by kernel_rfl
 t5 := Tryz.underlying5
 a5 := Tryz.isAgg5
 z5 := Tryz.sizeOf5
 v5 := Tryz.zeroValue5
 infoByte := by kernel_rfl
 cellsByte := by kernel_rfl
 sizeByte := by kernel_rfl
 neB5 := by decide }
open Go.RowKit in
theorem Tryz.Builder_WriteString (B b : Nat) (bs : List Value) (s : ByteArray) (w : World) (h : Lib.IsBuilder 156 5 B b bs w) (hlen : bs.length + s.size ≤ 140737488355328) (hBw : B ≤ w.heap.size) :
  Calls Tryz.prog 149 #[.pointer (some ⟨b, 0, none⟩), .string s] w fun e w' => e = .returned (.tuple #[.int .i64 s.size, .nilIface]) ∧ (Lib.BuilderAt 156 5 B b (.pointer (some ⟨b, 0, none⟩)) (bs ++ Lib.strCells s) w' ∧ Below B w w') := Any.Builder_WriteString Tryz.lays166 Tryz.Builder_Extra_166 B b bs s w h hlen hBw
end Go.Proofs
namespace Go.Proofs.YtmcmeeibogkpaaaGreatDoorR
open Go.RowKit
open Go.Lib hiding intOf
theorem strCells_append (a b : ByteArray) : strCells (a ++ b) = strCells a ++ strCells b := by simp [strCells]
/-- A builder of the call's own that holds this text. -/
def Holding (B : Nat) (t : ByteArray) (w : World) : Prop := IsBuilder 156 5 B B (strCells t) w
theorem write_any (B : Nat) (t s : ByteArray) (w : World) (h : Holding B t w) (hlen : t.size + s.size ≤ 140737488355328) (hBw : B ≤ w.heap.size) :
  Calls Tryz.prog 149 #[.pointer (some ⟨B, 0, none⟩), .string s] w fun e w' => e = .returned (.tuple #[.int .i64 s.size, .nilIface]) ∧ Holding B (t ++ s) w' ∧ Below B w w' := by
 refine (Tryz.Builder_WriteString B B _ s w h (by rw [strCells_length]; exact hlen) hBw).mono ?_
 rintro e w' ⟨rfl, h1, h2⟩
 exact ⟨rfl, .inr (by rw [strCells_append]; exact h1), h2⟩
theorem text_out (B : Nat) (t : ByteArray) (w : World) (h : Holding B t w) (hBw : B ≤ w.heap.size) :
  Calls Tryz.prog 150 #[.pointer (some ⟨B, 0, none⟩)] w fun e w' => e = .returned (.string t) ∧ Below B w w' :=
 Tryz.Builder_String_any B B t.data.toList w h hBw
theorem text_any (v : Value) (n base : Nat) (fs : List (ByteArray × ByteArray)) (w : World) (hv : FieldsV w base v n fs) (hn : n ≤ 1073741824) (hsz : (fieldsText fs).size ≤ 1099511627776) :
  Calls Tryz.prog 129 #[v] w fun e w' => TextIs (fieldsText fs) w e w' := by
 have hl := hv.len
 obtain ⟨oa, cap, rfl, hrow⟩ := hv.slice
 have HROW : Hid (∀ k, k < n → ∃ g, oa = some ⟨g, 0, none⟩ ∧ FieldRow base w g n cap fs) := hrow
 have HZ : Hid (∀ k, k < n → (ftTo fs (k + 1)).size ≤ 1099511627776) := fun k hk => by
  have := ftTo_mono fs (k + 1) (fs.length - (k + 1))
  rw [show k + 1 + (fs.length - (k + 1)) = fs.length by omega] at this
  exact Nat.le_trans this hsz
 have HF : Hid (fieldsText fs = ftTo fs n) := by show _ = _; unfold fieldsText; rw [hl]
 have H0 : Hid (Holding w.heap.size ⟨#[]⟩ (w.alloc (.cells #[.pointer none, .slice none 0 0] 156))) := fresh_isBuilder 156 5 w
 clear hsz hv hrow
 go_enter Tryz.func129, Tryz.ntmps129
 go_wp2
 go_loopw [7] (fun i wr => ∃ k : Nat, k ≤ n ∧ i = .int .i64 (k : Int) ∧ Hid (Holding w.heap.size (ftTo fs k) wr) ∧ Below w.heap.size w wr) (fun i _ => n - (intOf i).toNat)
 case atStart => exact ⟨0, Nat.zero_le _, rfl, H0, (Below.refl _ _).alloc (Nat.le_refl _) _⟩
 case round =>
  obtain ⟨k, hk, rfl, hI, hbw⟩ := hrel
  by_cases hlt : k < n
  ·
   have hlt2 : (k : Int) < (n : Int) := by omega
   obtain ⟨g, rfl, row⟩ := HROW.out k hlt
   obtain ⟨nm, hnm⟩ := exq (nameAt fs k)
   obtain ⟨vl, hvl⟩ := exq (valAt fs k)
   obtain ⟨out, hout⟩ := exq (ftTo fs k)
   have HR : Hid (∀ W, Below w.heap.size w W → W.cell? ⟨g, k * 2, none⟩ = some (.string nm) ∧ W.cell? ⟨g, k * 2 + 1, none⟩ = some (.string vl)) := fun W h => by
    rw [hnm, hvl]; exact ⟨(row.below h row.lt).name k hlt, (row.below h row.lt).val k hlt⟩
   have hz := HZ.out k hlt
   rw [ftTo_size] at hz
   have HN : Hid (out ++ nm ++ ⟨#[58, 32]⟩ ++ vl ++ ⟨#[13, 10]⟩ = ftTo fs (k + 1)) := by
    show _ = _
    rw [ftTo, ← hout, hnm, hvl]
   rw [← hout, ← hnm, ← hvl] at hz
   rw [← hout] at hI
   have e1 : (⟨#[58, 32]⟩ : ByteArray).size = 2 := rfl
   have e2 : (⟨#[13, 10]⟩ : ByteArray).size = 2 := rfl
   have q1 : out.size + nm.size ≤ 140737488355328 := by omega
   have q2 : (out ++ nm).size + (⟨#[58, 32]⟩ : ByteArray).size ≤ 140737488355328 := by rw [ByteArray.size_append]; omega
   have q3 : (out ++ nm ++ ⟨#[58, 32]⟩).size + vl.size ≤ 140737488355328 := by rw [ByteArray.size_append, ByteArray.size_append]; omega
   have q4 : (out ++ nm ++ ⟨#[58, 32]⟩ ++ vl).size + (⟨#[13, 10]⟩ : ByteArray).size ≤ 140737488355328 := by rw [ByteArray.size_append, ByteArray.size_append, ByteArray.size_append]; omega
   obtain ⟨c1, c2⟩ := HR.out wr hbw
   clear hnm hvl hout hz row
   go_wp2_with fail
   refine (write_any w.heap.size out nm _ hI.out q1 hbw.size).mono ?_
   rintro e w1 ⟨rfl, hI1, hb1⟩
   have hbw1 := hbw.trans hb1
   have HI1 : Hid (Holding w.heap.size (out ++ nm) w1) := hI1
   obtain ⟨c1a, c2a⟩ := HR.out w1 hbw1
   clear c1 c2 hb1 hI1 hI hbw
   go_wp2_with fail
   refine (write_any w.heap.size (out ++ nm) ⟨#[58, 32]⟩ _ HI1.out q2 hbw1.size).mono ?_
   rintro e w2 ⟨rfl, hI2, hb2⟩
   have hbw2 := hbw1.trans hb2
   have HI2 : Hid (Holding w.heap.size (out ++ nm ++ ⟨#[58, 32]⟩) w2) := hI2
   obtain ⟨c1b, c2b⟩ := HR.out w2 hbw2
   clear c1a c2a hb2 hI2 HI1 hbw1
   go_wp2_with fail
   refine (write_any w.heap.size (out ++ nm ++ ⟨#[58, 32]⟩) vl _ HI2.out q3 hbw2.size).mono ?_
   rintro e w3 ⟨rfl, hI3, hb3⟩
   have hbw3 := hbw2.trans hb3
   have HI3 : Hid (Holding w.heap.size (out ++ nm ++ ⟨#[58, 32]⟩ ++ vl) w3) := hI3
   clear c1b c2b hb3 hI3 HI2 hbw2
   go_wp2_with fail
   refine (write_any w.heap.size (out ++ nm ++ ⟨#[58, 32]⟩ ++ vl) ⟨#[13, 10]⟩ _ HI3.out q4 hbw3.size).mono ?_
   rintro e w4 ⟨rfl, hI4, hb4⟩
   have hbw4 := hbw3.trans hb4
   rw [HN.out] at hI4
   have HI4 : Hid (Holding w.heap.size (ftTo fs (k + 1)) w4) := hI4
   clear hb4 hI4 HI3 hbw3
   go_wp2
   go_roundw
   case rel => exact ⟨k + 1, by omega, by go_num, HI4, hbw4⟩
   case measure => simp [intOf]; omega
  ·
   obtain rfl : k = n := by omega
   go_wp2_with fail
   refine (text_out w.heap.size _ _ hI.out hbw.size).mono ?_
   rintro e w1 ⟨rfl, hb1⟩
   have hbw1 := hbw.trans hb1
   clear hb1 hbw hI
   go_wp2
   go_ret
   exact TextIs.of HF.out.symm hbw1
end Go.Proofs.YtmcmeeibogkpaaaGreatDoorR
namespace Go.Proofs.YtmcmeeibogkpaaaGreatDoorR
open Go.RowKit
open Go.Lib hiding intOf
/-- What a message's text is behind its first line. -/
def restT (tell : Bool) (fs : List (ByteArray × ByteArray)) (b : ByteArray) : ByteArray :=
 (if tell = true then fieldsText fs ++ (⟨#[]⟩ ++ clen ++ ⟨#[58, 32]⟩ ++ numText b.size ++ ⟨#[13, 10]⟩) else fieldsText fs) ++ ⟨#[13, 10]⟩ ++ b
theorem field_text (a b : ByteArray) : fieldsText [(a, b)] = ⟨#[]⟩ ++ a ++ ⟨#[58, 32]⟩ ++ b ++ ⟨#[13, 10]⟩ := rfl
theorem one_row {w W : World} {base : Nat} {a b : ByteArray} (h : W.heap[w.heap.size]? = some (.cells #[.string a, .string b] 74)) (hb : base ≤ w.heap.size) (hl : w.heap.size < W.heap.size) : FieldsV W base (.slice (some ⟨w.heap.size, 0, none⟩) 1 1) 1 [(a, b)] := by
 refine .inr ⟨w.heap.size, 1, rfl, by omega, ⟨rfl, hb, hl, Nat.le_refl _, by unfold maxLen; omega, _, h, rfl, ?_⟩⟩
 intro i hi
 obtain rfl : i = 0 := by omega
 exact ⟨rfl, rfl⟩
theorem rest_req (m : Int) (p : ByteArray) (fs : List (ByteArray × ByteArray)) (b : ByteArray) : methB m ++ ⟨#[32]⟩ ++ p ++ ⟨#[32]⟩ ++ ⟨#[72, 84, 84, 80, 47, 49, 46, 49]⟩ ++ ⟨#[13, 10]⟩ ++ restT (decide (b.size ≠ 0)) fs b = reqT m p fs b := by
 apply bs_inj
 unfold reqT reqHead restT
 by_cases h : b.size = 0
 · simp [h, bs, httpEnd, lnE]
 · simp [h, bs, httpEnd, lnE, clenK, clen]
theorem rest_resp (st : Int) (fs : List (ByteArray × ByteArray)) (b : ByteArray) : ⟨#[72, 84, 84, 80, 47, 49, 46, 49, 32]⟩ ++ numText st.toNat ++ ⟨#[32]⟩ ++ ⟨#[46]⟩ ++ ⟨#[13, 10]⟩ ++ restT true fs b = respT st fs b := by
 apply bs_inj
 unfold respT restT
 simp [bs, httpAhead, dotEnd, lnE2, clenK, clen]
theorem restT_size (tell : Bool) {fs : List (ByteArray × ByteArray)} (hf : FldsOk fs) {b : ByteArray} (hb : b.size ≤ 120) : (restT tell fs b).size ≤ 1000 := by
 have h1 := ft_small hf
 have h2 := numText_size b.size
 have e1 : (⟨#[]⟩ : ByteArray).size = 0 := rfl
 have e2 : clen.size = 14 := rfl
 have e3 : (⟨#[58, 32]⟩ : ByteArray).size = 2 := rfl
 have e4 : (⟨#[13, 10]⟩ : ByteArray).size = 2 := rfl
 unfold restT
 cases tell
 · rw [if_neg (by decide)]; simp only [ByteArray.size_append]; omega
 · rw [if_pos rfl]; simp only [ByteArray.size_append]; omega
theorem restText_any (v : Value) (b : ByteArray) (tell : Bool) (n base : Nat) (fs : List (ByteArray × ByteArray)) (w : World) (hv : FieldsV w base v n fs) (hn : n ≤ 1073741824) (hf : FldsOk fs) (hb : b.size ≤ 120) (htab : TabOk w) :
  Calls Tryz.prog 92 #[.agg #[v, .string b], .bool tell] w fun e w' => TextIs (restT tell fs b) w e w' := by
 obtain ⟨oa, cap, rfl, _⟩ := hv.slice
 obtain ⟨r, hr⟩ := exq (w.heap.size)
 have HR : Hid (∀ W, Below (w.alloc (.cells #[.slice oa n cap, .string b] 77)).heap.size (w.alloc (.cells #[.slice oa n cap, .string b] 77)) W → (W.cell? ⟨r, 0, none⟩ = some (.slice oa n cap) ∧ W.cell? ⟨r, 1, none⟩ = some (.string b)) ∧ FieldsV W base (.slice oa n cap) n fs ∧ Below w.heap.size w W) := fun W h => by
  have hh := kept_new h
  rw [← hr] at hh
  exact ⟨⟨by simp [World.cell?, hh], by simp [World.cell?, hh]⟩, hv.below (below_new h), below_new h⟩
 obtain ⟨_, hv0, _⟩ := HR.out _ (Below.refl _ _)
 have hfs := ft_small hf
 have HT : Hid ((fieldsText fs).size ≤ 1099511627776) := by show _ ≤ _; omega
 have HTAB : Hid (TabOk w) := htab
 go_enter Tryz.func92, Tryz.ntmps92
 go_wp2_with fail
 refine (text_any _ n base fs _ hv0 hn HT.out).mono ?_
 rintro e w1 ⟨rfl, bb1⟩
 rw [← hr]
 obtain ⟨⟨c0, c1⟩, _, hbw1⟩ := HR.out w1 bb1
 have HB1 : Hid (Below (w.alloc (.cells #[.slice oa n cap, .string b] 77)).heap.size (w.alloc (.cells #[.slice oa n cap, .string b] 77)) w1) := bb1
 obtain ⟨ft, hft⟩ := exq (fieldsText fs)
 rw [← hft] at hfs ⊢
 have HFT : Hid (fieldsText fs = ft) := hft.symm
 clear hv hv0 bb1 hr hf htab hft HT
 have e2 : (⟨#[13, 10]⟩ : ByteArray).size = 2 := rfl
 cases tell
 ·
  have HE : Hid (ft ++ ⟨#[13, 10]⟩ ++ b = restT false fs b) := by
   show _ = _
   unfold restT
   rw [if_neg (by decide), HFT.out]
  have q1 : ¬ 9223372036854775807 < ft.size + 2 := by omega
  have q2 : ¬ 9223372036854775807 < ft.size + 2 + b.size := by omega
  go_wp2_with fail
  go_ret
  exact TextIs.of HE.out hbw1
 ·
  have hT1 : TabOk w1 := HTAB.out.below hbw1
  have hns := numText_size b.size
  obtain ⟨nt, hnt⟩ := exq (numText b.size)
  have HNI : Hid (numTextI (b.size : Int) = nt) := by
   show _ = _
   unfold numTextI
   rw [if_neg (by omega), hnt]
   rfl
  rw [← hnt] at hns
  obtain ⟨lt, hlt⟩ : ∃ x, x = fieldsText [((⟨#[99, 111, 110, 116, 101, 110, 116, 45, 108, 101, 110, 103, 116, 104]⟩ : ByteArray), nt)] := ⟨_, rfl⟩
  have hls : lt.size ≤ 40 := by
   rw [hlt, field_text]
   have k1 : (⟨#[]⟩ : ByteArray).size = 0 := rfl
   have k2 : (⟨#[99, 111, 110, 116, 101, 110, 116, 45, 108, 101, 110, 103, 116, 104]⟩ : ByteArray).size = 14 := rfl
   have k3 : (⟨#[58, 32]⟩ : ByteArray).size = 2 := rfl
   simp only [ByteArray.size_append]
   omega
  have HLT : Hid (fieldsText [((⟨#[99, 111, 110, 116, 101, 110, 116, 45, 108, 101, 110, 103, 116, 104]⟩ : ByteArray), nt)] = lt) := hlt.symm
  have HLS : Hid ((fieldsText [((⟨#[99, 111, 110, 116, 101, 110, 116, 45, 108, 101, 110, 103, 116, 104]⟩ : ByteArray), nt)]).size ≤ 1099511627776) := by show _ ≤ _; rw [← hlt]; omega
  have HE : Hid (ft ++ lt ++ ⟨#[13, 10]⟩ ++ b = restT true fs b) := by
   show _ = _
   unfold restT
   rw [if_pos rfl, HFT.out, ← hnt, hlt, field_text]
   rfl
  clear hnt hlt
  go_wp2_with fail
  refine (implNumText_any (b.size : Int) _ (by omega) (by omega) hT1).mono ?_
  rintro e w2 ⟨rfl, bb2⟩
  rw [HNI.out]
  clear c0 c1 hT1
  have HB2 : Hid (Below (w.alloc (.cells #[.slice oa n cap, .string b] 77)).heap.size (w.alloc (.cells #[.slice oa n cap, .string b] 77)) w2) := HB1.out.trans (bb2.mono HB1.out.size)
  clear bb2 hbw1
  obtain ⟨h3, hh3⟩ := exq (w2.heap.size)
  have hv3 : FieldsV (w2.alloc (.cells #[.string ⟨#[99, 111, 110, 116, 101, 110, 116, 45, 108, 101, 110, 103, 116, 104]⟩, .string nt] 74)) w2.heap.size (.slice (some ⟨w2.heap.size, 0, none⟩) 1 1) 1 [(⟨#[99, 111, 110, 116, 101, 110, 116, 45, 108, 101, 110, 103, 116, 104]⟩, nt)] := one_row (heap_alloc_new w2 _) (Nat.le_refl _) (by simp)
  have HB3 : Hid (Below (w.alloc (.cells #[.slice oa n cap, .string b] 77)).heap.size (w.alloc (.cells #[.slice oa n cap, .string b] 77)) (w2.alloc (.cells #[.string ⟨#[99, 111, 110, 116, 101, 110, 116, 45, 108, 101, 110, 103, 116, 104]⟩, .string nt] 74))) := HB2.out.alloc HB2.out.size _
  go_wp2_with fail
  refine (text_any _ 1 w2.heap.size [(⟨#[99, 111, 110, 116, 101, 110, 116, 45, 108, 101, 110, 103, 116, 104]⟩, nt)] _ hv3 (by omega) HLS.out).mono ?_
  rintro e w4 ⟨rfl, bb4⟩
  rw [HLT.out]
  obtain ⟨⟨d0, d1⟩, _, hbw4⟩ := HR.out w4 (HB3.out.trans (bb4.mono HB3.out.size))
  clear hv3 bb4 hh3
  have q1 : ¬ 9223372036854775807 < ft.size + lt.size := by omega
  have q2 : ¬ 9223372036854775807 < ft.size + lt.size + 2 := by omega
  have q3 : ¬ 9223372036854775807 < ft.size + lt.size + 2 + b.size := by omega
  go_wp2_with fail
  go_ret
  exact TextIs.of HE.out hbw4
theorem reqText_any (m : Int) (p : ByteArray) (v : Value) (b : ByteArray) (n base : Nat) (fs : List (ByteArray × ByteArray)) (w : World) (hv : FieldsV w base v n fs) (hn : n ≤ 1073741824) (hsz : WalkF n fs) (hp : p.size ≤ maxLen) (hb : b.size ≤ maxLen) (htab : TabOk w) :
  Calls Tryz.prog 58 #[.agg #[v, .string b, .int .i64 m, .string p]] w fun e w' => TextOf (ReqP m p fs b) (reqT m p fs b) w e w' := by
 obtain ⟨oa, cap, rfl, _⟩ := hv.slice
 obtain ⟨r, hr⟩ := exq (w.heap.size)
 have HR : Hid (∀ W, Below (w.alloc (.cells #[.slice oa n cap, .string b, .int .i64 m, .string p] 92)).heap.size (w.alloc (.cells #[.slice oa n cap, .string b, .int .i64 m, .string p] 92)) W → (W.cell? ⟨r, 0, none⟩ = some (.slice oa n cap) ∧ W.cell? ⟨r, 1, none⟩ = some (.string b) ∧ W.cell? ⟨r, 2, none⟩ = some (.int .i64 m) ∧ W.cell? ⟨r, 3, none⟩ = some (.string p)) ∧ FieldsV W base (.slice oa n cap) n fs ∧ Below w.heap.size w W) := fun W h => by
  have hh := kept_new h
  rw [← hr] at hh
  exact ⟨⟨by simp [World.cell?, hh], by simp [World.cell?, hh], by simp [World.cell?, hh], by simp [World.cell?, hh]⟩, hv.below (below_new h), below_new h⟩
 obtain ⟨_, hv0, _⟩ := HR.out _ (Below.refl _ _)
 have HTAB : Hid (TabOk w) := htab
 go_enter Tryz.func58, Tryz.ntmps58
 go_wp2_with fail
 refine (reqOk_any m p _ b n base fs _ hv0 hn hsz hp hb).mono ?_
 rintro e w1 ⟨b1, rfl, kb1, bb1⟩
 rw [← hr]
 obtain ⟨⟨c0, c1, c2, c3⟩, hv1, hbw1⟩ := HR.out w1 bb1
 have HV1 : Hid (FieldsV w1 base (.slice oa n cap) n fs) := hv1
 clear hv hv0 hv1 hsz hp hb htab hr
 cases b1
 ·
  have HF : Hid (¬ ReqP m p fs b) := fun h => by have := kb1.2 h; cases this
  clear kb1 bb1
  go_wp2_with fail
  go_ret
  exact ⟨_, rfl, fun h => absurd h HF.out, fun _ => rfl, hbw1⟩
 ·
  have HY : Hid (ReqP m p fs b) := kb1.1 rfl
  have hps : p.size ≤ 60 := HY.out.2.1.2.2.1
  have hbs : b.size ≤ 120 := HY.out.2.2.2
  have hms := methB_size m
  obtain ⟨mt, hmt⟩ := exq (methB m)
  rw [← hmt] at hms
  have HMT : Hid (methB m = mt) := hmt.symm
  have hrs := restT_size (decide (b.size ≠ 0)) HY.out.2.2.1 hbs
  obtain ⟨rt, hrt⟩ := exq (restT (decide (b.size ≠ 0)) fs b)
  rw [← hrt] at hrs
  have HRT : Hid (restT (decide (b.size ≠ 0)) fs b = rt) := hrt.symm
  have HE : Hid (mt ++ ⟨#[32]⟩ ++ p ++ ⟨#[32]⟩ ++ ⟨#[72, 84, 84, 80, 47, 49, 46, 49]⟩ ++ ⟨#[13, 10]⟩ ++ rt = reqT m p fs b) := by
   show _ = _
   rw [← HMT.out, ← HRT.out]
   exact rest_req m p fs b
  have HB1 : Hid (Below (w.alloc (.cells #[.slice oa n cap, .string b, .int .i64 m, .string p] 92)).heap.size (w.alloc (.cells #[.slice oa n cap, .string b, .int .i64 m, .string p] 92)) w1) := bb1
  clear kb1 bb1 hmt hrt
  have e1 : (⟨#[32]⟩ : ByteArray).size = 1 := rfl
  have e2 : (⟨#[72, 84, 84, 80, 47, 49, 46, 49]⟩ : ByteArray).size = 8 := rfl
  have e3 : (⟨#[13, 10]⟩ : ByteArray).size = 2 := rfl
  have q1 : ¬ 9223372036854775807 < mt.size + 1 := by omega
  have q2 : ¬ 9223372036854775807 < mt.size + 1 + p.size := by omega
  have q3 : ¬ 9223372036854775807 < mt.size + 1 + p.size + 1 := by omega
  have q4 : ¬ 9223372036854775807 < mt.size + 1 + p.size + 1 + 8 := by omega
  have q5 : ¬ 9223372036854775807 < mt.size + 1 + p.size + 1 + 8 + 2 := by omega
  have q6 : ¬ 9223372036854775807 < mt.size + 1 + p.size + 1 + 8 + 2 + rt.size := by omega
  go_wp2_with fail
  go_region_held3 (fun W => W.cell? ⟨r, 2, none⟩ = some (.int .i64 m) ∧ W.cell? ⟨r, 3, none⟩ = some (.string p)) (first | assumption | go_keep) (first | (go_at_call 105; refine (methodName_any m _).mono ?_; rintro e w2 ⟨rfl, rfl⟩; rw [HMT.out]))
  have HB2 : Hid (Below (w.alloc (.cells #[.slice oa n cap, .string b, .int .i64 m, .string p] 92)).heap.size (w.alloc (.cells #[.slice oa n cap, .string b, .int .i64 m, .string p] 92)) w1.drew) := HB1.out.drew
  generalize w1.drew = w2 at HB2 ⊢
  obtain ⟨⟨d0, d1, d2, d3⟩, hv2, hbw2⟩ := HR.out w2 HB2.out
  have hT2 : TabOk w2 := HTAB.out.below hbw2
  clear c0 c1 c2 c3 HB1 HV1 hbw1
  have hF := HY.out.2.2.1
  by_cases hb0 : b.size = 0
  ·
   have HRT0 : Hid (restT false fs b = rt) := by
    show _ = _
    rw [← HRT.out]
    simp [hb0]
   obtain rfl := empty_text hb0
   go_wp2_with fail
   refine (restText_any _ _ false n base fs _ hv2 hn hF hbs hT2).mono ?_
   rintro e w3 ⟨rfl, bb3⟩
   rw [HRT0.out]
   obtain ⟨_, _, hbw3⟩ := HR.out w3 (HB2.out.trans (bb3.mono HB2.out.size))
   clear bb3 hv2 hT2 d0 d1 d2 d3 hF
   go_wp2_with fail
   go_ret
   exact ⟨_, rfl, fun _ => HE.out, fun h => absurd HY.out h, hbw3⟩
  ·
   have HRT1 : Hid (restT true fs b = rt) := by
    show _ = _
    rw [← HRT.out]
    simp [hb0]
   have ht : b.toList.isEmpty = false := isEmpty_no (by omega)
   go_wp2_with fail
   refine (restText_any _ _ true n base fs _ hv2 hn hF hbs hT2).mono ?_
   rintro e w3 ⟨rfl, bb3⟩
   rw [HRT1.out]
   obtain ⟨_, _, hbw3⟩ := HR.out w3 (HB2.out.trans (bb3.mono HB2.out.size))
   clear bb3 hv2 hT2 d0 d1 d2 d3 hF
   go_wp2_with fail
   go_ret
   exact ⟨_, rfl, fun _ => HE.out, fun h => absurd HY.out h, hbw3⟩
theorem respText_any (st : Int) (v : Value) (b : ByteArray) (n base : Nat) (fs : List (ByteArray × ByteArray)) (w : World) (hv : FieldsV w base v n fs) (hn : n ≤ 1073741824) (hsz : WalkF n fs) (hb : b.size ≤ maxLen) (htab : TabOk w) :
  Calls Tryz.prog 40 #[.agg #[v, .string b, .int .i64 st]] w fun e w' => TextOf (RespP st fs b) (respT st fs b) w e w' := by
 obtain ⟨oa, cap, rfl, _⟩ := hv.slice
 obtain ⟨r, hr⟩ := exq (w.heap.size)
 have HR : Hid (∀ W, Below (w.alloc (.cells #[.slice oa n cap, .string b, .int .i64 st] 79)).heap.size (w.alloc (.cells #[.slice oa n cap, .string b, .int .i64 st] 79)) W → (W.cell? ⟨r, 0, none⟩ = some (.slice oa n cap) ∧ W.cell? ⟨r, 1, none⟩ = some (.string b) ∧ W.cell? ⟨r, 2, none⟩ = some (.int .i64 st)) ∧ FieldsV W base (.slice oa n cap) n fs ∧ Below w.heap.size w W) := fun W h => by
  have hh := kept_new h
  rw [← hr] at hh
  exact ⟨⟨by simp [World.cell?, hh], by simp [World.cell?, hh], by simp [World.cell?, hh]⟩, hv.below (below_new h), below_new h⟩
 obtain ⟨_, hv0, _⟩ := HR.out _ (Below.refl _ _)
 have HTAB : Hid (TabOk w) := htab
 go_enter Tryz.func40, Tryz.ntmps40
 go_wp2_with fail
 refine (respOk_any st _ b n base fs _ hv0 hn hsz hb).mono ?_
 rintro e w1 ⟨b1, rfl, kb1, bb1⟩
 rw [← hr]
 obtain ⟨⟨c0, c1, c2⟩, _, hbw1⟩ := HR.out w1 bb1
 clear hv hv0 hsz hb htab hr
 cases b1
 ·
  have HF : Hid (¬ RespP st fs b) := fun h => by have := kb1.2 h; cases this
  clear kb1 bb1
  go_wp2_with fail
  go_ret
  exact ⟨_, rfl, fun h => absurd h HF.out, fun _ => rfl, hbw1⟩
 ·
  have HY : Hid (RespP st fs b) := kb1.1 rfl
  have hst := HY.out.1
  have hbs : b.size ≤ 120 := HY.out.2.2
  have hns := numText_size st.toNat
  obtain ⟨nk, hnk⟩ := exq (numText st.toNat)
  rw [← hnk] at hns
  have HNI : Hid (numTextI st = nk) := by
   show _ = _
   unfold numTextI
   rw [if_neg (by omega), hnk]
  have hrs := restT_size true HY.out.2.1 hbs
  obtain ⟨rt, hrt⟩ := exq (restT true fs b)
  rw [← hrt] at hrs
  have HRT : Hid (restT true fs b = rt) := hrt.symm
  have HE : Hid (⟨#[72, 84, 84, 80, 47, 49, 46, 49, 32]⟩ ++ nk ++ ⟨#[32]⟩ ++ ⟨#[46]⟩ ++ ⟨#[13, 10]⟩ ++ rt = respT st fs b) := by
   show _ = _
   rw [hnk, ← HRT.out]
   exact rest_resp st fs b
  have HB1 : Hid (Below (w.alloc (.cells #[.slice oa n cap, .string b, .int .i64 st] 79)).heap.size (w.alloc (.cells #[.slice oa n cap, .string b, .int .i64 st] 79)) w1) := bb1
  have hT1 : TabOk w1 := HTAB.out.below hbw1
  clear kb1 bb1 hnk hrt hbw1
  have e1 : (⟨#[32]⟩ : ByteArray).size = 1 := rfl
  have e2 : (⟨#[72, 84, 84, 80, 47, 49, 46, 49, 32]⟩ : ByteArray).size = 9 := rfl
  have e3 : (⟨#[13, 10]⟩ : ByteArray).size = 2 := rfl
  have e4 : (⟨#[46]⟩ : ByteArray).size = 1 := rfl
  have q1 : ¬ 9223372036854775807 < 9 + nk.size := by omega
  have q2 : ¬ 9223372036854775807 < 9 + nk.size + 1 := by omega
  have q3 : ¬ 9223372036854775807 < 9 + nk.size + 1 + 1 := by omega
  have q4 : ¬ 9223372036854775807 < 9 + nk.size + 1 + 1 + 2 := by omega
  have q5 : ¬ 9223372036854775807 < 9 + nk.size + 1 + 1 + 2 + rt.size := by omega
  go_wp2_with fail
  refine (implNumText_any st _ (by omega) (by omega) hT1).mono ?_
  rintro e w2 ⟨rfl, bb2⟩
  rw [HNI.out]
  have HB2 : Hid (Below (w.alloc (.cells #[.slice oa n cap, .string b, .int .i64 st] 79)).heap.size (w.alloc (.cells #[.slice oa n cap, .string b, .int .i64 st] 79)) w2) := HB1.out.trans (bb2.mono HB1.out.size)
  obtain ⟨⟨d0, d1, d2⟩, hv2, hbw2⟩ := HR.out w2 HB2.out
  have hT2 : TabOk w2 := HTAB.out.below hbw2
  have hF := HY.out.2.1
  clear c0 c1 c2 HB1 bb2 hT1 hbw2
  go_wp2_with fail
  refine (restText_any _ _ true n base fs _ hv2 hn hF hbs hT2).mono ?_
  rintro e w3 ⟨rfl, bb3⟩
  rw [HRT.out]
  obtain ⟨_, _, hbw3⟩ := HR.out w3 (HB2.out.trans (bb3.mono HB2.out.size))
  clear bb3 hv2 hT2 d0 d1 d2 hF
  go_wp2_with fail
  go_ret
  exact ⟨_, rfl, fun _ => HE.out, fun h => absurd HY.out h, hbw3⟩
theorem implReqText_any (m : Int) (p : ByteArray) (v : Value) (b : ByteArray) (n base : Nat) (fs : List (ByteArray × ByteArray)) (w : World) (hv : FieldsV w base v n fs) (hn : n ≤ 1073741824) (hsz : WalkF n fs) (hp : p.size ≤ maxLen) (hb : b.size ≤ maxLen) (htab : TabOk w) :
  Calls Tryz.prog 14 #[.agg #[.int .i64 m, .string p, v, .string b]] w fun e w' => TextOf (ReqP m p fs b) (reqT m p fs b) w e w' := by
 obtain ⟨oa, cap, rfl, _⟩ := hv.slice
 have hb0 : Below w.heap.size w (w.alloc (.cells #[.int .i64 m, .string p, .slice oa n cap, .string b] 26)) := (Below.refl _ _).alloc (Nat.le_refl _) _
 have HTAB : Hid (TabOk w) := htab
 clear htab
 go_enter Tryz.func14, Tryz.ntmps14
 go_wp2_with fail
 refine (requestOf_any m p oa n cap b _).mono ?_
 rintro e w1 ⟨rfl, bb1⟩
 have hb1 : Below w.heap.size w w1 := hb0.trans (bb1.mono hb0.size)
 have hv1 := hv.below hb1
 clear bb1 hb0 hv
 go_wp2_with fail
 refine (reqText_any m p _ b n base fs _ hv1 hn hsz hp hb (HTAB.out.below hb1)).mono ?_
 rintro e w2 ⟨u, rfl, ku, kn, bb2⟩
 have hb2 : Below w.heap.size w w2 := hb1.trans (bb2.mono hb1.size)
 have HK : Hid ((ReqP m p fs b) → u = reqT m p fs b) := ku
 have HN : Hid (¬ (ReqP m p fs b) → u = ⟨#[]⟩) := kn
 clear hv1 hsz hb bb2 hb1 ku kn hp
 go_wp2_with fail
 go_ret
 exact ⟨u, rfl, HK.out, HN.out, hb2⟩
theorem implRespText_any (m : Int) (v : Value) (b : ByteArray) (n base : Nat) (fs : List (ByteArray × ByteArray)) (w : World) (hv : FieldsV w base v n fs) (hn : n ≤ 1073741824) (hsz : WalkF n fs) (hb : b.size ≤ maxLen) (htab : TabOk w) :
  Calls Tryz.prog 8 #[.agg #[.int .i64 m, v, .string b]] w fun e w' => TextOf (RespP m fs b) (respT m fs b) w e w' := by
 obtain ⟨oa, cap, rfl, _⟩ := hv.slice
 have hb0 : Below w.heap.size w (w.alloc (.cells #[.int .i64 m, .slice oa n cap, .string b] 29)) := (Below.refl _ _).alloc (Nat.le_refl _) _
 have HTAB : Hid (TabOk w) := htab
 clear htab
 go_enter Tryz.func8, Tryz.ntmps8
 go_wp2_with fail
 refine (answerOf_any m oa n cap b _).mono ?_
 rintro e w1 ⟨rfl, bb1⟩
 have hb1 : Below w.heap.size w w1 := hb0.trans (bb1.mono hb0.size)
 have hv1 := hv.below hb1
 clear bb1 hb0 hv
 go_wp2_with fail
 refine (respText_any m _ b n base fs _ hv1 hn hsz hb (HTAB.out.below hb1)).mono ?_
 rintro e w2 ⟨u, rfl, ku, kn, bb2⟩
 have hb2 : Below w.heap.size w w2 := hb1.trans (bb2.mono hb1.size)
 have HK : Hid ((RespP m fs b) → u = respT m fs b) := ku
 have HN : Hid (¬ (RespP m fs b) → u = ⟨#[]⟩) := kn
 clear hv1 hsz hb bb2 hb1 ku kn
 go_wp2_with fail
 go_ret
 exact ⟨u, rfl, HK.out, HN.out, hb2⟩
end Go.Proofs.YtmcmeeibogkpaaaGreatDoorR
namespace Go.Proofs.YtmcmeeibogkpaaaGreatDoorR
open Go.RowKit
open Go.Lib hiding intOf
attribute [local go_sem] Oper.semAt_some
open Classical in
theorem contains_any (oa : Option Addr) (m cm : Nat) (xs : List ByteArray) (x : ByteArray) (w : World) (hx : TextsA w oa m xs) (hm : m ≤ 2000000) :
  Calls Tryz.prog 125 #[.slice oa m cm, .string x] w fun e w' => e = .returned (.bool (decide (x ∈ xs))) ∧ w' = w := by
 by_cases h0 : m = 0
 ·
  subst h0
  refine (Tryz.slices_Contains_string_empty oa cm x w).mono ?_
  rintro e w1 ⟨rfl, rfl⟩
  refine ⟨?_, rfl⟩
  rw [List.length_eq_zero_iff.1 hx.1]
  simp
 ·
  obtain ⟨g, rfl, _, _⟩ := hx.2 0 (by omega)
  refine (Tryz.slices_Contains_string g 0 m cm xs x w (by rw [hx.1]; exact Nat.le_refl _) (by omega) (fun j hj => ?_)).mono ?_
  ·
   obtain ⟨g2, e2, _, h3⟩ := hx.2 j (by rw [← hx.1]; exact hj)
   cases e2
   rw [Nat.zero_add]
   exact h3
  ·
   rintro e w1 ⟨rfl, rfl⟩
   refine ⟨?_, rfl⟩
   rw [List.take_of_length_le (by rw [hx.1]; exact Nat.le_refl _)]
   by_cases h : x ∈ xs
   · rw [(Go.Lib.containsS_iff xs x).2 h, decide_eq_true h]
   · rw [decide_eq_false h, Bool.eq_false_iff.2 (fun hc => h ((Go.Lib.containsS_iff xs x).1 hc))]
end Go.Proofs.YtmcmeeibogkpaaaGreatDoorR
namespace Go.Proofs.YtmcmeeibogkpaaaGreatDoorR
open Go.RowKit
open Go.Lib hiding intOf
theorem pair_at (fs : List (ByteArray × ByteArray)) (k : Nat) (h : k < fs.length) : (nameAt fs k, valAt fs k) = fs[k] := by
 unfold nameAt valAt
 rw [List.getD_eq_getElem?_getD, List.getElem?_eq_getElem h]
 rfl
theorem dropTo_none (fs : List (ByteArray × ByteArray)) : ∀ k, k ≤ fs.length → dropTo fs (-1) k = fs.take k := by
 intro k
 induction k with
 | zero => intro _; rfl
 | succ k ih =>
  intro hk
  rw [dropTo, if_neg (by omega), ih (by omega), pair_at fs k (by omega), List.take_append_getElem (by omega)]
theorem dropTo_at (fs : List (ByteArray × ByteArray)) (a : Nat) : ∀ k, k ≤ fs.length → dropTo fs (a : Int) k = (if a < k then (fs.take k).eraseIdx a else fs.take k) := by
 intro k
 induction k with
 | zero => intro _; rfl
 | succ k ih =>
  intro hk
  have ht : fs.take (k + 1) = fs.take k ++ [fs[k]] := (List.take_append_getElem (by omega)).symm
  have hl : (fs.take k).length = k := by rw [List.length_take]; omega
  rw [dropTo, ih (by omega), pair_at fs k (by omega), ht]
  by_cases e : k = a
  ·
   subst e
   rw [if_pos rfl, if_neg (by omega), if_pos (by omega), List.eraseIdx_append_of_length_le (by omega), hl, Nat.sub_self]
   simp
  ·
   rw [if_neg (by omega)]
   by_cases c : a < k
   · rw [if_pos c, if_pos (by omega), List.eraseIdx_append_of_lt_length (by omega)]
   · rw [if_neg c, if_neg (by omega)]
theorem dropF_eq (fs : List (ByteArray × ByteArray)) (name : ByteArray) : dropF fs name = (if atF fs name < fs.length then fs.eraseIdx (atF fs name) else fs) := by
 unfold dropF atI
 by_cases h : atF fs name < fs.length
 · rw [if_pos h, if_pos h, dropTo_at fs _ _ (Nat.le_refl _), if_pos h, List.take_length]
 · rw [if_neg h, if_neg h, dropTo_none fs _ (Nat.le_refl _), List.take_length]
theorem putF_eq (fs : List (ByteArray × ByteArray)) (name value : ByteArray) (h : atF fs name < fs.length) : putF fs name value = fs.set (atF fs name) (name, value) := by
 unfold putF
 rw [if_pos h, atF_here fs name h]
end Go.Proofs.YtmcmeeibogkpaaaGreatDoorR
namespace Go.Proofs.YtmcmeeibogkpaaaGreatDoorR
open Go.RowKit
open Go.Lib hiding intOf
theorem atF_append (fs : List (ByteArray × ByteArray)) (name value x : ByteArray) (h : atF fs name = fs.length) : atF (fs ++ [(name, value)]) x = (if x = name then fs.length else if atF fs x < fs.length then atF fs x else fs.length + 1) := by
 induction fs with
 | nil =>
  simp only [List.nil_append, atF, List.length_nil]
  by_cases e : x = name
  · rw [if_pos e.symm, if_pos e]
  ·
   rw [if_neg (fun h => e h.symm), if_neg e]
   simp
 | cons f r ih =>
  have hne : f.1 ≠ name := fun e => by rw [atF, if_pos e] at h; simp at h
  have hr : atF r name = r.length := by rw [atF, if_neg hne] at h; simpa using h
  have ih := ih hr
  rw [List.cons_append, atF, ih, atF]
  by_cases e : f.1 = x
  ·
   rw [if_pos e, if_pos e]
   subst e
   rw [if_neg hne, if_pos (by simp)]
  ·
   rw [if_neg e, if_neg e]
   by_cases e2 : x = name
   · rw [if_pos e2, if_pos e2]; simp
   ·
    rw [if_neg e2, if_neg e2]
    by_cases c : atF r x < r.length
    · rw [if_pos c, if_pos (by simp; omega)]
    · rw [if_neg c, if_neg (by simp; omega)]; simp
theorem atF_set (fs : List (ByteArray × ByteArray)) (k : Nat) (name value x : ByteArray) (hk : k < fs.length) (hn : nameAt fs k = name) : atF (fs.set k (name, value)) x = atF fs x := by
 induction fs generalizing k with
 | nil => simp at hk
 | cons f r ih =>
  cases k with
  | zero =>
   have : f.1 = name := hn
   simp only [List.set_cons_zero, atF, this]
  | succ k =>
   have hk' : k < r.length := by simpa using hk
   have hn' : nameAt r k = name := by simpa [nameAt] using hn
   simp only [List.set_cons_succ, atF, ih k hk' hn']
theorem valAt_append (fs : List (ByteArray × ByteArray)) (f : ByteArray × ByteArray) (k : Nat) : valAt (fs ++ [f]) k = (if k < fs.length then valAt fs k else if k = fs.length then f.2 else ⟨#[]⟩) := by
 unfold valAt
 rw [List.getD_eq_getElem?_getD, List.getD_eq_getElem?_getD]
 by_cases c : k < fs.length
 · rw [if_pos c, List.getElem?_append_left c]
 ·
  rw [if_neg c, List.getElem?_append_right (by omega)]
  by_cases e : k = fs.length
  · rw [if_pos e, e, Nat.sub_self]; rfl
  · rw [if_neg e, List.getElem?_eq_none (by simp; omega)]; rfl
/-- What is put is got. -/
theorem put_got (fs : List (ByteArray × ByteArray)) (name value : ByteArray) : getV (putF fs name value) name = value ∧ getB (putF fs name value) name = true := by
 by_cases hin : atF fs name < fs.length
 ·
  have hh := atF_here fs name hin
  rw [putF_eq fs name value hin]
  have ha := atF_set fs _ name value name hin hh
  unfold getV getB
  rw [ha, List.length_set, if_pos hin]
  have := (nameAt_set fs (atF fs name) (atF fs name) (name, value) hin).2
  rw [if_pos rfl] at this
  exact ⟨this, by simpa using hin⟩
 ·
  have hl : atF fs name = fs.length := by have := atF_le fs name; omega
  have hp : putF fs name value = fs ++ [(name, value)] := by unfold putF; rw [if_neg hin]
  have ha := atF_append fs name value name hl
  rw [if_pos rfl] at ha
  rw [hp]
  unfold getV getB
  rw [ha, if_pos (by simp), valAt_append, if_neg (by omega), if_pos rfl]
  exact ⟨rfl, by simp⟩
theorem ShortF.name {fs : List (ByteArray × ByteArray)} (h : ShortF fs) (i : Nat) (hi : i < fs.length) : (nameAt fs i).size ≤ 64 ∧ (valAt fs i).size ≤ 64 := by
 have := h (nameAt fs i, valAt fs i) (by rw [pair_at fs i hi]; exact List.getElem_mem hi)
 exact this
theorem ShortF.put {fs : List (ByteArray × ByteArray)} (h : ShortF fs) {name value : ByteArray} (h1 : name.size ≤ 64) (h2 : value.size ≤ 64) : ShortF (putF fs name value) := by
 by_cases hin : atF fs name < fs.length
 ·
  rw [putF_eq fs name value hin]
  intro f hf
  rcases List.mem_or_eq_of_mem_set hf with hf | hf
  · exact h f hf
  · subst hf; exact ⟨h1, h2⟩
 ·
  have hp : putF fs name value = fs ++ [(name, value)] := by unfold putF; rw [if_neg hin]
  rw [hp]; exact h.snoc h1 h2
theorem ShortF.drop {fs : List (ByteArray × ByteArray)} (h : ShortF fs) (name : ByteArray) : ShortF (dropF fs name) := by
 rw [dropF_eq]
 split
 · intro f hf; exact h f (List.mem_of_mem_eraseIdx hf)
 · exact h
theorem ShortF.copy {fs : List (ByteArray × ByteArray)} (h : ShortF fs) : CopyF fs := fun i hi => by
 have := h.name i hi
 omega
theorem put_len (fs : List (ByteArray × ByteArray)) (name value : ByteArray) : (putF fs name value).length ≤ fs.length + 1 := by
 unfold putF
 split
 · rw [List.length_set]; omega
 · rw [List.length_append]; simp
theorem drop_len (fs : List (ByteArray × ByteArray)) (name : ByteArray) : (dropF fs name).length ≤ fs.length := by
 rw [dropF_eq]
 split
 · rw [List.length_eraseIdx]; split <;> omega
 · exact Nat.le_refl _
end Go.Proofs.YtmcmeeibogkpaaaGreatDoorR
namespace Go.Proofs.YtmcmeeibogkpaaaGreatDoorR
open Go.RowKit
open Go.Lib hiding intOf
theorem shortWalk {fs : List (ByteArray × ByteArray)} (h : ShortF fs) : WalkF fs.length fs := fun i hi => by
 have := h.name i hi
 unfold maxLen
 omega
theorem short_get2 {fs : List (ByteArray × ByteArray)} (h : ShortF fs) (x : ByteArray) : (getV fs x).size ≤ 64 := by
 unfold getV
 split
 · rename_i hin; exact (h.name _ hin).2
 · decide
end Go.Proofs.YtmcmeeibogkpaaaGreatDoorR
