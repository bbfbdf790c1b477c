/- Drawings of chapter 7: contracts over the translation. -/
import Derived.Test.YtnlifhmobmgpcaaCtlDraw
import Derived.Test.YtnlifhmobmgpcaaFieldPut
namespace Go.Proofs.Ytnlifhmobmgpcaa
open Go.RowKit
open Go.Lib hiding intOf

theorem putL_len (fs : List (ByteArray × ByteArray)) (name value : ByteArray) : (putF fs name value).length ≤ fs.length + 1 := by
  unfold putF
  split
  · rw [List.length_set]; omega
  · rw [List.length_append]; simp
theorem putL_short {fs : List (ByteArray × ByteArray)} (h : ShortF fs) {name value : ByteArray} (h1 : name.size ≤ 64) (h2 : value.size ≤ 64) : ShortF (putF fs name value) := by
  by_cases hin : atF fs name < fs.length
  · unfold putF
    rw [if_pos hin]
    intro f hf
    rcases List.mem_or_eq_of_mem_set hf with hf | hf
    · exact h f hf
    · subst hf
      refine ⟨?_, h2⟩
      first
        | exact h1
        | (unfold nameAt
           rw [List.getD_eq_getElem?_getD, List.getElem?_eq_getElem hin]
           exact (h _ (List.getElem_mem hin)).1)
  · unfold putF
    rw [if_neg hin]
    exact h.snoc h1 h2

/-- A call on the cursor answers a number. -/
def TimeDrawn (w : World) (c : Nat) (a : Option Addr) (len cap : Nat) (e : Ending) (w' : World) : Prop :=
  ∃ n : Int, e = .returned (.int .i64 n) ∧ -9223372036854775808 ≤ n ∧ n ≤ 9223372036854775807 ∧ CurAt w' c a len cap ∧ w.grownBy w' (some c)
def tmL : List Int := [-1, 1000000, 1000001, 9223372036854775807, -9223372036854775808]
theorem tmL_in : ∀ j, j < 5 → -9223372036854775808 ≤ tmL.getD j 0 ∧ tmL.getD j 0 ≤ 9223372036854775807 := by decide
set_option maxHeartbeats 1000000 in
set_option maxRecDepth 100000 in
theorem l7DrawTime_any (c B : Nat) (a : Option Addr) (len cap : Nat) (zs : List Int) (w : World) (hcur : CurAt w c a len cap) (hcode : CodeAt w B a len zs) (hB : B ≤ c) :
    Calls Try.prog 36 #[.pointer (some ⟨c, 0, none⟩)] w fun e w' => TimeDrawn w c a len cap e w' := by
  have HCO : Hid (∀ W, w.grownBy W (some c) → CodeAt W B a len zs) := fun W h => hcode.grown h hB
  go_enter Try.func36, Try.ntmps36
  go_wp2_with fail
  refine (l1Once_any c B 15 a len cap zs _ hcur hcode hB (by omega) (by omega)).mono ?_
  rintro e w1 ⟨hb, hcu1, hg1⟩
  obtain ⟨b, rfl⟩ := hb.out
  have HG1 : Hid (w.grownBy w1 (some c)) := hg1
  have hcl1 := hcu1.lt
  clear hb hcur hcode hg1
  cases b with
  | true =>
    have hla : ∀ j, j < 5 → (w1.alloc (.cells #[.int .i64 (-1), .int .i64 1000000, .int .i64 1000001, .int .i64 9223372036854775807, .int .i64 (-9223372036854775808)] 3)).cell? ⟨w1.heap.size, j, none⟩ = some (.int .i64 (tmL.getD j 0)) := by
      intro j hj
      rw [World.cell?_alloc_new]
      match j, hj with
      | 0, _ => rfl
      | 1, _ => rfl
      | 2, _ => rfl
      | 3, _ => rfl
      | 4, _ => rfl
    have HGA : Hid (∀ o, w.grownBy (w1.alloc o) (some c)) := fun o => grownBy_trans HG1.out (World.grownBy_alloc w1 o _)
    go_wp2_with fail
    refine (ccPickInt_any c B w1.heap.size 5 (fun j => tmL.getD j 0) a len cap zs _ (hcu1.below ((Below.refl _ _).alloc (Nat.le_refl _) _) hcl1) (HCO.out _ (HGA.out _)) hB (by omega) (by omega) (by exact hla) (by omega)).mono ?_
    rintro e w2 ⟨j, hj, rfl, hcu2, hg2⟩
    have hz := tmL_in j hj
    obtain ⟨z, hzz⟩ : ∃ z, z = tmL.getD j 0 := ⟨_, rfl⟩
    rw [← hzz] at hz ⊢
    have HG2 : Hid (w.grownBy w2 (some c)) := grownBy_trans (HGA.out _) hg2
    clear hzz hla hg2 hcu1
    go_wp2_with fail
    go_ret
    exact ⟨z, rfl, hz.1, hz.2, hcu2, HG2.out⟩
  | false =>
    go_wp2_with fail
    refine (l1Below_any c B 40 a len cap zs _ hcu1 (HCO.out _ HG1.out) hB (by omega) (by omega)).mono ?_
    rintro e w2 ⟨x, rfl, hx0, hx1, hcu2, hg2⟩
    have HG2 : Hid (w.grownBy w2 (some c)) := grownBy_trans HG1.out hg2
    clear hcu1 hg2
    go_wp2_with fail
    go_ret
    exact ⟨x, rfl, by omega, by omega, hcu2, HG2.out⟩

set_option maxHeartbeats 1000000 in
theorem drawPlus_any (a : Option Addr) (len cap : Nat) (zs : List Int) (w : World) (hcode : CodeAt w w.heap.size a len zs) :
    Calls Try.prog 18 #[.slice a len cap] w fun e w' => ∃ x y : Int, e = .returned (.tuple #[.int .i64 x, .int .i64 y]) ∧ -9223372036854775808 ≤ x ∧ x ≤ 9223372036854775807 ∧ -9223372036854775808 ≤ y ∧ y ≤ 9223372036854775807 ∧ Below w.heap.size w w' := by
  obtain ⟨c, hc⟩ : ∃ c, c = w.heap.size := ⟨_, rfl⟩
  have HC : Hid (w.heap.size = c) := hc.symm
  have HCD : Hid (∀ W, Below c w W → CodeAt W c a len zs) := by rw [hc]; exact fun W h => hcode.below h
  go_enter Try.func18, Try.ntmps18
  go_wp2_with fail
  refine (l1New_any w.heap.size a len cap zs _ hcode).mono ?_
  rintro e w1 ⟨rfl, hcu1, hb1⟩
  rw [← hc] at hcu1 hb1 ⊢
  have HB1 : Hid (Below c w w1) := hb1
  clear hb1 hcode hc
  go_wp2_with fail
  refine (l7DrawTime_any c c a len cap zs _ hcu1 (HCD.out _ HB1.out) (Nat.le_refl _)).mono ?_
  rintro e w2 ⟨x, rfl, hx0, hx1, hcu2, hg2⟩
  have HB2 : Hid (Below c w w2) := HB1.out.grown hg2 (by have := hcu1.lt; omega) (by intro k hk; cases hk; exact Nat.le_refl _)
  clear hcu1 hg2
  go_wp2_with fail
  refine (l7DrawTime_any c c a len cap zs _ hcu2 (HCD.out _ HB2.out) (Nat.le_refl _)).mono ?_
  rintro e w3 ⟨y, rfl, hy0, hy1, hcu3, hg3⟩
  have HB3 : Hid (Below c w w3) := HB2.out.grown hg3 (by have := hcu2.lt; omega) (by intro k hk; cases hk; exact Nat.le_refl _)
  clear hcu2 hg3 hcu3
  go_wp2_with fail
  refine bodyPost_ret (v := .tuple #[.int .i64 x, .int .i64 y]) (by simp [results, Try.results18, go_sem]) rfl ?_
  exact ⟨x, y, rfl, hx0, hx1, hy0, hy1, by rw [HC.out]; exact HB3.out⟩

/-- Fields and two times are drawn. -/
def DrawnFT (w : World) (e : Ending) (w' : World) : Prop :=
  ∃ (v : Value) (fs : List (ByteArray × ByteArray)) (t now : Int), e = .returned (.tuple #[v, .int .i64 t, .int .i64 now]) ∧ w'.ownsRow w.heap.size 63 2 v fs.length (flatF fs) ∧ fs.length ≤ 41 ∧ ShortF fs ∧ -9223372036854775808 ≤ t ∧ t ≤ 9223372036854775807 ∧ -9223372036854775808 ≤ now ∧ now ≤ 9223372036854775807 ∧ Below w.heap.size w w'
/-- While they are drawn. -/
structure FtSt (w : World) (c : Nat) (a : Option Addr) (len cap : Nat) (v : Value) (fs : List (ByteArray × ByteArray)) (wr : World) : Prop where
  own : wr.ownsRow (c + 1) 63 2 v fs.length (flatF fs)
  le : fs.length ≤ 41
  short : ShortF fs
  cur : CurAt wr c a len cap
  low : Below c w wr
theorem FtSt.grown {w : World} {c : Nat} {a : Option Addr} {len cap : Nat} {v : Value} {fs : List (ByteArray × ByteArray)} {wr W : World} (h : FtSt w c a len cap v fs wr) (hg : wr.grownBy W (some c)) (hcu : CurAt W c a len cap) : FtSt w c a len cap v fs W :=
  ⟨owns_same h.own (fun j hj => hg.block j (own_ltR h.own hj).2 (fun e => by cases e; have := (own_ltR h.own hj).1; omega)), h.le, h.short, hcu, h.low.grown hg (by have := h.cur.lt; omega) (by intro k hk; cases hk; exact Nat.le_refl _)⟩
def maL : List ByteArray := [⟨#[109, 97, 120, 45, 97, 103, 101, 61, 57]⟩, ⟨#[109, 97, 120, 45, 97, 103, 101, 61, 51, 48]⟩, ⟨#[109, 97, 120, 45, 97, 103, 101, 61, 50, 48, 44, 32, 110, 111, 45, 99, 97, 99, 104, 101]⟩]
theorem maL_short : ∀ j, j < maL.length → (textAt maL j).size ≤ 20 := by decide

set_option maxHeartbeats 2000000 in
set_option maxRecDepth 100000 in
theorem l7Draw_any (a : Option Addr) (len cap : Nat) (zs : List Int) (w : World) (hcode : CodeAt w w.heap.size a len zs) :
    Calls Try.prog 29 #[.slice a len cap] w fun e w' => DrawnFT w e w' := by
  obtain ⟨c, hc⟩ : ∃ c, c = w.heap.size := ⟨_, rfl⟩
  have HC : Hid (w.heap.size = c) := hc.symm
  have HCD : Hid (∀ W, Below c w W → CodeAt W c a len zs) := by rw [hc]; exact fun W h => hcode.below h
  go_enter Try.func29, Try.ntmps29
  go_wp2_with fail
  refine (l1New_any w.heap.size a len cap zs _ hcode).mono ?_
  rintro e w1 ⟨rfl, hcu1, hb1⟩
  rw [← hc] at hcu1 hb1 ⊢
  have HB1 : Hid (Below c w w1) := hb1
  have hcl1 := hcu1.lt
  clear hb1 hcode hc
  go_wp2_with fail
  refine (l2Draw_any c c a len cap zs _ hcu1 (HCD.out _ HB1.out) (Nat.le_refl _)).mono ?_
  rintro e w2 ⟨v, fs, rfl, hown, hfl, hsh, hcu2, hg2⟩
  have HS2 : Hid (FtSt w c a len cap v fs w2 ∧ fs.length ≤ 40) := ⟨⟨owns_base hown (by omega), by omega, hsh, hcu2, HB1.out.grown hg2 (by omega) (by intro k hk; cases hk; exact Nat.le_refl _)⟩, hfl⟩
  clear hown hfl hsh hg2 hcu1 hcl1 HB1
  go_wp2_with fail
  refine (l1Once_any c c 2 a len cap zs _ hcu2 (HCD.out _ HS2.out.1.low) (Nat.le_refl _) (by omega) (by omega)).mono ?_
  rintro e w3 ⟨hb, hcu3, hg3⟩
  obtain ⟨b, rfl⟩ := hb.out
  have HS3 : Hid (FtSt w c a len cap v fs w3 ∧ fs.length ≤ 40) := ⟨HS2.out.1.grown hg3 hcu3, HS2.out.2⟩
  clear hb hcu2 hg3 HS2
  go_upto_if 13 with fail
  go_cut [6] (fun s6 wx => ∃ (v' : Value) (fs' : List (ByteArray × ByteArray)), s6 = v' ∧ Hid (FtSt w c a len cap v' fs' wx))
  case first =>
    cases b with
    | true =>
      go_wp2_with fail
      refine (pick_new c c maL 20 maL_short a len cap zs _ hcu3 (HCD.out _ HS3.out.1.low) (Nat.le_refl _) (by decide) (by decide)).mono ?_
      rintro e w4 ⟨t, rfl, hts, hcu4, hg4⟩
      have HS4 : Hid (FtSt w c a len cap v fs w4 ∧ fs.length ≤ 40) := ⟨HS3.out.1.grown hg4 hcu4, HS3.out.2⟩
      clear hg4 hcu3 HS3
      go_wp2_with fail
      refine (specPut_any v fs.length (c + 1) fs ccName t _ (FieldsV.of_owns HS4.out.1.own) (by have := HS4.out.2; omega)).mono ?_
      rintro e w5 ⟨v5, rfl, hown5, b5⟩
      have HS5 : Hid (FtSt w c a len cap v5 (putF fs ccName t) w5) := ⟨owns_base hown5 (by have := HS4.out.1.cur.lt; omega), by have := putL_len fs ccName t; have := HS4.out.2; omega, putL_short HS4.out.1.short (by decide) (by omega), hcu4.below b5 hcu4.lt, HS4.out.1.low.trans (b5.mono (by have := HS4.out.1.cur.lt; omega))⟩
      clear hown5 b5 HS4 hcu4
      go_wp2_with fail
      go_meet
      exact ⟨_, _, rfl, HS5⟩
    | false =>
      have HS5 : Hid (FtSt w c a len cap v fs w3) := HS3.out.1
      go_wp2_with fail
      go_meet
      exact ⟨_, _, rfl, HS5⟩
  case rest =>
  obtain ⟨v', fs', hv', HS6⟩ := hcut
  rw [hv']
  obtain ⟨w6, hw6⟩ : ∃ W, W = wc := ⟨_, rfl⟩
  rw [← hw6] at HS6 ⊢
  clear hv' hw6 hcu3 HS3
  go_wp2_with fail
  refine (l7DrawTime_any c c a len cap zs _ HS6.out.cur (HCD.out _ HS6.out.low) (Nat.le_refl _)).mono ?_
  rintro e w7 ⟨x, rfl, hx0, hx1, hcu7, hg7⟩
  have HS7 : Hid (FtSt w c a len cap v' fs' w7) := HS6.out.grown hg7 hcu7
  clear hcu7 hg7 HS6
  go_wp2_with fail
  refine (l7DrawTime_any c c a len cap zs _ HS7.out.cur (HCD.out _ HS7.out.low) (Nat.le_refl _)).mono ?_
  rintro e w8 ⟨y, rfl, hy0, hy1, hcu8, hg8⟩
  have HS8 : Hid (FtSt w c a len cap v' fs' w8) := HS7.out.grown hg8 hcu8
  clear hcu8 hg8 HS7
  go_wp2_with fail
  refine bodyPost_ret (v := .tuple #[v', .int .i64 x, .int .i64 y]) (by simp [results, Try.results29, go_sem]) rfl ?_
  exact ⟨v', fs', x, y, rfl, owns_base HS8.out.own (by have := HC.out; omega), HS8.out.le, HS8.out.short, hx0, hx1, hy0, hy1, by rw [HC.out]; exact HS8.out.low⟩

set_option maxHeartbeats 1000000 in
theorem drawFresh_any (a : Option Addr) (len cap : Nat) (zs : List Int) (w : World) (hcode : CodeAt w w.heap.size a len zs) :
    Calls Try.prog 11 #[.slice a len cap] w fun e w' => DrawnFT w e w' := by
  go_enter Try.func11, Try.ntmps11
  go_wp2_with fail
  refine (l7Draw_any a len cap zs _ hcode).mono ?_
  rintro e w1 ⟨v, fs, x, y, rfl, hr⟩
  have HR : Hid _ := hr
  clear hr
  go_wp2_with fail
  refine bodyPost_ret (v := .tuple #[v, .int .i64 x, .int .i64 y]) (by simp [results, Try.results11, go_sem]) rfl ?_
  exact ⟨v, fs, x, y, rfl, HR.out⟩

end Go.Proofs.Ytnlifhmobmgpcaa
