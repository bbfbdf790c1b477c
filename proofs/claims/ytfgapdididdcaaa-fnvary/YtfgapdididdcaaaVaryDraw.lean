/- Drawings of chapter 8: contracts over the translation. -/
import Derived.Test.YtfgapdididdcaaaVarySpec
import Derived.Test.YtfgapdididdcaaaAgeDraw
namespace Go.Proofs.Ytfgapdididdcaaa
open Go.RowKit
open Go.Lib hiding intOf

def vrL : List ByteArray := [⟨#[76, 97, 110, 103]⟩, ⟨#[108, 97, 110, 103, 44, 107, 105, 110, 100]⟩, ⟨#[42]⟩, ⟨#[32, 44, 32, 97]⟩, ⟨#[108, 97, 110, 103, 44, 32, 42]⟩]
theorem vrL_short : ∀ j, j < vrL.length → (textAt vrL j).size ≤ 9 := by decide
def nmL : List ByteArray := [⟨#[108, 97, 110, 103]⟩, ⟨#[107, 105, 110, 100]⟩, ⟨#[120, 45, 97]⟩, ⟨#[108, 97, 110, 103]⟩, ⟨#[42]⟩]
theorem nmL_short : ∀ j, j < nmL.length → (textAt nmL j).size ≤ 4 := by decide
def vlL : List ByteArray := [⟨#[100, 101]⟩, ⟨#[45]⟩, ⟨#[113]⟩]
theorem vlL_short : ∀ j, j < vlL.length → (textAt vlL j).size ≤ 2 := by decide

/-- Fields are drawn. -/
def DrawnFv (w : World) (e : Ending) (w' : World) : Prop :=
  ∃ (v : Value) (fs : List (ByteArray × ByteArray)), e = .returned v ∧ w'.ownsRow w.heap.size 64 2 v fs.length (flatF fs) ∧ fs.length ≤ 41 ∧ ShortF fs ∧ Below w.heap.size w w'

set_option maxHeartbeats 2000000 in
set_option maxRecDepth 100000 in
theorem drawVaryOf_any (a : Option Addr) (len cap : Nat) (zs : List Int) (w : World) (hcode : CodeAt w w.heap.size a len zs) :
    Calls Try.prog 13 #[.slice a len cap] w fun e w' => DrawnFv w e w' := by
  obtain ⟨c, hc⟩ : ∃ c, c = w.heap.size := ⟨_, rfl⟩
  have HC : Hid (w.heap.size = c) := hc.symm
  have HCD : Hid (∀ W, Below c w W → CodeAt W c a len zs) := by rw [hc]; exact fun W h => hcode.below h
  go_enter Try.func13, Try.ntmps13
  go_wp2_with fail
  refine (l1New_any w.heap.size a len cap zs _ hcode).mono ?_
  rintro e w1 ⟨rfl, hcu1, hb1⟩
  rw [← hc] at hcu1 hb1 ⊢
  have HB1 : Hid (Below c w w1) := hb1
  have hcl1 := hcu1.lt
  clear hb1 hcode hc
  go_wp2_with fail
  refine (l2Draw_any c c a len cap zs _ hcu1 (HCD.out _ HB1.out) (Nat.le_refl _)).mono ?_
  rintro e w2 ⟨v, fs, rfl, hown, hfl, hsh, hcu2, hg2⟩
  have HS2 : Hid (FtSt w c a len cap v fs w2 ∧ fs.length ≤ 40) := ⟨⟨owns_base hown (by omega), by omega, hsh, hcu2, HB1.out.grown hg2 (by omega) (by intro k hk; cases hk; exact Nat.le_refl _)⟩, hfl⟩
  clear hown hfl hsh hg2 hcu1 hcl1 HB1
  go_wp2_with fail
  refine (l1Once_any c c 2 a len cap zs _ hcu2 (HCD.out _ HS2.out.1.low) (Nat.le_refl _) (by omega) (by omega)).mono ?_
  rintro e w3 ⟨hb, hcu3, hg3⟩
  obtain ⟨b, rfl⟩ := hb.out
  have HS3 : Hid (FtSt w c a len cap v fs w3 ∧ fs.length ≤ 40) := ⟨HS2.out.1.grown hg3 hcu3, HS2.out.2⟩
  clear hb hcu2 hg3 HS2
  cases b with
  | true =>
    go_wp2_with fail
    refine (pick_new c c vrL 9 vrL_short a len cap zs _ hcu3 (HCD.out _ HS3.out.1.low) (Nat.le_refl _) (by decide) (by decide)).mono ?_
    rintro e w4 ⟨t, rfl, hts, hcu4, hg4⟩
    have HS4 : Hid (FtSt w c a len cap v fs w4 ∧ fs.length ≤ 40) := ⟨HS3.out.1.grown hg4 hcu4, HS3.out.2⟩
    clear hg4 hcu3 HS3
    go_wp2_with fail
    refine (specPut_any v fs.length (c + 1) fs varyName t _ (FieldsV.of_owns HS4.out.1.own) (by have := HS4.out.2; omega)).mono ?_
    rintro e w5 ⟨v5, rfl, hown5, b5⟩
    have HS5 : Hid (FtSt w c a len cap v5 (putF fs varyName t) w5) := ⟨owns_base hown5 (by have := HS4.out.1.cur.lt; omega), by have := putL_len fs varyName t; have := HS4.out.2; omega, putL_short HS4.out.1.short (by decide) (by omega), hcu4.below b5 hcu4.lt, HS4.out.1.low.trans (b5.mono (by have := HS4.out.1.cur.lt; omega))⟩
    clear hown5 b5 HS4 hcu4
    go_wp2_with fail
    go_ret
    exact ⟨_, _, rfl, owns_base HS5.out.own (by have := HC.out; omega), HS5.out.le, HS5.out.short, by rw [HC.out]; exact HS5.out.low⟩
  | false =>
    have HS5 : Hid (FtSt w c a len cap v fs w3) := HS3.out.1
    clear HS3 hcu3
    go_wp2_with fail
    go_ret
    exact ⟨_, _, rfl, owns_base HS5.out.own (by have := HC.out; omega), HS5.out.le, HS5.out.short, by rw [HC.out]; exact HS5.out.low⟩

/-- Names are drawn. -/
def NamesDrawn (w : World) (c : Nat) (a : Option Addr) (len cap : Nat) (e : Ending) (w' : World) : Prop :=
  ∃ (v : Value) (xs : List ByteArray), e = .returned v ∧ w'.ownsRow w.heap.size 9 1 v xs.length (xs.map Value.string) ∧ xs.length ≤ 3 ∧ (∀ x ∈ xs, x.size ≤ 4) ∧ CurAt w' c a len cap ∧ w.grownBy w' (some c)

set_option maxHeartbeats 2000000 in
set_option maxRecDepth 100000 in
theorem l8DrawNames_any (c B : Nat) (a : Option Addr) (len cap : Nat) (zs : List Int) (w : World) (hcur : CurAt w c a len cap) (hcode : CodeAt w B a len zs) (hB : B ≤ c) :
    Calls Try.prog 28 #[.pointer (some ⟨c, 0, none⟩)] w fun e w' => NamesDrawn w c a len cap e w' := by
  obtain ⟨i0, hi, hz0, hz1, hz2⟩ := info_parts info9
  have hcw := hcur.lt
  have HCO : Hid (∀ W, w.grownBy W (some c) → CodeAt W B a len zs) := fun W h => hcode.grown h hB
  have H0 : Hid ((w.alloc (Obj.cells #[] 9)).ownsRow w.heap.size 9 1 (.slice (some ⟨w.heap.size, 0, none⟩) 0 0) 0 (([] : List ByteArray).map Value.string)) := ⟨rfl, .inr ⟨w.heap.size, 0, #[], rfl, Nat.le_refl _, heap_alloc_new w _, Nat.le_refl _, Nat.zero_le _, rfl, rfl⟩⟩
  clear hcode
  go_enter Try.func28, Try.ntmps28
  go_wp2_with fail
  go_loopw [3, 4] (fun v i wr => ∃ (k : Nat) (xs : List ByteArray), k ≤ 3 ∧ i = .int .i64 (k : Int) ∧ xs.length = k ∧ Hid (wr.ownsRow w.heap.size 9 1 v xs.length (xs.map Value.string)) ∧ Hid (∀ x ∈ xs, x.size ≤ 4) ∧ CurAt wr c a len cap ∧ Hid (w.grownBy wr (some c))) (fun _ i _ => 3 - (intOf i).toNat)
  case atStart => exact ⟨0, [], Nat.zero_le _, rfl, rfl, H0, (fun x hx => by simp at hx), hcur.below ((Below.refl _ _).alloc (Nat.le_refl _) _) hcw, World.grownBy_alloc w _ _⟩
  case round =>
    obtain ⟨k, xs, hk, rfl, hxl, HO, HSH, hcu, HG⟩ := hrel
    have HXL : Hid (xs.length = k) := hxl
    have hx3 : xs.length ≤ 3 := by omega
    clear hxl
    go_wp2_with fail
    refine (l1Below_any c B 4 a len cap zs _ hcu (HCO.out _ HG.out) hB (by omega) (by omega)).mono ?_
    rintro e w1 ⟨x, rfl, hx0, hx1, hcu1, hg1⟩
    have HO1 : Hid (w1.ownsRow w.heap.size 9 1 u3 xs.length (xs.map Value.string)) := owns_grown HO.out hg1 hcw
    have HG1 : Hid (w.grownBy w1 (some c)) := grownBy_trans HG.out hg1
    clear hcu HO hg1 HG
    by_cases hkx : (k : Int) < x
    · go_wp2_with fail
      refine (pick_new c B nmL 4 nmL_short a len cap zs _ hcu1 (HCO.out _ HG1.out) hB (by decide) (by decide)).mono ?_
      rintro e w2 ⟨t, rfl, hts, hcu2, hg2⟩
      have HO2 : Hid (w2.ownsRow w.heap.size 9 1 u3 xs.length (xs.map Value.string)) := owns_grown HO1.out hg2 hcw
      have HG2 : Hid (w.grownBy w2 (some c)) := grownBy_trans HG1.out hg2
      have h63 : xs.length + 1 ≤ maxLen := by unfold maxLen; omega
      have h47 : (xs.length + 1) * 16 ≤ 140737488355328 := by omega
      have hcl2 := hcu2.lt
      have HBS : ∀ o, w.heap.size ≤ (w2.alloc o).heap.size := fun o => by have := HG2.out.size; simp; omega
      clear hcu1 HO1 HG1 hg2
      go_wp2_with (at_builtin; refine wpList_append_own _ rfl _ _ 24 rfl w.heap.size 9 i0 (.string ⟨#[]⟩) 1 16 Try.underlying24 hi hz0 hz1 hz2 rfl (by decide) _ _ _ rfl (HO2.out.alloc _) ⟨w2.heap.size, 0, none⟩ 1 1 [.string t] rfl rfl (cell_one_new _ _ _) (one_text _) h63 h47 (HBS _) ?_)
      intro v3 w3 hown3 hgrow3 _
      have HG3 : Hid (w.grownBy w3 (some c)) := grown_later (grownBy_allocR HG2.out _) hgrow3 (fun g hg => owns_ge HO2.out hg)
      have hcu3 : CurAt w3 c a len cap := (hcu2.below ((Below.refl _ _).alloc (Nat.le_refl _) _) hcl2).grown hgrow3 (fun e => by have := owns_ge HO2.out e; omega)
      have HO3 : Hid (w3.ownsRow w.heap.size 9 1 v3 (xs ++ [t]).length ((xs ++ [t]).map Value.string)) := by
        show World.ownsRow _ _ _ _ _ _ _
        rw [List.length_append, List.map_append]
        exact hown3
      have HS3 : Hid (∀ x ∈ xs ++ [t], x.size ≤ 4) := by
        intro y hy
        rcases List.mem_append.1 hy with hy | hy
        · exact HSH.out y hy
        · rw [List.mem_singleton.1 hy]; exact hts
      clear hown3 hgrow3 HBS HO2 HG2 hcu2 hcl2
      go_wp2_with fail
      go_roundw
      case rel => exact ⟨k + 1, xs ++ [t], by omega, by go_num, by rw [List.length_append, HXL.out]; rfl, HO3, HS3, hcu3, HG3⟩
      case measure => simp [intOf]; omega
    · go_wp2_with fail
      go_ret
      exact ⟨_, xs, rfl, HO1.out, by omega, HSH.out, hcu1, HG1.out⟩

/-- Names and fields are drawn. -/
def DrawnNF (w : World) (e : Ending) (w' : World) : Prop :=
  ∃ (v1 v2 : Value) (xs : List ByteArray) (fs : List (ByteArray × ByteArray)), e = .returned (.tuple #[v1, v2]) ∧ w'.ownsRow w.heap.size 9 1 v1 xs.length (xs.map Value.string) ∧ xs.length ≤ 3 ∧ w'.ownsRow w.heap.size 64 2 v2 fs.length (flatF fs) ∧ fs.length ≤ 40 ∧ ShortF fs ∧ Below w.heap.size w w'

set_option maxHeartbeats 2000000 in
theorem drawValuesOf_any (a : Option Addr) (len cap : Nat) (zs : List Int) (w : World) (hcode : CodeAt w w.heap.size a len zs) :
    Calls Try.prog 12 #[.slice a len cap] w fun e w' => DrawnNF w e w' := by
  obtain ⟨c, hc⟩ : ∃ c, c = w.heap.size := ⟨_, rfl⟩
  have HC : Hid (w.heap.size = c) := hc.symm
  have HCD : Hid (∀ W, Below c w W → CodeAt W c a len zs) := by rw [hc]; exact fun W h => hcode.below h
  go_enter Try.func12, Try.ntmps12
  go_wp2_with fail
  refine (l1New_any w.heap.size a len cap zs _ hcode).mono ?_
  rintro e w1 ⟨rfl, hcu1, hb1⟩
  rw [← hc] at hcu1 hb1 ⊢
  have HB1 : Hid (Below c w w1) := hb1
  have hcl1 := hcu1.lt
  clear hb1 hcode hc
  go_wp2_with fail
  refine (l8DrawNames_any c c a len cap zs _ hcu1 (HCD.out _ HB1.out) (Nat.le_refl _)).mono ?_
  rintro e w2 ⟨v1, xs, rfl, hown, hxl, _, hcu2, hg2⟩
  have HB2 : Hid (Below c w w2) := HB1.out.grown hg2 (by omega) (by intro k hk; cases hk; exact Nat.le_refl _)
  have HO1 : Hid (w2.ownsRow (c + 1) 9 1 v1 xs.length (xs.map Value.string)) := owns_base hown (by omega)
  have hcl2 := hcu2.lt
  clear hown hg2 hcu1 hcl1 HB1
  go_wp2_with fail
  refine (l2Draw_any c c a len cap zs _ hcu2 (HCD.out _ HB2.out) (Nat.le_refl _)).mono ?_
  rintro e w3 ⟨v2, fs, rfl, hown, hfl, hsh, _, hg3⟩
  have HB3 : Hid (Below c w w3) := HB2.out.grown hg3 (by omega) (by intro k hk; cases hk; exact Nat.le_refl _)
  have HO2 : Hid (w3.ownsRow (c + 1) 9 1 v1 xs.length (xs.map Value.string)) := owns_grown HO1.out hg3 (by omega)
  have HO3 : Hid (w3.ownsRow (c + 1) 64 2 v2 fs.length (flatF fs)) := owns_base hown (by omega)
  have HSH : Hid (ShortF fs) := hsh
  clear hown hg3 hcu2 hcl2 HB2 HO1 hsh
  go_wp2_with fail
  refine bodyPost_ret (v := .tuple #[v1, v2]) (by simp [results, Try.results12, go_sem]) rfl ?_
  exact ⟨v1, v2, xs, fs, rfl, owns_base HO2.out (by have := HC.out; omega), hxl, owns_base HO3.out (by have := HC.out; omega), hfl, HSH.out, by rw [HC.out]; exact HB3.out⟩

/-- Names, values and fields are drawn. -/
def DrawnNVF (w : World) (e : Ending) (w' : World) : Prop :=
  ∃ (v1 v3 v2 : Value) (xs ys : List ByteArray) (fs : List (ByteArray × ByteArray)), e = .returned (.tuple #[v1, v3, v2]) ∧ w'.ownsRow w.heap.size 9 1 v1 xs.length (xs.map Value.string) ∧ xs.length ≤ 3 ∧ w'.ownsRow w.heap.size 9 1 v3 ys.length (ys.map Value.string) ∧ ys.length ≤ 3 ∧ w'.ownsRow w.heap.size 64 2 v2 fs.length (flatF fs) ∧ fs.length ≤ 40 ∧ ShortF fs ∧ Below w.heap.size w w'
/-- While they are drawn. -/
structure NvSt (w : World) (c : Nat) (a : Option Addr) (len cap : Nat) (v1 v2 : Value) (xs : List ByteArray) (fs : List (ByteArray × ByteArray)) (wr : World) : Prop where
  own1 : wr.ownsRow (c + 1) 9 1 v1 xs.length (xs.map Value.string)
  own2 : wr.ownsRow (c + 1) 64 2 v2 fs.length (flatF fs)
  cur : CurAt wr c a len cap
  low : Below c w wr
theorem NvSt.grown {w : World} {c : Nat} {a : Option Addr} {len cap : Nat} {v1 v2 : Value} {xs : List ByteArray} {fs : List (ByteArray × ByteArray)} {wr W : World} (h : NvSt w c a len cap v1 v2 xs fs wr) (hg : wr.grownBy W (some c)) (hcu : CurAt W c a len cap) : NvSt w c a len cap v1 v2 xs fs W :=
  ⟨owns_grown h.own1 hg (by omega), owns_grown h.own2 hg (by omega), hcu, h.low.grown hg (by have := h.cur.lt; omega) (by intro k hk; cases hk; exact Nat.le_refl _)⟩
theorem NvSt.below {w : World} {c : Nat} {a : Option Addr} {len cap : Nat} {v1 v2 : Value} {xs : List ByteArray} {fs : List (ByteArray × ByteArray)} {wr W : World} (h : NvSt w c a len cap v1 v2 xs fs wr) {W0 : World} (hb : Below wr.heap.size wr W0) (hb2 : Below wr.heap.size W0 W) : NvSt w c a len cap v1 v2 xs fs W :=
  have hb' := hb.trans hb2
  ⟨owns_same h.own1 (fun j hj => hb'.block j (own_ltR h.own1 hj).2), owns_same h.own2 (fun j hj => hb'.block j (own_ltR h.own2 hj).2), h.cur.below hb' h.cur.lt, h.low.trans (hb'.mono (by have := h.cur.lt; omega))⟩

set_option maxHeartbeats 2000000 in
set_option maxRecDepth 100000 in
theorem drawSuits_any (a : Option Addr) (len cap : Nat) (zs : List Int) (w : World) (hcode : CodeAt w w.heap.size a len zs) :
    Calls Try.prog 8 #[.slice a len cap] w fun e w' => DrawnNVF w e w' := by
  obtain ⟨c, hc⟩ : ∃ c, c = w.heap.size := ⟨_, rfl⟩
  have HC : Hid (w.heap.size = c) := hc.symm
  have HCD : Hid (∀ W, Below c w W → CodeAt W c a len zs) := by rw [hc]; exact fun W h => hcode.below h
  go_enter Try.func8, Try.ntmps8
  go_wp2_with fail
  refine (l1New_any w.heap.size a len cap zs _ hcode).mono ?_
  rintro e w1 ⟨rfl, hcu1, hb1⟩
  rw [← hc] at hcu1 hb1 ⊢
  have HB1 : Hid (Below c w w1) := hb1
  have hcl1 := hcu1.lt
  clear hb1 hcode hc
  go_wp2_with fail
  refine (l8DrawNames_any c c a len cap zs _ hcu1 (HCD.out _ HB1.out) (Nat.le_refl _)).mono ?_
  rintro e w2 ⟨v1, xs, rfl, hown, hxl, _, hcu2, hg2⟩
  have HB2 : Hid (Below c w w2) := HB1.out.grown hg2 (by omega) (by intro k hk; cases hk; exact Nat.le_refl _)
  have HO1 : Hid (w2.ownsRow (c + 1) 9 1 v1 xs.length (xs.map Value.string)) := owns_base hown (by omega)
  have hcl2 := hcu2.lt
  clear hown hg2 hcu1 hcl1 HB1
  go_wp2_with fail
  refine (l2Draw_any c c a len cap zs _ hcu2 (HCD.out _ HB2.out) (Nat.le_refl _)).mono ?_
  rintro e w3 ⟨v2, fs, rfl, hown, hfl, hsh, hcu3, hg3⟩
  have HS3 : Hid (NvSt w c a len cap v1 v2 xs fs w3) := ⟨owns_grown HO1.out hg3 (by omega), owns_base hown (by omega), hcu3, HB2.out.grown hg3 (by omega) (by intro k hk; cases hk; exact Nat.le_refl _)⟩
  have HSH : Hid (ShortF fs) := hsh
  clear hown hg3 hcu2 hcl2 HB2 HO1 hsh hcu3
  obtain ⟨oa, ca, hv1, hx⟩ := texts_own HS3.out.own1
  have HV1 : Hid (v1 = .slice oa xs.length ca) := hv1
  have HX : Hid (TextsA w3 oa xs.length xs) := hx
  clear hv1 hx
  go_wp2_with fail
  rw [HV1.out]
  refine (specValuesOf_any oa xs.length ca xs v2 fs.length (c + 1) fs _ HX.out (by omega) (FieldsV.of_owns HS3.out.own2) (by omega)).mono ?_
  rw [← HV1.out]
  rintro e w4 ⟨v3, rfl, O3, b4⟩
  rw [valsP_len] at O3
  obtain ⟨ys, hys⟩ : ∃ ys, ys = valsP xs fs := ⟨_, rfl⟩
  have hyl : ys.length = xs.length := by rw [hys, valsP_len]
  rw [← hys, ← hyl] at O3
  have hy3 : ys.length ≤ 3 := by omega
  clear hyl
  have HS4 : Hid (NvSt w c a len cap v1 v2 xs fs w4) := HS3.out.below b4 (Below.refl _ _)
  have hcl3 := HS3.out.cur.lt
  have HO3 : Hid (w4.ownsRow (c + 1) 9 1 v3 ys.length (ys.map Value.string)) := owns_base O3 (by omega)
  have HFR : Hid (∀ g, v3.ownBlock = some g → w3.heap.size ≤ g) := fun g hg => owns_ge O3 hg
  have HB34 : Hid (Below w3.heap.size w3 w4) := b4
  clear O3 b4 hys HX HV1
  go_wp2_with fail
  refine (l1Once_any c c 3 a len cap zs _ HS4.out.cur (HCD.out _ HS4.out.low) (Nat.le_refl _) (by omega) (by omega)).mono ?_
  rintro e w5 ⟨hb, hcu5, hg5⟩
  obtain ⟨b, rfl⟩ := hb.out
  have HS5 : Hid (NvSt w c a len cap v1 v2 xs fs w5) := HS4.out.grown hg5 hcu5
  have HO5 : Hid (w5.ownsRow (c + 1) 9 1 v3 ys.length (ys.map Value.string)) := owns_grown HO3.out hg5 (by omega)
  have hs45 : w4.heap.size ≤ w5.heap.size := hg5.size
  clear hb hg5 HS4 HO3
  have HDONE : Hid (∀ (W : World) (ys' : List ByteArray), NvSt w c a len cap v1 v2 xs fs W → W.ownsRow (c + 1) 9 1 v3 ys'.length (ys'.map Value.string) → ys'.length ≤ 3 → DrawnNVF w (.returned (.tuple #[v1, v3, v2])) W) := fun W ys' h1 h2 h3 => ⟨v1, v3, v2, xs, ys', fs, rfl, owns_base h1.own1 (by have := HC.out; omega), hxl, owns_base h2 (by have := HC.out; omega), h3, owns_base h1.own2 (by have := HC.out; omega), hfl, HSH.out, by rw [HC.out]; exact h1.low⟩
  rcases row_form HO5.out with ⟨oy, cy, rfl, h0, h1⟩ | ⟨g, cy, rfl, hp, r⟩
  · have HR : Hid (DrawnNVF w (.returned (.tuple #[v1, .slice oy 0 cy, v2])) w5) := HDONE.out w5 ys HS5.out HO5.out (by omega)
    clear HS5 HO5 HDONE hcu5 HFR
    cases b <;>
    · go_wp2_with fail
      refine bodyPost_ret (v := .tuple #[v1, .slice oy 0 cy, v2]) (by simp [results, Try.results8, go_sem]) rfl ?_
      exact HR.out
  · cases b with
    | false =>
      have HR : Hid (DrawnNVF w (.returned (.tuple #[v1, .slice (some ⟨g, 0, none⟩) ys.length cy, v2])) w5) := HDONE.out w5 ys HS5.out HO5.out (by omega)
      clear HS5 HO5 HDONE hcu5 HFR r
      go_wp2_with fail
      refine bodyPost_ret (v := .tuple #[v1, .slice (some ⟨g, 0, none⟩) ys.length cy, v2]) (by simp [results, Try.results8, go_sem]) rfl ?_
      exact HR.out
    | true =>
      have HRW : Hid (TextRow (c + 1) w5 g ys.length cy ys) := r
      have hgc : c + 1 ≤ g := r.base
      have hp2 : (0 : Int) < (ys.length : Int) := by omega
      clear r HO5
      go_wp2_with fail
      refine (pick_new c c vlL 2 vlL_short a len cap zs _ hcu5 (HCD.out _ HS5.out.low) (Nat.le_refl _) (by decide) (by decide)).mono ?_
      rintro e w6 ⟨t, rfl, hts, hcu6, hg6⟩
      have HS6 : Hid (NvSt w c a len cap v1 v2 xs fs w6) := HS5.out.grown hg6 hcu6
      have hr6 : TextRow (c + 1) w6 g ys.length cy ys := by
        have h := owns_grown HRW.out.owns hg6 (by omega)
        rcases row_form h with ⟨_, _, he, h0, _⟩ | ⟨g', cy', he, _, r'⟩
        · omega
        · cases he; exact r'
      have hc6 := hr6.cell 0 hp
      have hf6 := hr6.frozen 0
      have HRW6 : Hid (TextRow (c + 1) (w6.setCell ⟨g, 0, none⟩ (.string t)) g ys.length cy (ys.set 0 t)) := hr6.set 0 hp t
      have HS7 : Hid (NvSt w c a len cap v1 v2 xs fs (w6.setCell ⟨g, 0, none⟩ (.string t))) := by
        have hb : Below w3.heap.size w6 (w6.setCell ⟨g, 0, none⟩ (.string t)) := (Below.refl _ _).setCell (HFR.out g rfl) _
        exact ⟨owns_same HS6.out.own1 (fun j hj => hb.block j (own_ltR HS3.out.own1 hj).2), owns_same HS6.out.own2 (fun j hj => hb.block j (own_ltR HS3.out.own2 hj).2), HS6.out.cur.below hb hcl3, HS6.out.low.trans (hb.mono (by omega))⟩
      have HR : Hid (DrawnNVF w (.returned (.tuple #[v1, .slice (some ⟨g, 0, none⟩) ys.length cy, v2])) (w6.setCell ⟨g, 0, none⟩ (.string t))) := by
        refine HDONE.out _ (ys.set 0 t) HS7.out ?_ (by rw [List.length_set]; omega)
        rw [List.length_set]
        exact HRW6.out.owns
      clear HS5 HS6 HS7 HRW HRW6 HDONE hcu5 hcu6 hg6 HFR hr6
      go_wp2_with fail
      refine bodyPost_ret (v := .tuple #[v1, .slice (some ⟨g, 0, none⟩) ys.length cy, v2]) (by simp [results, Try.results8, go_sem]) rfl ?_
      exact HR.out

end Go.Proofs.Ytfgapdididdcaaa
