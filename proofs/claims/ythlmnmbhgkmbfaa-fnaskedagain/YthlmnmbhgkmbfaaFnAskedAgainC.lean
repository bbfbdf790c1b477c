/- What the proof of FnAskedAgain leans on: contracts of the program's and the specification's functions, and plain facts (part 3 of 3). -/
import Derived.Test.YthlmnmbhgkmbfaaFnAskedAgainB
namespace Go.Proofs.Ythlmnmbhgkmbfaa
open Go.RowKit
open Go.Lib hiding intOf

/-- Fields of short texts. -/
def ShortF (fs : List (ByteArray × ByteArray)) : Prop := ∀ f ∈ fs, f.1.size ≤ 64 ∧ f.2.size ≤ 64
theorem ShortF.snoc {fs : List (ByteArray × ByteArray)} {nm vl : ByteArray} (h : ShortF fs) (h1 : nm.size ≤ 64) (h2 : vl.size ≤ 64) : ShortF (fs ++ [(nm, vl)]) := by
  intro f hf
  rcases List.mem_append.1 hf with hf | hf
  · exact h f hf
  · simp at hf; subst hf; exact ⟨h1, h2⟩
/-- A call on the cursor answers a list of at most m fields of short texts, in memory of its own, and turns the cursor alone of what was there. -/
def FieldsDrawn (m : Nat) (w : World) (c : Nat) (a : Option Addr) (len cap : Nat) (e : Ending) (w' : World) : Prop :=
  ∃ (v : Value) (fs : List (ByteArray × ByteArray)), e = .returned v ∧ w'.ownsRow w.heap.size 68 2 v fs.length (flatF fs) ∧ fs.length ≤ m ∧ ShortF fs ∧ CurAt w' c a len cap ∧ w.grownBy w' (some c)

set_option maxHeartbeats 2000000 in
set_option maxRecDepth 100000 in
theorem l2DrawRight_any (c B : Nat) (a : Option Addr) (len cap : Nat) (zs : List Int) (w : World) (hcur : CurAt w c a len cap) (hcode : CodeAt w B a len zs) (hB : B ≤ c) :
    Calls Try.prog 105 #[.pointer (some ⟨c, 0, none⟩)] w fun e w' => FieldsDrawn 5 w c a len cap e w' := by
  obtain ⟨i0, hi, hz0, hz1, hz2⟩ := info_parts info33
  have hcw := hcur.lt
  go_enter Try.func105, Try.ntmps105
  go_wp2
  go_loopw [3, 4] (fun v i wr => ∃ (k : Nat) (fs : List (ByteArray × ByteArray)), k ≤ 5 ∧ i = .int .i64 (k : Int) ∧ wr.ownsRow w.heap.size 68 2 v fs.length (flatF fs) ∧ fs.length ≤ k ∧ Hid (ShortF fs) ∧ CurAt wr c a len cap ∧ w.grownBy wr (some c)) (fun _ i _ => 5 - (intOf i).toNat)
  case atStart => exact ⟨0, [], Nat.zero_le _, rfl, ⟨rfl, .inr ⟨w.heap.size, 0, #[], rfl, Nat.le_refl _, heap_alloc_new w _, Nat.le_refl _, Nat.zero_le _, rfl, rfl⟩⟩, Nat.le_refl _, (fun f hf => by simp at hf), hcur.below ((Below.refl _ _).alloc (Nat.le_refl _) _) hcw, World.grownBy_alloc w _ _⟩
  case round =>
    obtain ⟨k, fs, hk, rfl, hown, hfl, hsh, hcu, hgw⟩ := hrel
    go_wp2_with fail
    refine (l1Below_any c B 5 a len cap zs _ hcu (hcode.grown hgw hB) hB (by omega) (by omega)).mono ?_
    rintro e w1 ⟨x, rfl, hx0, hx1, hcu1, hg1⟩
    have hown1 := owns_grown hown hg1 hcw
    have hgw1 := grownBy_trans hgw hg1
    clear hcu hown hg1 hgw
    by_cases hkx : (k : Int) < x
    · go_wp2_with fail
      refine (l2DrawField_any c B a len cap zs _ hcu1 (hcode.grown hgw1 hB) hB).mono ?_
      rintro e w2 ⟨nm, vl, rfl, hnm, hvl, hcu2, hg2⟩
      have hown2 := owns_grown hown1 hg2 hcw
      have hgw2 := grownBy_trans hgw1 hg2
      clear hcu1 hown1 hg2 hgw1
      go_wp2_with fail
      have hown3 := hown2.alloc (.cells #[.string nm, .string vl] 68)
      have hgw3 := grownBy_allocR hgw2 (.cells #[.string nm, .string vl] 68)
      have hcl2 := hcu2.lt
      have hcu3 := hcu2.below ((Below.refl _ _).alloc (Nat.le_refl _) (.cells #[.string nm, .string vl] 68)) hcl2
      have hc0 : (w2.alloc (.cells #[.string nm, .string vl] 68)).cell? ⟨w2.heap.size, 0, none⟩ = some (.string nm) := by rw [World.cell?_alloc_new]; rfl
      have hc1 : (w2.alloc (.cells #[.string nm, .string vl] 68)).cell? ⟨w2.heap.size, 1, none⟩ = some (.string vl) := by rw [World.cell?_alloc_new]; rfl
      have hs3 : w2.heap.size < (w2.alloc (.cells #[.string nm, .string vl] 68)).heap.size := by simp
      obtain ⟨r, hr⟩ : ∃ r, r = w2.heap.size := ⟨_, rfl⟩
      refine (l2At_any u3 fs.length w.heap.size fs nm _ (FieldsV.of_owns hown3) (by omega)).mono ?_
      rintro e w3 ⟨rfl, hw3⟩
      rw [← hw3] at hown3 hgw3 hcu3 hc0 hc1 hs3
      rw [← hr] at hc0 hc1 hs3
      rw [← hr]
      clear hown2 hgw2 hcu2 hw3 hr hcl2
      by_cases hin : atF fs nm < fs.length
      · have hI : Hid (atI fs nm = (atF fs nm : Int)) := by show _ = _; unfold atI; rw [if_pos hin]
        rw [hI.out]
        obtain ⟨p, hp⟩ : ∃ p, p = atF fs nm := ⟨_, rfl⟩
        rw [← hp]
        have hp0 : ¬ (p : Int) < 0 := by omega
        clear hI hin hp
        go_wp2
        go_roundw
        case rel => exact ⟨k + 1, fs, by omega, by go_num, hown3, by omega, hsh, hcu3, hgw3⟩
        case measure => simp [intOf]; omega
      · have hI : Hid (atI fs nm = -1) := by show _ = _; unfold atI; rw [if_neg hin]
        rw [hI.out]
        clear hI hin
        have h63 : fs.length + 1 ≤ maxLen := by unfold maxLen; omega
        have h47 : (fs.length + 1) * 32 ≤ 140737488355328 := by omega
        have hsw3 := hgw3.size
        have hcl3 := hcu3.lt
        have HBS : ∀ o, w.heap.size ≤ (w3.alloc o).heap.size := fun o => by simp; omega
        go_wp2_with (at_builtin; refine wpList_append_own _ rfl _ _ 24 rfl w.heap.size 68 i0 (.agg #[.string ⟨#[]⟩, .string ⟨#[]⟩]) 2 32 Try.underlying24 hi hz0 hz1 hz2 rfl (by decide) _ _ _ rfl (hown3.alloc _) ⟨w3.heap.size, 0, none⟩ 1 1 [.string nm, .string vl] rfl rfl (cell_two_new _ _ _ _) (two_text _ _) h63 h47 (HBS _) ?_)
        intro v1 w5 hown5 hgrow _
        have hgw5 : w.grownBy w5 (some c) := grown_later (grownBy_allocR hgw3 _) hgrow (fun g hg => owns_ge hown3 hg)
        have hcu5 : CurAt w5 c a len cap := (hcu3.below ((Below.refl _ _).alloc (Nat.le_refl _) _) hcl3).grown hgrow (fun e => by have := owns_ge hown3 e; omega)
        have hsh5 : Hid (ShortF (fs ++ [(nm, vl)])) := hsh.out.snoc hnm hvl
        clear hgrow hown3 hcu3 hgw3 HBS hc0 hc1
        go_wp2
        go_roundw
        case rel => exact ⟨k + 1, fs ++ [(nm, vl)], by omega, by go_num, by rw [flatF_append, flatF_one]; simpa using hown5, by simp; omega, hsh5, hcu5, hgw5⟩
        case measure => simp [intOf]; omega
    · go_wp2
      go_ret
      exact ⟨_, fs, rfl, hown1, by omega, hsh.out, hcu1, hgw1⟩

theorem owns_slice {w : World} {base : Nat} {t : TypeId} {size : Nat} {v : Value} {n : Nat} {xs : List Value} (h : w.ownsRow base t size v n xs) : ∃ oa cp, v = .slice oa n cp := by
  rcases h.2 with ⟨rfl, rfl⟩ | ⟨g, cap, cur, rfl, _⟩
  · exact ⟨none, 0, rfl⟩
  · exact ⟨_, _, rfl⟩
theorem grown_of_below {w w' : World} (hb : Below w.heap.size w w') : w.grownBy w' none := ⟨hb.os, hb.tape, hb.output, hb.size, fun k hk _ => hb.block k hk⟩
theorem numText_short : ∀ k, k ≤ 9 → (numText k).size ≤ 20 := by decide
def lenOf : Value → Nat
  | .slice _ n _ => n
  | _ => 0
theorem cell_four_new (w : World) (a b c d : Value) (t : TypeId) : ∀ j u, [a, b, c, d][j]? = some u → (w.alloc (.cells #[a, b, c, d] t)).cell? ((⟨w.heap.size, 0, none⟩ : Addr).add j) = some u := by
  intro j u h
  have e : (⟨w.heap.size, 0, none⟩ : Addr).add j = ⟨w.heap.size, j, none⟩ := by
    unfold Addr.add; split <;> simp_all
  rw [e, World.cell?_alloc_new]
  match j, h with
  | 0, h => simpa using h
  | 1, h => simpa using h
  | 2, h => simpa using h
  | 3, h => simpa using h
  | k + 4, h => simp at h
theorem four_text (a b c d : ByteArray) : ∀ u ∈ [Value.string a, Value.string b, Value.string c, Value.string d], u.oneCell' = true := by
  intro u hu
  simp at hu
  rcases hu with rfl | rfl | rfl | rfl <;> rfl

set_option maxHeartbeats 2000000 in
set_option maxRecDepth 100000 in
theorem l2Draw_any (c B : Nat) (a : Option Addr) (len cap : Nat) (zs : List Int) (w : World) (hcur : CurAt w c a len cap) (hcode : CodeAt w B a len zs) (hB : B ≤ c) :
    Calls Try.prog 85 #[.pointer (some ⟨c, 0, none⟩)] w fun e w' => FieldsDrawn 40 w c a len cap e w' := by
  obtain ⟨i0, hi, hz0, hz1, hz2⟩ := info_parts info33
  have hcw := hcur.lt
  go_enter Try.func85, Try.ntmps85
  go_wp2_with fail
  refine (l2DrawRight_any c B a len cap zs _ hcur hcode hB).mono ?_
  rintro e w1 ⟨v, fs, rfl, hown1, hfl, hsh, hcu1, hgw1⟩
  have HSH : Hid (ShortF fs) := hsh
  clear hsh
  go_wp2_with fail
  refine (l1Below_any c B 15 a len cap zs _ hcu1 (hcode.grown hgw1 hB) hB (by omega) (by omega)).mono ?_
  rintro e w2 ⟨x, rfl, hx0, hx1, hcu2, hg2⟩
  have hown2 := owns_grown hown1 hg2 hcw
  have hgw2 := grownBy_trans hgw1 hg2
  clear hcu1 hown1 hg2 hgw1
  by_cases h0 : x = 0
  · subst h0
    go_wp2_with fail
    refine (l2DrawField_any c B a len cap zs _ hcu2 (hcode.grown hgw2 hB) hB).mono ?_
    rintro e w3 ⟨nm, vl, rfl, hnm, hvl, hcu3, hg3⟩
    have hown3 := owns_grown hown2 hg3 hcw
    have hgw3 := grownBy_trans hgw2 hg3
    clear hcu2 hown2 hg3 hgw2
    go_wp2_with fail
    refine (l2DrawField_any c B a len cap zs _ hcu3 (hcode.grown hgw3 hB) hB).mono ?_
    rintro e w4 ⟨nm2, vl2, rfl, hnm2, hvl2, hcu4, hg4⟩
    have hown4 := owns_grown hown3 hg4 hcw
    have hgw4 := grownBy_trans hgw3 hg4
    clear hcu3 hown3 hg4 hgw3
    have h63 : fs.length + 2 ≤ maxLen := by unfold maxLen; omega
    have h47 : (fs.length + 2) * 32 ≤ 140737488355328 := by omega
    have hsw4 := hgw4.size
    have hcl4 := hcu4.lt
    have HBS : ∀ o, w.heap.size ≤ (w4.alloc o).heap.size := fun o => by simp; omega
    go_wp2_with (at_builtin; refine wpList_append_own _ rfl _ _ 24 rfl w.heap.size 68 i0 (.agg #[.string ⟨#[]⟩, .string ⟨#[]⟩]) 2 32 Try.underlying24 hi hz0 hz1 hz2 rfl (by decide) _ _ _ rfl (hown4.alloc _) ⟨w4.heap.size, 0, none⟩ 2 2 [.string nm, .string vl, .string nm2, .string vl2] rfl rfl (cell_four_new _ _ _ _ _ _) (four_text _ _ _ _) h63 h47 (HBS _) ?_)
    intro v1 w5 hown5 hgrow _
    have hgw5 : w.grownBy w5 (some c) := grown_later (grownBy_allocR hgw4 _) hgrow (fun g hg => owns_ge hown4 hg)
    have hcu5 : CurAt w5 c a len cap := (hcu4.below ((Below.refl _ _).alloc (Nat.le_refl _) _) hcl4).grown hgrow (fun e => by have := owns_ge hown4 e; omega)
    clear hgrow hown4 hcu4 hgw4 HBS
    go_wp2
    go_ret
    exact ⟨_, (fs ++ [(nm, vl)]) ++ [(nm2, vl2)], rfl, by rw [flatF_append, flatF_append, flatF_one, flatF_one]; simpa using hown5, by simp; omega, (HSH.out.snoc hnm hvl).snoc hnm2 hvl2, hcu5, hgw5⟩
  by_cases h1 : x = 1
  · subst h1
    go_wp2_with fail
    refine (pick_new c B [⟨#[]⟩, ⟨#[65]⟩, ⟨#[99, 111, 110, 116, 101, 110, 116, 45, 108, 101, 110, 103, 116, 104]⟩] 64 (by decide) a len cap zs w2 hcu2 (hcode.grown hgw2 hB) hB (by decide) (by decide)).mono ?_
    rintro e w3 ⟨nm, rfl, hnm, hcu3, hg3⟩
    have hown3 := owns_grown hown2 hg3 hcw
    have hgw3 := grownBy_trans hgw2 hg3
    clear hcu2 hown2 hg3 hgw2
    go_wp2_with fail
    refine (pick_new c B [⟨#[]⟩, ⟨#[32, 97]⟩, ⟨#[49]⟩] 64 (by decide) a len cap zs w3 hcu3 (hcode.grown hgw3 hB) hB (by decide) (by decide)).mono ?_
    rintro e w4 ⟨vl, rfl, hvl, hcu4, hg4⟩
    have hown4 := owns_grown hown3 hg4 hcw
    have hgw4 := grownBy_trans hgw3 hg4
    clear hcu3 hown3 hg4 hgw3
    have h63 : fs.length + 1 ≤ maxLen := by unfold maxLen; omega
    have h47 : (fs.length + 1) * 32 ≤ 140737488355328 := by omega
    have hsw4 := hgw4.size
    have hcl4 := hcu4.lt
    have HBS : ∀ o, w.heap.size ≤ (w4.alloc o).heap.size := fun o => by simp; omega
    go_wp2_with (at_builtin; refine wpList_append_own _ rfl _ _ 24 rfl w.heap.size 68 i0 (.agg #[.string ⟨#[]⟩, .string ⟨#[]⟩]) 2 32 Try.underlying24 hi hz0 hz1 hz2 rfl (by decide) _ _ _ rfl (hown4.alloc _) ⟨w4.heap.size, 0, none⟩ 1 1 [.string nm, .string vl] rfl rfl (cell_two_new _ _ _ _) (two_text _ _) h63 h47 (HBS _) ?_)
    intro v1 w5 hown5 hgrow _
    have hgw5 : w.grownBy w5 (some c) := grown_later (grownBy_allocR hgw4 _) hgrow (fun g hg => owns_ge hown4 hg)
    have hcu5 : CurAt w5 c a len cap := (hcu4.below ((Below.refl _ _).alloc (Nat.le_refl _) _) hcl4).grown hgrow (fun e => by have := owns_ge hown4 e; omega)
    clear hgrow hown4 hcu4 hgw4 HBS
    go_wp2
    go_ret
    exact ⟨_, fs ++ [(nm, vl)], rfl, by rw [flatF_append, flatF_one]; simpa using hown5, by simp; omega, HSH.out.snoc hnm hvl, hcu5, hgw5⟩
  by_cases h2 : x = 2
  · subst h2
    clear h0 h1
    go_wp2
    obtain ⟨oa, cp, rfl⟩ := owns_slice hown2
    go_loopw [3] (fun v wr => ∃ (oa : Option Addr) (cp : Nat) (fs : List (ByteArray × ByteArray)), v = .slice oa fs.length cp ∧ wr.ownsRow w.heap.size 68 2 (.slice oa fs.length cp) fs.length (flatF fs) ∧ fs.length ≤ 9 ∧ Hid (ShortF fs) ∧ CurAt wr c a len cap ∧ w.grownBy wr (some c)) (fun v _ => 9 - lenOf v)
    case atStart => exact ⟨oa, cp, fs, rfl, hown2, by omega, HSH, hcu2, hgw2⟩
    case round =>
      obtain ⟨oa, cp, fs, rfl, hown, hfl, hsh, hcu, hgw⟩ := hrel
      go_wp2_with fail
      refine (l1Below_any c B 2 a len cap zs _ hcu (hcode.grown hgw hB) hB (by omega) (by omega)).mono ?_
      rintro e w3 ⟨x, rfl, hx0, hx1, hcu3, hg3⟩
      have hown3 := owns_grown hown hg3 hcw
      have hgw3 := grownBy_trans hgw hg3
      clear hcu hown hg3 hgw
      by_cases hlt : (fs.length : Int) < 8 + x
      · go_wp2_with fail
        refine (specNumText_any fs.length _ (by omega)).mono ?_
        rintro e w4 ⟨rfl, hb4⟩
        obtain ⟨nt, hnt⟩ : ∃ nt, nt = numText fs.length := ⟨_, rfl⟩
        have hns : nt.size ≤ 20 := by rw [hnt]; exact numText_short _ (by omega)
        rw [← hnt]
        clear hnt
        have hown4 := owns_below hown3 hb4 (fun g hg => owns_lt hown3 hg)
        have hgw4 : w.grownBy w4 (some c) := grown_later hgw3 (grown_of_below hb4) (fun g e => by cases e)
        have hcu4 := hcu3.below hb4 hcu3.lt
        clear hown3 hgw3 hcu3 hb4
        obtain ⟨nm, hnm⟩ : ∃ nm, nm = (⟨#[110]⟩ : ByteArray) ++ nt := ⟨_, rfl⟩
        have hnz : nm.size ≤ 64 := by rw [hnm, ByteArray.size_append]; show 1 + nt.size ≤ 64; omega
        have hbig : ¬ 9223372036854775807 < 1 + nt.size := by omega
        have h63 : fs.length + 1 ≤ maxLen := by unfold maxLen; omega
        have h47 : (fs.length + 1) * 32 ≤ 140737488355328 := by omega
        have hsw4 := hgw4.size
        have hcl4 := hcu4.lt
        have HBS : ∀ o, w.heap.size ≤ (w4.alloc o).heap.size := fun o => by simp; omega
        have HNM : Hid (nm = (⟨#[110]⟩ : ByteArray) ++ nt) := hnm
        clear hnm
        go_wp2_with (at_builtin; rw [← HNM.out]; refine wpList_append_own _ rfl _ _ 24 rfl w.heap.size 68 i0 (.agg #[.string ⟨#[]⟩, .string ⟨#[]⟩]) 2 32 Try.underlying24 hi hz0 hz1 hz2 rfl (by decide) _ _ _ rfl (hown4.alloc _) ⟨w4.heap.size, 0, none⟩ 1 1 [.string nm, .string ⟨#[118]⟩] rfl rfl (cell_two_new _ _ _ _) (two_text _ _) h63 h47 (HBS _) ?_)
        intro v1 w5 hown5 hgrow _
        have hgw5 : w.grownBy w5 (some c) := grown_later (grownBy_allocR hgw4 _) hgrow (fun g hg => owns_ge hown4 hg)
        have hcu5 : CurAt w5 c a len cap := (hcu4.below ((Below.refl _ _).alloc (Nat.le_refl _) _) hcl4).grown hgrow (fun e => by have := owns_ge hown4 e; omega)
        clear hgrow hown4 hcu4 hgw4 HBS
        obtain ⟨oa1, cp1, rfl⟩ := owns_slice hown5
        go_wp2
        go_roundw
        case rel => exact ⟨oa1, cp1, fs ++ [(nm, ⟨#[118]⟩)], by simp, by rw [flatF_append, flatF_one]; simpa using hown5, by simp; omega, hsh.out.snoc hnz (by decide), hcu5, hgw5⟩
        case measure => simp [lenOf]; omega
      · go_wp2
        go_ret
        exact ⟨_, fs, rfl, hown3, by omega, hsh.out, hcu3, hgw3⟩
  · have e0 : (x == 0) = false := by simpa using h0
    have e1 : (x == 1) = false := by simpa using h1
    have e2 : (x == 2) = false := by simpa using h2
    clear h0 h1 h2
    go_wp2
    go_ret
    exact ⟨_, fs, rfl, hown2, by omega, HSH.out, hcu2, hgw2⟩

end Go.Proofs.Ythlmnmbhgkmbfaa

namespace Go.Proofs.Ythlmnmbhgkmbfaa
open Go.RowKit
open Go.Lib hiding intOf

set_option maxHeartbeats 1000000 in
theorem sameFields_any (v1 v2 : Value) (n b1 b2 : Nat) (fs : List (ByteArray × ByteArray)) (w : World) (h1 : FieldsV w b1 v1 n fs) (h2 : FieldsV w b2 v2 n fs) (hn : n ≤ 2000000) :
    Calls Try.prog 12 #[v1, v2] w fun e w' => e = .returned (.bool true) ∧ Below w.heap.size w w' := by
  obtain ⟨oa, ca, rfl, hr1⟩ := h1.slice
  obtain ⟨ob, cb, rfl, hr2⟩ := h2.slice
  have H1 : Hid (∀ k, k < n → ∃ g, oa = some ⟨g, 0, none⟩ ∧ FieldRow b1 w g n ca fs) := hr1
  have H2 : Hid (∀ k, k < n → ∃ g, ob = some ⟨g, 0, none⟩ ∧ FieldRow b2 w g n cb fs) := hr2
  clear h1 h2 hr1 hr2
  go_enter Try.func12, Try.ntmps12
  go_wp2
  go_loopw [5] (fun i wr => ∃ k : Nat, k ≤ n ∧ i = .int .i64 (k : Int) ∧ Below w.heap.size w wr) (fun i _ => n - (intOf i).toNat)
  case atStart => exact ⟨0, Nat.zero_le _, rfl, Below.refl _ _⟩
  case round =>
    obtain ⟨k, hk, rfl, hbw⟩ := hrel
    by_cases hlt : k < n
    · have hlt2 : (k : Int) < (n : Int) := by omega
      obtain ⟨g1, rfl, r1⟩ := H1.out k hlt
      obtain ⟨g2, rfl, r2⟩ := H2.out k hlt
      have ha := (r1.below hbw r1.lt).name k hlt
      have hb := (r1.below hbw r1.lt).val k hlt
      have hc := (r2.below hbw r2.lt).name k hlt
      have hd := (r2.below hbw r2.lt).val k hlt
      obtain ⟨nm, hnm⟩ : ∃ y, y = nameAt fs k := ⟨_, rfl⟩
      obtain ⟨vl, hvl⟩ : ∃ y, y = valAt fs k := ⟨_, rfl⟩
      rw [← hnm] at ha hc
      rw [← hvl] at hb hd
      clear r1 r2 hnm hvl
      have t1 : (nm.toList == nm.toList) = true := by simp
      have t2 : (vl.toList == vl.toList) = true := by simp
      go_wp2
      go_quiet (fail)
      go_wp2
      go_roundw
      case rel => exact ⟨k + 1, by omega, by go_num, below_drewN hbw _⟩
      case measure => simp [intOf]; omega
    · go_wp2
      go_ret
      exact ⟨rfl, hbw⟩

theorem atF_append (fs : List (ByteArray × ByteArray)) (name value x : ByteArray) (h : atF fs name = fs.length) : atF (fs ++ [(name, value)]) x = (if x = name then fs.length else if atF fs x < fs.length then atF fs x else fs.length + 1) := by
  induction fs with
  | nil =>
    simp only [List.nil_append, atF, List.length_nil]
    by_cases e : x = name
    · rw [if_pos e.symm, if_pos e]
    · rw [if_neg (fun h => e h.symm), if_neg e]
      simp
  | cons f r ih =>
    have hne : f.1 ≠ name := fun e => by rw [atF, if_pos e] at h; simp at h
    have hr : atF r name = r.length := by rw [atF, if_neg hne] at h; simpa using h
    have ih := ih hr
    rw [List.cons_append, atF, ih, atF]
    by_cases e : f.1 = x
    · rw [if_pos e, if_pos e]
      subst e
      rw [if_neg hne, if_pos (by simp)]
    · rw [if_neg e, if_neg e]
      by_cases e2 : x = name
      · rw [if_pos e2, if_pos e2]; simp
      · rw [if_neg e2, if_neg e2]
        by_cases c : atF r x < r.length
        · rw [if_pos c, if_pos (by simp; omega)]
        · rw [if_neg c, if_neg (by simp; omega)]; simp
theorem atF_set (fs : List (ByteArray × ByteArray)) (k : Nat) (name value x : ByteArray) (hk : k < fs.length) (hn : nameAt fs k = name) : atF (fs.set k (name, value)) x = atF fs x := by
  induction fs generalizing k with
  | nil => simp at hk
  | cons f r ih =>
    cases k with
    | zero =>
      have : f.1 = name := hn
      simp only [List.set_cons_zero, atF, this]
    | succ k =>
      have hk' : k < r.length := by simpa using hk
      have hn' : nameAt r k = name := by simpa [nameAt] using hn
      simp only [List.set_cons_succ, atF, ih k hk' hn']
theorem valAt_append (fs : List (ByteArray × ByteArray)) (f : ByteArray × ByteArray) (k : Nat) : valAt (fs ++ [f]) k = (if k < fs.length then valAt fs k else if k = fs.length then f.2 else ⟨#[]⟩) := by
  unfold valAt
  rw [List.getD_eq_getElem?_getD, List.getD_eq_getElem?_getD]
  by_cases c : k < fs.length
  · rw [if_pos c, List.getElem?_append_left c]
  · rw [if_neg c, List.getElem?_append_right (by omega)]
    by_cases e : k = fs.length
    · rw [if_pos e, e, Nat.sub_self]; rfl
    · rw [if_neg e, List.getElem?_eq_none (by simp; omega)]; rfl

/-- What is put is got. -/
theorem put_got (fs : List (ByteArray × ByteArray)) (name value : ByteArray) : getV (putF fs name value) name = value ∧ getB (putF fs name value) name = true := by
  by_cases hin : atF fs name < fs.length
  · have hh := atF_here fs name hin
    rw [putF_eq fs name value hin]
    have ha := atF_set fs _ name value name hin hh
    unfold getV getB
    rw [ha, List.length_set, if_pos hin]
    have := (nameAt_set fs (atF fs name) (atF fs name) (name, value) hin).2
    rw [if_pos rfl] at this
    exact ⟨this, by simpa using hin⟩
  · have hl : atF fs name = fs.length := by have := atF_le fs name; omega
    have hp : putF fs name value = fs ++ [(name, value)] := by unfold putF; rw [if_neg hin]
    have ha := atF_append fs name value name hl
    rw [if_pos rfl] at ha
    rw [hp]
    unfold getV getB
    rw [ha, if_pos (by simp), valAt_append, if_neg (by omega), if_pos rfl]
    exact ⟨rfl, by simp⟩
/-- A name dropped of right fields is gone. -/
theorem drop_gone (fs : List (ByteArray × ByteArray)) (name : ByteArray) (h : FldsOk fs) : getB (dropF fs name) name = false := by
  unfold getB
  rw [dropF_eq]
  have hno : ∀ gs : List (ByteArray × ByteArray), (∀ j, j < gs.length → nameAt gs j ≠ name) → decide (atF gs name < gs.length) = false := fun gs hg => by
    have := atF_none (fs := gs) (name := name) hg
    simp; omega
  by_cases hin : atF fs name < fs.length
  · rw [if_pos hin]
    apply hno
    intro j hj he
    rw [List.length_eraseIdx, if_pos hin] at hj
    rw [(nameAt_erase fs (atF fs name) j).1] at he
    by_cases c : j < atF fs name
    · rw [if_pos c] at he
      exact atF_before fs name j c he
    · rw [if_neg c] at he
      have := (h.2 (j + 1) (by omega)).2.2.1
      rw [he] at this
      omega
  · rw [if_neg hin]
    simpa using hin

theorem ShortF.name {fs : List (ByteArray × ByteArray)} (h : ShortF fs) (i : Nat) (hi : i < fs.length) : (nameAt fs i).size ≤ 64 ∧ (valAt fs i).size ≤ 64 := by
  have := h (nameAt fs i, valAt fs i) (by rw [pair_at fs i hi]; exact List.getElem_mem hi)
  exact this
theorem ShortF.put {fs : List (ByteArray × ByteArray)} (h : ShortF fs) {name value : ByteArray} (h1 : name.size ≤ 64) (h2 : value.size ≤ 64) : ShortF (putF fs name value) := by
  by_cases hin : atF fs name < fs.length
  · rw [putF_eq fs name value hin]
    intro f hf
    rcases List.mem_or_eq_of_mem_set hf with hf | hf
    · exact h f hf
    · subst hf; exact ⟨h1, h2⟩
  · have hp : putF fs name value = fs ++ [(name, value)] := by unfold putF; rw [if_neg hin]
    rw [hp]; exact h.snoc h1 h2
theorem ShortF.drop {fs : List (ByteArray × ByteArray)} (h : ShortF fs) (name : ByteArray) : ShortF (dropF fs name) := by
  rw [dropF_eq]
  split
  · intro f hf; exact h f (List.mem_of_mem_eraseIdx hf)
  · exact h
theorem ShortF.copy {fs : List (ByteArray × ByteArray)} (h : ShortF fs) : CopyF fs := fun i hi => by
  have := h.name i hi
  omega
theorem drop_len (fs : List (ByteArray × ByteArray)) (name : ByteArray) : (dropF fs name).length ≤ fs.length := by
  rw [dropF_eq]
  split
  · rw [List.length_eraseIdx]; split <;> omega
  · exact Nat.le_refl _

end Go.Proofs.Ythlmnmbhgkmbfaa

namespace Go.Proofs.Ythlmnmbhgkmbfaa
open Go.RowKit
open Go.Lib hiding intOf

theorem drop_right {fs : List (ByteArray × ByteArray)} (name : ByteArray) (h : FldsOk fs) : FldsOk (dropF fs name) := by
  rw [dropF_eq]
  split
  · rename_i hin
    obtain ⟨a, ha⟩ : ∃ a, a = atF fs name := ⟨_, rfl⟩
    rw [← ha] at hin ⊢
    have hl : (fs.eraseIdx a).length = fs.length - 1 := by rw [List.length_eraseIdx, if_pos hin]
    have hat : ∀ i, i < fs.length - 1 → ∃ k, k < fs.length ∧ nameAt (fs.eraseIdx a) i = nameAt fs k ∧ valAt (fs.eraseIdx a) i = valAt fs k ∧ (k = i ∨ k = i + 1) := fun i hi => by
      have h1 := nameAt_erase fs a i
      by_cases c : i < a
      · rw [if_pos c, if_pos c] at h1
        exact ⟨i, by omega, h1.1, h1.2, .inl rfl⟩
      · rw [if_neg c, if_neg c] at h1
        exact ⟨i + 1, by omega, h1.1, h1.2, .inr rfl⟩
    refine ⟨by have := h.1; omega, fun i hi => ?_⟩
    rw [hl] at hi
    obtain ⟨k, hk, e1, e2, _⟩ := hat i hi
    obtain ⟨t1, t2, t3, t4⟩ := h.2 k hk
    rw [e1, e2]
    refine ⟨t1, t2, ?_, t4⟩
    refine atF_uniq (by rw [hl]; exact hi) (fun j hj he => ?_) e1
    obtain ⟨n1, n2⟩ := nameAt_erase fs a j
    obtain ⟨m1, m2⟩ := nameAt_erase fs a i
    rw [he] at n1
    rw [e1] at m1
    by_cases c : j < a
    · rw [if_pos c] at n1
      have h1 := (h.2 j (by omega)).2.2.1
      rw [← n1] at h1
      by_cases d : i < a
      · rw [if_pos d] at m1
        have h2 := (h.2 i (by omega)).2.2.1
        rw [← m1] at h2
        omega
      · rw [if_neg d] at m1
        have h2 := (h.2 (i + 1) (by omega)).2.2.1
        rw [← m1] at h2
        omega
    · rw [if_neg c] at n1
      have h1 := (h.2 (j + 1) (by omega)).2.2.1
      rw [← n1] at h1
      rw [if_neg (by omega)] at m1
      have h2 := (h.2 (i + 1) (by omega)).2.2.1
      rw [← m1] at h2
      omega
  · exact h
theorem ask_right {m : Int} {p : ByteArray} {fs : List (ByteArray × ByteArray)} {b : ByteArray} (gs : List (ByteArray × ByteArray)) (h : ReqP m p fs b) : ReqP m p (askF m p fs b gs) b := by
  unfold askF
  split
  · rename_i hc; exact hc.2
  · exact ⟨h.1, h.2.1, drop_right _ h.2.2.1, h.2.2.2⟩
theorem ask_tag {m : Int} {p : ByteArray} {fs : List (ByteArray × ByteArray)} {b : ByteArray} {gs : List (ByteArray × ByteArray)} (h : ReqP m p fs b) (ht : getB (askF m p fs b gs) inmName = true) : getB gs tagName = true ∧ getV (askF m p fs b gs) inmName = getV gs tagName := by
  unfold askF at ht ⊢
  split
  · rename_i hc
    exact ⟨hc.1, (put_got fs inmName (getV gs tagName)).1⟩
  · rename_i hc
    rw [if_neg hc, drop_gone fs inmName h.2.2.1] at ht
    cases ht
theorem ask_short {m : Int} {p : ByteArray} {fs : List (ByteArray × ByteArray)} {b : ByteArray} {gs : List (ByteArray × ByteArray)} (h : ShortF fs) (hg : ShortF gs) : ShortF (askF m p fs b gs) := by
  unfold askF
  split
  · refine h.put (by decide) ?_
    unfold getV
    split
    · rename_i hin; exact (hg.name _ hin).2
    · decide
  · exact h.drop _
theorem shortWalk {fs : List (ByteArray × ByteArray)} (h : ShortF fs) : WalkF fs.length fs := fun i hi => by
  have := h.name i hi
  unfold maxLen
  omega
theorem short_get2 {fs : List (ByteArray × ByteArray)} (h : ShortF fs) (x : ByteArray) : (getV fs x).size ≤ 64 := by
  unfold getV
  split
  · rename_i hin; exact (h.name _ hin).2
  · decide

end Go.Proofs.Ythlmnmbhgkmbfaa

namespace Go.Proofs.Ythlmnmbhgkmbfaa
open Go.RowKit
open Go.Lib hiding intOf

def bodyL : List ByteArray := [⟨#[]⟩, ⟨#[104, 101, 108, 108, 111]⟩, ⟨#[13, 10, 13, 10]⟩, ⟨#[97, 0, 98]⟩, ⟨#[111, 110, 101, 32, 116, 119, 111]⟩]
set_option maxHeartbeats 1000000 in
set_option maxRecDepth 100000 in
theorem l3DrawBody_any (c B : Nat) (a : Option Addr) (len cap : Nat) (zs : List Int) (w : World) (hcur : CurAt w c a len cap) (hcode : CodeAt w B a len zs) (hB : B ≤ c) :
    Calls Try.prog 106 #[.pointer (some ⟨c, 0, none⟩)] w fun e w' => TextDrawn 14 w c a len cap e w' := by
  go_enter Try.func106, Try.ntmps106
  go_wp2_with fail
  refine (l1Once_any c B 2 a len cap zs _ hcur hcode hB (by omega) (by omega)).mono ?_
  rintro e w1 ⟨⟨b, rfl⟩, hcu1, hg1⟩
  have hco1 := hcode.grown hg1 hB
  clear hcur hcode
  cases b
  · go_wp2_with fail
    refine (l1DrawText_any c B a len cap zs _ hcu1 hco1 hB).mono ?_
    rintro e w2 ⟨t, rfl, ht, hcu2, hg2⟩
    have hg3 := grownBy_trans hg1 hg2
    clear hg1 hg2 hcu1 hco1
    go_wp2
    go_ret
    exact ⟨t, rfl, ht, hcu2, hg3⟩
  · go_wp2_with fail
    refine (pick_new c B bodyL 14 (by decide) a len cap zs w1 hcu1 hco1 hB (by decide) (by decide)).mono ?_
    rintro e w2 ⟨t, rfl, ht, hcu2, hg2⟩
    have hg3 := grownBy_trans hg1 hg2
    clear hg1 hg2 hcu1 hco1
    go_wp2
    go_ret
    exact ⟨t, rfl, ht, hcu2, hg3⟩

theorem ints_at (w : World) (xs : List Int) (j : Nat) (hj : j < xs.length) : (w.alloc (.cells (xs.map (Value.int .i64)).toArray 3)).cell? ⟨w.heap.size, j, none⟩ = some (.int .i64 (xs.getD j 0)) := by
  rw [World.cell?_alloc_new]
  simp [List.getD_eq_getElem?_getD, hj]
set_option maxHeartbeats 1000000 in
theorem pickInt_new (c B : Nat) (xs : List Int) (lo hi : Int) (hm : ∀ j, j < xs.length → lo ≤ xs.getD j 0 ∧ xs.getD j 0 ≤ hi) (a : Option Addr) (len cap : Nat) (zs : List Int) (w : World) (hcur : CurAt w c a len cap) (hcode : CodeAt w B a len zs) (hB : B ≤ c) (hn : 1 ≤ xs.length) (hn2 : xs.length ≤ 256) :
    Calls Try.prog 84 #[.pointer (some ⟨c, 0, none⟩), .slice (some ⟨w.heap.size, 0, none⟩) xs.length xs.length] (w.alloc (.cells (xs.map (Value.int .i64)).toArray 3)) fun e w' => ∃ n : Int, e = .returned (.int .i64 n) ∧ lo ≤ n ∧ n ≤ hi ∧ CurAt w' c a len cap ∧ w.grownBy w' (some c) := by
  have hc := hcur.lt
  have HL : Hid (∀ j, j < xs.length → (w.alloc (.cells (xs.map (Value.int .i64)).toArray 3)).cell? ⟨w.heap.size, j, none⟩ = some (.int .i64 (xs.getD j 0))) := ints_at w xs
  have HM : Hid (∀ j, j < xs.length → lo ≤ xs.getD j 0 ∧ xs.getD j 0 ≤ hi) := hm
  have hcu0 := hcur.below ((Below.refl _ w).alloc (Nat.le_refl _) (.cells (xs.map (Value.int .i64)).toArray 3)) hc
  have hg0 : w.grownBy (w.alloc (.cells (xs.map (Value.int .i64)).toArray 3)) (some c) := World.grownBy_alloc w _ _
  have hco0 := hcode.grown hg0 hB
  clear hm hcur hcode
  obtain ⟨w0, hw0⟩ : ∃ W, W = w.alloc (.cells (xs.map (Value.int .i64)).toArray 3) := ⟨_, rfl⟩
  rw [← hw0] at HL hcu0 hg0 hco0 ⊢
  obtain ⟨n, hnn⟩ : ∃ n, n = xs.length := ⟨_, rfl⟩
  rw [← hnn] at HL HM hn hn2 ⊢
  obtain ⟨g, hg⟩ : ∃ g, g = w.heap.size := ⟨_, rfl⟩
  have hgc : g ≠ c := by omega
  rw [← hg] at HL ⊢
  clear hw0 hnn hg
  go_enter Try.func84, Try.ntmps84
  go_wp2_with fail
  refine (l1Below_any c B n a len cap zs _ hcu0 hco0 hB (by omega) (by omega)).mono ?_
  rintro e w1 ⟨x, rfl, hx0, hx1, hcur1, hg1⟩
  obtain ⟨j, rfl⟩ := Int.eq_ofNat_of_zero_le hx0
  have hj : j < n := by omega
  have hcell : w1.cell? ⟨g, j, none⟩ = some (.int .i64 (xs.getD j 0)) := grown_cell hg1 (HL.out j hj) hgc
  have hjr := HM.out j hj
  have hg2 := grownBy_trans hg0 hg1
  clear hg0 hg1 hcu0 hco0
  go_wp2
  go_ret
  exact ⟨_, rfl, hjr.1, hjr.2, hcur1, hg2⟩

/-- A call on the cursor answers a request of short texts, in memory of its own, and turns the cursor alone of what was there. -/
def ReqDrawn (bmax : Nat) (w : World) (c : Nat) (a : Option Addr) (len cap : Nat) (e : Ending) (w' : World) : Prop :=
  ∃ (m : Int) (p : ByteArray) (v : Value) (fs : List (ByteArray × ByteArray)) (b : ByteArray), e = .returned (.agg #[.int .i64 m, .string p, v, .string b]) ∧ (-1000 ≤ m ∧ m ≤ 1000) ∧ p.size ≤ 64 ∧ w'.ownsRow w.heap.size 68 2 v fs.length (flatF fs) ∧ fs.length ≤ 40 ∧ ShortF fs ∧ b.size ≤ bmax ∧ CurAt w' c a len cap ∧ w.grownBy w' (some c)

theorem kind_list : (⟨#[107, 105, 110, 100]⟩ : ByteArray).toList = [107, 105, 110, 100] := by rw [ByteArray.toList_eq]
theorem cacheC_list : (⟨#[99, 97, 99, 104, 101, 45, 99, 111, 110, 116, 114, 111, 108]⟩ : ByteArray).toList = [99, 97, 99, 104, 101, 45, 99, 111, 110, 116, 114, 111, 108] := by rw [ByteArray.toList_eq]
theorem ifNone_list : (⟨#[105, 102, 45, 110, 111, 110, 101, 45, 109, 97, 116, 99, 104]⟩ : ByteArray).toList = [105, 102, 45, 110, 111, 110, 101, 45, 109, 97, 116, 99, 104] := by rw [ByteArray.toList_eq]
/-- A request that is being drawn: its memory, its fields, the cursor. -/
structure DReq (w : World) (c R r : Nat) (m : Int) (p : ByteArray) (fv : Value) (fs : List (ByteArray × ByteArray)) (b : ByteArray) (a : Option Addr) (len cap : Nat) (W : World) : Prop where
  hR : W.heap[R]? = some (.cells #[.int .i64 0, .string ⟨#[]⟩, .slice none 0 0, .string ⟨#[]⟩] 26)
  hr : W.heap[r]? = some (.cells #[.int .i64 m, .string p, fv, .string b] 26)
  own : W.ownsRow w.heap.size 68 2 fv fs.length (flatF fs)
  cur : CurAt W c a len cap
  grow : w.grownBy W (some c)
  apart : ∀ j, fv.ownBlock = some j → j ≠ R ∧ j ≠ r
theorem DReq.later {w : World} {c R r : Nat} {m : Int} {p : ByteArray} {fv : Value} {fs : List (ByteArray × ByteArray)} {b : ByteArray} {a : Option Addr} {len cap : Nat} {W W' : World} (h : DReq w c R r m p fv fs b a len cap W) (hcw : c < w.heap.size) (hRw : w.heap.size ≤ R) (hrw : w.heap.size ≤ r) (hcu : CurAt W' c a len cap) (hg : W.grownBy W' (some c)) : DReq w c R r m p fv fs b a len cap W' := by
  refine ⟨?_, ?_, ?_, hcu, grownBy_trans h.grow hg, h.apart⟩
  · rw [hg.block R ((Array.getElem?_eq_some_iff.1 h.hR).1) (fun e => by have := Option.some.inj e; omega)]; exact h.hR
  · rw [hg.block r ((Array.getElem?_eq_some_iff.1 h.hr).1) (fun e => by have := Option.some.inj e; omega)]; exact h.hr
  · exact h.own.kept hg (by cases h2 : fv.ownBlock <;> simp; exact fun e => by have h7 := owns_ge h.own h2; omega)

theorem owns_heap {w : World} {base : Nat} {t : TypeId} {size : Nat} {v : Value} {n : Nat} {xs : List Value} {j : Nat} (h : w.ownsRow base t size v n xs) (hj : v.ownBlock = some j) : ∃ cur, w.heap[j]? = some (.cells cur t (0, 0)) := by
  rcases h.2 with ⟨rfl, rfl⟩ | ⟨g, cap, cur, rfl, _, h1, _⟩
  · cases hj
  · cases hj; exact ⟨cur, h1⟩
/-- One field more. -/
theorem DReq.more {w : World} {c R r : Nat} {m : Int} {p : ByteArray} {fv : Value} {fs : List (ByteArray × ByteArray)} {b f v : ByteArray} {a : Option Addr} {len cap : Nat} {W W5 : World} {o : Obj} {v1 : Value} (h : DReq w c R r m p fv fs b a len cap W) (hcw : c < w.heap.size) (hRw : w.heap.size ≤ R) (hrw : w.heap.size ≤ r) (hrR : R ≠ r) (hg : (W.alloc o).grownBy W5 fv.ownBlock) (hown : W5.ownsRow w.heap.size 68 2 v1 (fs.length + 1) (flatF fs ++ [.string f, .string v])) :
    (W5.heap[r]? = some (.cells #[.int .i64 m, .string p, fv, .string b] 26)) ∧ DReq w c R r m p v1 (fs ++ [(f, v)]) b a len cap (W5.setCell ⟨r, 2, none⟩ v1) := by
  have hs : (W.alloc o).heap.size = W.heap.size + 1 := by simp
  have hRl := (Array.getElem?_eq_some_iff.1 h.hR).1
  have hrl := (Array.getElem?_eq_some_iff.1 h.hr).1
  have hcl := h.cur.lt
  have hR5 : W5.heap[R]? = some (.cells #[.int .i64 0, .string ⟨#[]⟩, .slice none 0 0, .string ⟨#[]⟩] 26) := by
    rw [hg.block R (by omega) (fun e => (h.apart R e.symm).1 rfl), heap_alloc_old _ _ hRl]; exact h.hR
  have hr5 : W5.heap[r]? = some (.cells #[.int .i64 m, .string p, fv, .string b] 26) := by
    rw [hg.block r (by omega) (fun e => (h.apart r e.symm).2 rfl), heap_alloc_old _ _ hrl]; exact h.hr
  have hap : ∀ j, v1.ownBlock = some j → j ≠ R ∧ j ≠ r := fun j hj => by
    obtain ⟨cur, hcj⟩ := owns_heap hown hj
    refine ⟨fun e => ?_, fun e => ?_⟩
    · rw [e, hR5] at hcj
      simp at hcj
    · rw [e, hr5] at hcj
      simp at hcj
  have hg5 : w.grownBy W5 (some c) := by
    have h1 := grownBy_trans h.grow (World.grownBy_alloc W o (some c))
    refine ⟨hg.os.trans h1.os, hg.tape.trans h1.tape, hg.output.trans h1.output, Nat.le_trans h1.size hg.size, fun i hi hne => ?_⟩
    rw [hg.block i (by have := h1.size; omega) (fun e => by have := owns_ge h.own e.symm; omega)]
    exact h1.block i hi hne
  refine ⟨hr5, ?_, ?_, ?_, ?_, grown_later hg5 (grown_set W5 r 2 v1) (fun g e => by cases e; exact hrw), hap⟩
  · rw [heap_setCell_other _ _ R _ (fun e => hrR e)]; exact hR5
  · have := heap_set W5 r 2 _ _ _ v1 hr5
    simpa using this
  · have h2 : (W5.setCell ⟨r, 2, none⟩ v1).ownsRow w.heap.size 68 2 v1 (fs.length + 1) (flatF fs ++ [.string f, .string v]) := hown.kept (grown_set W5 r 2 v1) (by cases h3 : v1.ownBlock <;> simp; exact (hap _ h3).2)
    rw [flatF_append, flatF_one]; simpa using h2
  · obtain ⟨i, hh, hi, h4⟩ := h.cur
    refine ⟨i, hh, hi, ?_⟩
    rw [heap_setCell_other _ _ c _ (fun e => by have e2 : c = r := e; omega), hg.block c (by omega) (fun e => by have := owns_ge h.own e.symm; omega), heap_alloc_old _ _ hcl]
    exact h4

/-- The body set. -/
theorem DReq.setBody {w : World} {c R r : Nat} {m : Int} {p : ByteArray} {fv : Value} {fs : List (ByteArray × ByteArray)} {b : ByteArray} {a : Option Addr} {len cap : Nat} {W : World} (h : DReq w c R r m p fv fs b a len cap W) (hcw : c < w.heap.size) (hrw : w.heap.size ≤ r) (hrR : R ≠ r) (b' : ByteArray) : DReq w c R r m p fv fs b' a len cap (W.setCell ⟨r, 3, none⟩ (.string b')) := by
  refine ⟨?_, ?_, ?_, ?_, grown_later h.grow (grown_set W r 3 _) (fun g e => by cases e; exact hrw), h.apart⟩
  · rw [heap_setCell_other _ _ R _ (fun e => hrR e)]; exact h.hR
  · have := heap_set W r 3 _ _ _ (.string b') h.hr
    simpa using this
  · exact h.own.kept (grown_set W r 3 _) (by cases h3 : fv.ownBlock <;> simp; exact (h.apart _ h3).2)
  · obtain ⟨i, hh, hi, h4⟩ := h.cur
    refine ⟨i, hh, hi, ?_⟩
    rw [heap_setCell_other _ _ c _ (fun e => by have e2 : c = r := e; omega)]
    exact h4
/-- The request handed back. -/
theorem DReq.fin {w : World} {c R r : Nat} {m : Int} {p : ByteArray} {fv : Value} {fs : List (ByteArray × ByteArray)} {b : ByteArray} {a : Option Addr} {len cap : Nat} {W : World} (h : DReq w c R r m p fv fs b a len cap W) (hcw : c < w.heap.size) (hRw : w.heap.size ≤ R) (hm : -1000 ≤ m ∧ m ≤ 1000) (hp : p.size ≤ 64) (hf : fs.length ≤ 40) (hsh : ShortF fs) {bmax : Nat} (hb : b.size ≤ bmax) :
    (fourSet W R (.int .i64 m) (.string p) fv (.string b)).heap[R]? = some (.cells #[.int .i64 m, .string p, fv, .string b] 26) ∧ ReqDrawn bmax w c a len cap (.returned (.agg #[.int .i64 m, .string p, fv, .string b])) (fourSet W R (.int .i64 m) (.string p) fv (.string b)) := by
  have hg : W.grownBy (fourSet W R (.int .i64 m) (.string p) fv (.string b)) (some R) := by
    unfold fourSet
    exact grown_then (grown_then (grown_then (grown_set _ _ _ _) (grown_set _ _ _ _)) (grown_set _ _ _ _)) (grown_set _ _ _ _)
  refine ⟨four_set h.hR _ _ _ _, m, p, fv, fs, b, rfl, hm, hp, ?_, hf, hsh, hb, ?_, grown_later h.grow hg (fun g e => by cases e; exact hRw)⟩
  · exact h.own.kept hg (by cases h3 : fv.ownBlock <;> simp; exact (h.apart _ h3).1)
  · obtain ⟨i, hh, hi, h4⟩ := h.cur
    refine ⟨i, hh, hi, ?_⟩
    rw [hg.block c (Array.getElem?_eq_some_iff.1 h4).1 (fun e => by have := Option.some.inj e; omega)]
    exact h4

set_option maxHeartbeats 1000000 in
set_option maxRecDepth 100000 in
theorem l3DrawReq_any (c B : Nat) (a : Option Addr) (len cap : Nat) (zs : List Int) (w : World) (hcur : CurAt w c a len cap) (hcode : CodeAt w B a len zs) (hB : B ≤ c) :
    Calls Try.prog 101 #[.pointer (some ⟨c, 0, none⟩)] w fun e w' => ReqDrawn 14 w c a len cap e w' := by
  obtain ⟨i0, hi, hz0, hz1, hz2⟩ := info_parts info33
  have hcw := hcur.lt
  have HCO : Hid (∀ W, w.grownBy W (some c) → CodeAt W B a len zs) := fun W h => hcode.grown h hB
  obtain ⟨R, hR⟩ : ∃ R, R = w.heap.size := ⟨_, rfl⟩
  have hg0 : w.grownBy (w.alloc (.cells #[.int .i64 0, .string ⟨#[]⟩, .slice none 0 0, .string ⟨#[]⟩] 26)) (some c) := World.grownBy_alloc w _ _
  have hcu0 := hcur.below ((Below.refl _ w).alloc (Nat.le_refl _) (.cells #[.int .i64 0, .string ⟨#[]⟩, .slice none 0 0, .string ⟨#[]⟩] 26)) hcw
  have hco0 := HCO.out _ hg0
  have hz0' : (w.alloc (.cells #[.int .i64 0, .string ⟨#[]⟩, .slice none 0 0, .string ⟨#[]⟩] 26)).heap[R]? = some (.cells #[.int .i64 0, .string ⟨#[]⟩, .slice none 0 0, .string ⟨#[]⟩] 26) := by rw [hR]; exact heap_alloc_new w _
  have hRlt : R < (w.alloc (.cells #[.int .i64 0, .string ⟨#[]⟩, .slice none 0 0, .string ⟨#[]⟩] 26)).heap.size := by rw [hR]; simp
  have hRc : R ≠ c := by omega
  have hRw : w.heap.size ≤ R := by omega
  have HRE : Hid (R = w.heap.size) := hR
  obtain ⟨w0, hw0⟩ : ∃ W, W = w.alloc (.cells #[.int .i64 0, .string ⟨#[]⟩, .slice none 0 0, .string ⟨#[]⟩] 26) := ⟨_, rfl⟩
  have HS0 : Hid (w0.heap.size = w.heap.size + 1) := by show _ = _; rw [hw0]; simp
  have HW0 : Hid (w0 = w.alloc (.cells #[.int .i64 0, .string ⟨#[]⟩, .slice none 0 0, .string ⟨#[]⟩] 26)) := hw0
  rw [← hw0] at hg0 hcu0 hco0 hz0' hRlt
  clear hcur hcode hR hw0
  go_enter Try.func101, Try.ntmps101
  go_wp2_with fail
  rw [← HW0.out, ← HS0.out]
  refine (pickInt_new c B [1, 1, 1, 1, 2, 3, 4] 1 4 (by decide) a len cap zs w0 hcu0 hco0 hB (by decide) (by decide)).mono ?_
  rintro e w1 ⟨m, rfl, hm1, hm2, hcu1, hg1⟩
  have hga1 := grownBy_trans hg0 hg1
  have hz1' : w1.heap[R]? = some (.cells #[.int .i64 0, .string ⟨#[]⟩, .slice none 0 0, .string ⟨#[]⟩] 26) := by rw [hg1.block R hRlt (fun e => hRc (Option.some.inj e))]; exact hz0'
  have hR1 : R < w1.heap.size := (Array.getElem?_eq_some_iff.1 hz1').1
  clear hg0 hg1 hcu0 hco0 hz0' hRlt
  go_wp2_with fail
  refine (pick_new c B [⟨#[47]⟩, ⟨#[47, 97]⟩, ⟨#[47, 97, 47, 98]⟩, ⟨#[47, 98]⟩] 64 (by decide) a len cap zs w1 hcu1 (HCO.out _ hga1) hB (by decide) (by decide)).mono ?_
  rintro e w2 ⟨p, rfl, hp, hcu2, hg2⟩
  have hga2 := grownBy_trans hga1 hg2
  have hz2' : w2.heap[R]? = some (.cells #[.int .i64 0, .string ⟨#[]⟩, .slice none 0 0, .string ⟨#[]⟩] 26) := by rw [hg2.block R hR1 (fun e => hRc (Option.some.inj e))]; exact hz1'
  have hR2 : R < w2.heap.size := (Array.getElem?_eq_some_iff.1 hz2').1
  rw [← HRE.out]
  clear hg2 hga1 hcu1 hz1' hR1
  obtain ⟨r, hr⟩ : ∃ r, r = w2.heap.size := ⟨_, rfl⟩
  have hrw : w.heap.size ≤ r := by rw [hr]; exact hga2.size
  have hrR : R ≠ r := by omega
  have HD0 : Hid (DReq w c R r m p (.slice none 0 0) [] ⟨#[]⟩ a len cap (w2.alloc (.cells #[.int .i64 m, .string p, .slice none 0 0, .string ⟨#[]⟩] 26))) := by
    have hgal : w2.grownBy (w2.alloc (.cells #[.int .i64 m, .string p, .slice none 0 0, .string ⟨#[]⟩] 26)) (some c) := World.grownBy_alloc w2 _ _
    refine ⟨?_, by rw [hr]; exact heap_alloc_new w2 _, ⟨rfl, .inl ⟨rfl, rfl⟩⟩, hcu2.below ((Below.refl _ w2).alloc (Nat.le_refl _) _) hcu2.lt, grownBy_trans hga2 hgal, fun j h => by cases h⟩
    rw [hgal.block R hR2 (fun e => hRc (Option.some.inj e))]; exact hz2'
  have HR' : Hid (r = w2.heap.size) := hr
  clear hr hz2' hR2 hcu2 hga2
  go_wp2_with fail
  rw [← HR'.out]
  go_loopw [4] (fun i wr => ∃ (k : Nat) (fs : List (ByteArray × ByteArray)) (fv : Value), k ≤ 4 ∧ fs.length ≤ k ∧ i = .int .i64 (k : Int) ∧ Hid (ShortF fs) ∧ Hid (DReq w c R r m p fv fs ⟨#[]⟩ a len cap wr)) (fun i _ => 4 - (intOf i).toNat)
  case atStart => exact ⟨0, [], _, by omega, Nat.le_refl _, rfl, (fun f hf => by cases hf), HD0⟩
  case round =>
    obtain ⟨k, fs, fv, hk, hfl, rfl, hsh, hd⟩ := hrel
    obtain ⟨fo, fc, rfl⟩ := slice_of_owns hd.out.own
    go_wp2_with fail
    refine (l1Below_any c B 4 a len cap zs _ hd.out.cur (HCO.out _ hd.out.grow) hB (by omega) (by omega)).mono ?_
    rintro e wa ⟨x, rfl, hx0, hx1, hcua, hgaa⟩
    have hda : Hid (DReq w c R r m p (.slice fo fs.length fc) fs ⟨#[]⟩ a len cap wa) := hd.out.later hcw hRw hrw hcua hgaa
    clear hcua hgaa hd
    by_cases hkx : (k : Int) < x
    · go_wp2_with fail
      refine (pick_new c B [⟨#[108, 97, 110, 103]⟩, ⟨#[107, 105, 110, 100]⟩, ⟨#[99, 97, 99, 104, 101, 45, 99, 111, 110, 116, 114, 111, 108]⟩, ⟨#[105, 102, 45, 110, 111, 110, 101, 45, 109, 97, 116, 99, 104]⟩, ⟨#[120, 45, 97]⟩] 64 (by decide) a len cap zs wa hda.out.cur (HCO.out _ hda.out.grow) hB (by decide) (by decide)).mono ?_
      rintro e wb ⟨f, rfl, hf, hcub, hgb⟩
      have hdb : Hid (DReq w c R r m p (.slice fo fs.length fc) fs ⟨#[]⟩ a len cap wb) := hda.out.later hcw hRw hrw hcub hgb
      obtain ⟨⟨c0, c1, c2, c3⟩, f0, f1, f2, f3⟩ := four_facts hdb.out.hr
      clear hcub hgb hda
      go_wp2_with fail
      refine (l2At_any _ fs.length _ fs f _ (FieldsV.of_owns hdb.out.own) (by omega)).mono ?_
      rintro e wc ⟨rfl, rfl⟩
      by_cases hat : atI fs f < 0
      · skip
        go_wp2_with fail
        refine (pick_new c B [⟨#[100, 101]⟩, ⟨#[101, 110]⟩] 64 (by decide) a len cap zs wc hdb.out.cur (HCO.out _ hdb.out.grow) hB (by decide) (by decide)).mono ?_
        rintro e wd ⟨v, rfl, hv, hcud, hgd⟩
        have hdd : Hid (DReq w c R r m p (.slice fo fs.length fc) fs ⟨#[]⟩ a len cap wd) := hdb.out.later hcw hRw hrw hcud hgd
        clear hcud hgd
        clear c0 c1 c2 c3 f0 f1 f2 f3
        by_cases e1 : f = ⟨#[107, 105, 110, 100]⟩
        · have ht := (text_beq _ _).2 e1
          rw [kind_list] at ht
          clear e1
          go_wp2_with fail
          refine (pick_new c B [⟨#[120]⟩, ⟨#[121]⟩] 64 (by decide) a len cap zs wd hdd.out.cur (HCO.out _ hdd.out.grow) hB (by decide) (by decide)).mono ?_
          rintro e we ⟨v2, rfl, hv2, hcue, hge⟩
          have hde : Hid (DReq w c R r m p (.slice fo fs.length fc) fs ⟨#[]⟩ a len cap we) := hdd.out.later hcw hRw hrw hcue hge
          clear hcue hge
          have h63 : fs.length + 1 ≤ maxLen := by unfold maxLen; omega
          have h47 : (fs.length + 1) * 32 ≤ 140737488355328 := by omega
          have HBS : ∀ o, w.heap.size ≤ (we.alloc o).heap.size := fun o => by have := hde.out.grow.size; simp; omega
          obtain ⟨⟨c0, c1, c2, c3⟩, f0, f1, f2, f3⟩ := four_facts hde.out.hr
          go_wp2_with (at_builtin; refine wpList_append_own _ rfl _ _ 24 rfl w.heap.size 68 i0 (.agg #[.string ⟨#[]⟩, .string ⟨#[]⟩]) 2 32 Try.underlying24 hi hz0 hz1 hz2 rfl (by decide) _ _ _ rfl (hde.out.own.alloc _) ⟨we.heap.size, 0, none⟩ 1 1 [.string f, .string v2] rfl rfl (cell_two_new _ _ _ _) (two_text _ _) h63 h47 (HBS _) ?_)
          intro v1 w5 hown5 hgrow _
          obtain ⟨fo1, fc1, rfl⟩ := slice_of_owns hown5
          obtain ⟨hr5, hd5⟩ := hde.out.more hcw hRw hrw hrR hgrow hown5
          have HD5 : Hid (DReq w c R r m p (.slice fo1 (fs.length + 1) fc1) (fs ++ [(f, v2)]) ⟨#[]⟩ a len cap (w5.setCell ⟨r, 2, none⟩ (.slice fo1 (fs.length + 1) fc1))) := hd5
          have HSH : Hid (ShortF (fs ++ [(f, v2)])) := hsh.out.snoc hf hv2
          clear c0 c1 c2 c3 f0 f1 f2 f3
          obtain ⟨⟨c0, c1, c2, c3⟩, f0, f1, f2, f3⟩ := four_facts hr5
          clear hr5 hd5 hgrow hown5 HBS
          go_wp2
          go_roundw
          case rel => exact ⟨k + 1, _, _, by omega, by simp; omega, by go_num, HSH, HD5⟩
          case measure => simp [intOf]; omega
        · have ht := text_beq_no e1
          rw [kind_list] at ht
          by_cases e2 : f = ⟨#[99, 97, 99, 104, 101, 45, 99, 111, 110, 116, 114, 111, 108]⟩
          · have ht2 := (text_beq _ _).2 e2
            rw [cacheC_list] at ht2
            clear e1 e2
            go_wp2_with fail
            refine (pick_new c B [⟨#[110, 111, 45, 99, 97, 99, 104, 101]⟩, ⟨#[110, 111, 45, 115, 116, 111, 114, 101]⟩, ⟨#[109, 97, 120, 45, 97, 103, 101, 61, 51]⟩] 64 (by decide) a len cap zs wd hdd.out.cur (HCO.out _ hdd.out.grow) hB (by decide) (by decide)).mono ?_
            rintro e we ⟨v2, rfl, hv2, hcue, hge⟩
            have hde : Hid (DReq w c R r m p (.slice fo fs.length fc) fs ⟨#[]⟩ a len cap we) := hdd.out.later hcw hRw hrw hcue hge
            clear hcue hge
            have h63 : fs.length + 1 ≤ maxLen := by unfold maxLen; omega
            have h47 : (fs.length + 1) * 32 ≤ 140737488355328 := by omega
            have HBS : ∀ o, w.heap.size ≤ (we.alloc o).heap.size := fun o => by have := hde.out.grow.size; simp; omega
            obtain ⟨⟨c0, c1, c2, c3⟩, f0, f1, f2, f3⟩ := four_facts hde.out.hr
            go_wp2_with (at_builtin; refine wpList_append_own _ rfl _ _ 24 rfl w.heap.size 68 i0 (.agg #[.string ⟨#[]⟩, .string ⟨#[]⟩]) 2 32 Try.underlying24 hi hz0 hz1 hz2 rfl (by decide) _ _ _ rfl (hde.out.own.alloc _) ⟨we.heap.size, 0, none⟩ 1 1 [.string f, .string v2] rfl rfl (cell_two_new _ _ _ _) (two_text _ _) h63 h47 (HBS _) ?_)
            intro v1 w5 hown5 hgrow _
            obtain ⟨fo1, fc1, rfl⟩ := slice_of_owns hown5
            obtain ⟨hr5, hd5⟩ := hde.out.more hcw hRw hrw hrR hgrow hown5
            have HD5 : Hid (DReq w c R r m p (.slice fo1 (fs.length + 1) fc1) (fs ++ [(f, v2)]) ⟨#[]⟩ a len cap (w5.setCell ⟨r, 2, none⟩ (.slice fo1 (fs.length + 1) fc1))) := hd5
            have HSH : Hid (ShortF (fs ++ [(f, v2)])) := hsh.out.snoc hf hv2
            clear c0 c1 c2 c3 f0 f1 f2 f3
            obtain ⟨⟨c0, c1, c2, c3⟩, f0, f1, f2, f3⟩ := four_facts hr5
            clear hr5 hd5 hgrow hown5 HBS
            go_wp2
            go_roundw
            case rel => exact ⟨k + 1, _, _, by omega, by simp; omega, by go_num, HSH, HD5⟩
            case measure => simp [intOf]; omega
          · have ht2 := text_beq_no e2
            rw [cacheC_list] at ht2
            by_cases e3 : f = ⟨#[105, 102, 45, 110, 111, 110, 101, 45, 109, 97, 116, 99, 104]⟩
            · have ht3 := (text_beq _ _).2 e3
              rw [ifNone_list] at ht3
              clear e1 e2 e3
              go_wp2_with fail
              refine (pick_new c B [⟨#[97]⟩, ⟨#[98]⟩] 64 (by decide) a len cap zs wd hdd.out.cur (HCO.out _ hdd.out.grow) hB (by decide) (by decide)).mono ?_
              rintro e we ⟨v2, rfl, hv2, hcue, hge⟩
              have hde : Hid (DReq w c R r m p (.slice fo fs.length fc) fs ⟨#[]⟩ a len cap we) := hdd.out.later hcw hRw hrw hcue hge
              clear hcue hge
              have h63 : fs.length + 1 ≤ maxLen := by unfold maxLen; omega
              have h47 : (fs.length + 1) * 32 ≤ 140737488355328 := by omega
              have HBS : ∀ o, w.heap.size ≤ (we.alloc o).heap.size := fun o => by have := hde.out.grow.size; simp; omega
              obtain ⟨⟨c0, c1, c2, c3⟩, f0, f1, f2, f3⟩ := four_facts hde.out.hr
              go_wp2_with (at_builtin; refine wpList_append_own _ rfl _ _ 24 rfl w.heap.size 68 i0 (.agg #[.string ⟨#[]⟩, .string ⟨#[]⟩]) 2 32 Try.underlying24 hi hz0 hz1 hz2 rfl (by decide) _ _ _ rfl (hde.out.own.alloc _) ⟨we.heap.size, 0, none⟩ 1 1 [.string f, .string v2] rfl rfl (cell_two_new _ _ _ _) (two_text _ _) h63 h47 (HBS _) ?_)
              intro v1 w5 hown5 hgrow _
              obtain ⟨fo1, fc1, rfl⟩ := slice_of_owns hown5
              obtain ⟨hr5, hd5⟩ := hde.out.more hcw hRw hrw hrR hgrow hown5
              have HD5 : Hid (DReq w c R r m p (.slice fo1 (fs.length + 1) fc1) (fs ++ [(f, v2)]) ⟨#[]⟩ a len cap (w5.setCell ⟨r, 2, none⟩ (.slice fo1 (fs.length + 1) fc1))) := hd5
              have HSH : Hid (ShortF (fs ++ [(f, v2)])) := hsh.out.snoc hf hv2
              clear c0 c1 c2 c3 f0 f1 f2 f3
              obtain ⟨⟨c0, c1, c2, c3⟩, f0, f1, f2, f3⟩ := four_facts hr5
              clear hr5 hd5 hgrow hown5 HBS
              go_wp2
              go_roundw
              case rel => exact ⟨k + 1, _, _, by omega, by simp; omega, by go_num, HSH, HD5⟩
              case measure => simp [intOf]; omega
            · have ht3 := text_beq_no e3
              rw [ifNone_list] at ht3
              clear e1 e2 e3
              have h63 : fs.length + 1 ≤ maxLen := by unfold maxLen; omega
              have h47 : (fs.length + 1) * 32 ≤ 140737488355328 := by omega
              have HBS : ∀ o, w.heap.size ≤ (wd.alloc o).heap.size := fun o => by have := hdd.out.grow.size; simp; omega
              obtain ⟨⟨c0, c1, c2, c3⟩, f0, f1, f2, f3⟩ := four_facts hdd.out.hr
              go_wp2_with (at_builtin; refine wpList_append_own _ rfl _ _ 24 rfl w.heap.size 68 i0 (.agg #[.string ⟨#[]⟩, .string ⟨#[]⟩]) 2 32 Try.underlying24 hi hz0 hz1 hz2 rfl (by decide) _ _ _ rfl (hdd.out.own.alloc _) ⟨wd.heap.size, 0, none⟩ 1 1 [.string f, .string v] rfl rfl (cell_two_new _ _ _ _) (two_text _ _) h63 h47 (HBS _) ?_)
              intro v1 w5 hown5 hgrow _
              obtain ⟨fo1, fc1, rfl⟩ := slice_of_owns hown5
              obtain ⟨hr5, hd5⟩ := hdd.out.more hcw hRw hrw hrR hgrow hown5
              have HD5 : Hid (DReq w c R r m p (.slice fo1 (fs.length + 1) fc1) (fs ++ [(f, v)]) ⟨#[]⟩ a len cap (w5.setCell ⟨r, 2, none⟩ (.slice fo1 (fs.length + 1) fc1))) := hd5
              have HSH : Hid (ShortF (fs ++ [(f, v)])) := hsh.out.snoc hf hv
              clear c0 c1 c2 c3 f0 f1 f2 f3
              obtain ⟨⟨c0, c1, c2, c3⟩, f0, f1, f2, f3⟩ := four_facts hr5
              clear hr5 hd5 hgrow hown5 HBS
              go_wp2
              go_roundw
              case rel => exact ⟨k + 1, _, _, by omega, by simp; omega, by go_num, HSH, HD5⟩
              case measure => simp [intOf]; omega
      · go_wp2
        go_roundw
        case rel => exact ⟨k + 1, fs, _, by omega, by omega, by go_num, hsh, hdb⟩
        case measure => simp [intOf]; omega
    · skip
      obtain ⟨⟨c0, c1, c2, c3⟩, f0, f1, f2, f3⟩ := four_facts hda.out.hr
      obtain ⟨⟨d0, d1, d2, d3⟩, g0, g1, g2, g3⟩ := four_facts hda.out.hR
      by_cases hm3 : m = 3
      · have hme : (m == 3) = true := by rw [beq_iff_eq]; exact hm3
        clear hm3
        go_wp2_with fail
        refine (l3DrawBody_any c B a len cap zs _ hda.out.cur (HCO.out _ hda.out.grow) hB).mono ?_
        rintro e wb ⟨b, rfl, hb, hcub, hgb⟩
        have hdb : Hid (DReq w c R r m p (.slice fo fs.length fc) fs ⟨#[]⟩ a len cap wb) := hda.out.later hcw hRw hrw hcub hgb
        clear c0 c1 c2 c3 f0 f1 f2 f3 d0 d1 d2 d3 g0 g1 g2 g3 hcub hgb hda
        obtain ⟨⟨c0, c1, c2, c3⟩, f0, f1, f2, f3⟩ := four_facts hdb.out.hr
        have hdc : Hid (DReq w c R r m p (.slice fo fs.length fc) fs b a len cap (wb.setCell ⟨r, 3, none⟩ (.string b))) := hdb.out.setBody hcw hrw hrR b
        obtain ⟨⟨i0', i1, i2, i3⟩, j0, j1, j2, j3⟩ := four_facts hdc.out.hr
        obtain ⟨⟨d0, d1, d2, d3⟩, g0, g1, g2, g3⟩ := four_facts hdc.out.hR
        obtain ⟨hh, hfin⟩ := hdc.out.fin (bmax := 14) hcw hRw ⟨by omega, by omega⟩ hp (by omega) hsh.out hb
        obtain ⟨⟨k0, k1, k2, k3⟩, _⟩ := four_facts hh
        have HFIN : Hid _ := hfin
        unfold fourSet at k0 k1 k2 k3
        clear hh hfin
        go_wp2_with fail
        exact bodyPost_ret (v := .agg #[.int .i64 m, .string p, .slice fo fs.length fc, .string b]) (by simp [results, Try.results101, go_sem, k0, k1, k2, k3]) rfl HFIN.out
      · have hme : (m == 3) = false := by rw [beq_eq_false_iff_ne]; exact hm3
        obtain ⟨hh, hfin⟩ := hda.out.fin (bmax := 14) hcw hRw ⟨by omega, by omega⟩ hp (by omega) hsh.out (by decide)
        obtain ⟨⟨k0, k1, k2, k3⟩, _⟩ := four_facts hh
        have HFIN : Hid _ := hfin
        unfold fourSet at k0 k1 k2 k3
        clear hh hfin
        go_wp2_with fail
        exact bodyPost_ret (v := .agg #[.int .i64 m, .string p, .slice fo fs.length fc, .string ⟨#[]⟩]) (by simp [results, Try.results101, go_sem, k0, k1, k2, k3]) rfl HFIN.out

end Go.Proofs.Ythlmnmbhgkmbfaa

namespace Go.Proofs.Ythlmnmbhgkmbfaa
open Go.RowKit
open Go.Lib hiding intOf

theorem DReq.setMethod {w : World} {c R r : Nat} {m : Int} {p : ByteArray} {fv : Value} {fs : List (ByteArray × ByteArray)} {b : ByteArray} {a : Option Addr} {len cap : Nat} {W : World} (h : DReq w c R r m p fv fs b a len cap W) (hcw : c < w.heap.size) (hrw : w.heap.size ≤ r) (hrR : R ≠ r) (m' : Int) : DReq w c R r m' p fv fs b a len cap (W.setCell ⟨r, 0, none⟩ (.int .i64 m')) := by
  refine ⟨?_, ?_, ?_, ?_, grown_later h.grow (grown_set W r 0 _) (fun g e => by cases e; exact hrw), h.apart⟩
  · rw [heap_setCell_other _ _ R _ (fun e => hrR e)]; exact h.hR
  · have := heap_set W r 0 _ _ _ (.int .i64 m') h.hr
    simpa using this
  · exact h.own.kept (grown_set W r 0 _) (by cases h3 : fv.ownBlock <;> simp; exact (h.apart _ h3).2)
  · obtain ⟨i, hh, hi, h4⟩ := h.cur
    refine ⟨i, hh, hi, ?_⟩
    rw [heap_setCell_other _ _ c _ (fun e => by have e2 : c = r := e; omega)]
    exact h4
theorem DReq.setPath {w : World} {c R r : Nat} {m : Int} {p : ByteArray} {fv : Value} {fs : List (ByteArray × ByteArray)} {b : ByteArray} {a : Option Addr} {len cap : Nat} {W : World} (h : DReq w c R r m p fv fs b a len cap W) (hcw : c < w.heap.size) (hrw : w.heap.size ≤ r) (hrR : R ≠ r) (p' : ByteArray) : DReq w c R r m p' fv fs b a len cap (W.setCell ⟨r, 1, none⟩ (.string p')) := by
  refine ⟨?_, ?_, ?_, ?_, grown_later h.grow (grown_set W r 1 _) (fun g e => by cases e; exact hrw), h.apart⟩
  · rw [heap_setCell_other _ _ R _ (fun e => hrR e)]; exact h.hR
  · have := heap_set W r 1 _ _ _ (.string p') h.hr
    simpa using this
  · exact h.own.kept (grown_set W r 1 _) (by cases h3 : fv.ownBlock <;> simp; exact (h.apart _ h3).2)
  · obtain ⟨i, hh, hi, h4⟩ := h.cur
    refine ⟨i, hh, hi, ?_⟩
    rw [heap_setCell_other _ _ c _ (fun e => by have e2 : c = r := e; omega)]
    exact h4
theorem DReq.setFields {w : World} {c R r : Nat} {m : Int} {p : ByteArray} {fv : Value} {fs : List (ByteArray × ByteArray)} {b : ByteArray} {a : Option Addr} {len cap : Nat} {W : World} {gv : Value} {gs : List (ByteArray × ByteArray)} (h : DReq w c R r m p fv fs b a len cap W) (hcw : c < w.heap.size) (hrw : w.heap.size ≤ r) (hrR : R ≠ r) (hown : W.ownsRow w.heap.size 68 2 gv gs.length (flatF gs)) : DReq w c R r m p gv gs b a len cap (W.setCell ⟨r, 2, none⟩ gv) := by
  have hap : ∀ j, gv.ownBlock = some j → j ≠ R ∧ j ≠ r := fun j hj => by
    obtain ⟨cur, hcj⟩ := owns_heap hown hj
    refine ⟨fun e => ?_, fun e => ?_⟩
    · rw [e, h.hR] at hcj
      simp at hcj
    · rw [e, h.hr] at hcj
      simp at hcj
  refine ⟨?_, ?_, ?_, ?_, grown_later h.grow (grown_set W r 2 _) (fun g e => by cases e; exact hrw), hap⟩
  · rw [heap_setCell_other _ _ R _ (fun e => hrR e)]; exact h.hR
  · have := heap_set W r 2 _ _ _ gv h.hr
    simpa using this
  · exact hown.kept (grown_set W r 2 _) (by cases h3 : gv.ownBlock <;> simp; exact (hap _ h3).2)
  · obtain ⟨i, hh, hi, h4⟩ := h.cur
    refine ⟨i, hh, hi, ?_⟩
    rw [heap_setCell_other _ _ c _ (fun e => by have e2 : c = r := e; omega)]
    exact h4

/-- How long the body is that lies there. -/
def bodyLen (r : Nat) (W : World) : Nat := match W.cell? ⟨r, 3, none⟩ with | some (.string t) => t.size | _ => 0

set_option maxHeartbeats 4000000 in
set_option maxRecDepth 100000 in
theorem l3DrawBadReq_any (c B : Nat) (a : Option Addr) (len cap : Nat) (zs : List Int) (w : World) (hcur : CurAt w c a len cap) (hcode : CodeAt w B a len zs) (hB : B ≤ c) :
    Calls Try.prog 73 #[.pointer (some ⟨c, 0, none⟩)] w fun e w' => ReqDrawn 140 w c a len cap e w' := by
  have hcw := hcur.lt
  have HCO : Hid (∀ W, w.grownBy W (some c) → CodeAt W B a len zs) := fun W h => hcode.grown h hB
  obtain ⟨R, hR⟩ : ∃ R, R = w.heap.size := ⟨_, rfl⟩
  have hg0 : w.grownBy (w.alloc (.cells #[.int .i64 0, .string ⟨#[]⟩, .slice none 0 0, .string ⟨#[]⟩] 26)) (some c) := World.grownBy_alloc w _ _
  have hcu0 := hcur.below ((Below.refl _ w).alloc (Nat.le_refl _) (.cells #[.int .i64 0, .string ⟨#[]⟩, .slice none 0 0, .string ⟨#[]⟩] 26)) hcw
  have hco0 := HCO.out _ hg0
  have hz0' : (w.alloc (.cells #[.int .i64 0, .string ⟨#[]⟩, .slice none 0 0, .string ⟨#[]⟩] 26)).heap[R]? = some (.cells #[.int .i64 0, .string ⟨#[]⟩, .slice none 0 0, .string ⟨#[]⟩] 26) := by rw [hR]; exact heap_alloc_new w _
  have hRlt : R < (w.alloc (.cells #[.int .i64 0, .string ⟨#[]⟩, .slice none 0 0, .string ⟨#[]⟩] 26)).heap.size := by rw [hR]; simp
  have hRc : R ≠ c := by omega
  have hRw : w.heap.size ≤ R := by omega
  have HRE : Hid (R = w.heap.size) := hR
  obtain ⟨w0, hw0⟩ : ∃ W, W = w.alloc (.cells #[.int .i64 0, .string ⟨#[]⟩, .slice none 0 0, .string ⟨#[]⟩] 26) := ⟨_, rfl⟩
  have HW0 : Hid (w0 = w.alloc (.cells #[.int .i64 0, .string ⟨#[]⟩, .slice none 0 0, .string ⟨#[]⟩] 26)) := hw0
  rw [← hw0] at hg0 hcu0 hco0 hz0' hRlt
  clear hcur hcode hR hw0
  go_enter Try.func73, Try.ntmps73
  go_wp2_with fail
  rw [← HW0.out]
  refine (l3DrawReq_any c B a len cap zs _ hcu0 hco0 hB).mono ?_
  rintro e w1 ⟨m, p, fv, fs, b, rfl, hm, hp, hown, hfl, hsh, hb, hcu1, hg1⟩
  obtain ⟨fo, fc, rfl⟩ := slice_of_owns hown
  have hz1' : w1.heap[R]? = some (.cells #[.int .i64 0, .string ⟨#[]⟩, .slice none 0 0, .string ⟨#[]⟩] 26) := by rw [hg1.block R hRlt (fun e => hRc (Option.some.inj e))]; exact hz0'
  have hR1 : R < w1.heap.size := (Array.getElem?_eq_some_iff.1 hz1').1
  obtain ⟨r, hr⟩ : ∃ r, r = w1.heap.size := ⟨_, rfl⟩
  have hga1 := grownBy_trans hg0 hg1
  have hrw : w.heap.size ≤ r := by rw [hr]; exact hga1.size
  have hrR : R ≠ r := by omega
  have HD0 : Hid (DReq w c R r m p (.slice fo fs.length fc) fs b a len cap (w1.alloc (.cells #[.int .i64 m, .string p, .slice fo fs.length fc, .string b] 26))) := by
    have hgal : w1.grownBy (w1.alloc (.cells #[.int .i64 m, .string p, .slice fo fs.length fc, .string b] 26)) (some c) := World.grownBy_alloc w1 _ _
    have how : w1.ownsRow w.heap.size 68 2 (.slice fo fs.length fc) fs.length (flatF fs) := by
      refine ⟨hown.1, ?_⟩
      rcases hown.2 with h6 | ⟨g6, cap6, cur6, h7, h8, h9⟩
      · exact .inl h6
      · exact .inr ⟨g6, cap6, cur6, h7, by have := hg0.size; omega, h9⟩
    refine ⟨?_, by rw [hr]; exact heap_alloc_new w1 _, how.alloc _, hcu1.below ((Below.refl _ w1).alloc (Nat.le_refl _) _) hcu1.lt, grownBy_trans hga1 hgal, fun j hj => ⟨by have := owns_ge hown hj; omega, by have := owns_lt hown hj; omega⟩⟩
    rw [hgal.block R hR1 (fun e => hRc (Option.some.inj e))]; exact hz1'
  have HR' : Hid (r = w1.heap.size) := hr
  obtain ⟨w2, hw2⟩ : ∃ W, W = w1.alloc (.cells #[.int .i64 m, .string p, .slice fo fs.length fc, .string b] 26) := ⟨_, rfl⟩
  have HW2 : Hid (w2 = w1.alloc (.cells #[.int .i64 m, .string p, .slice fo fs.length fc, .string b] 26)) := hw2
  rw [← hw2] at HD0
  rw [← HRE.out]
  clear hr hz1' hR1 hcu1 hga1 hw2 hown hg1 hg0 hcu0 hco0 hz0' hRlt
  go_wp2_with fail
  rw [← HR'.out, ← HW2.out]
  refine (l1Below_any c B 20 a len cap zs _ HD0.out.cur (HCO.out _ HD0.out.grow) hB (by omega) (by omega)).mono ?_
  rintro e wa ⟨x, rfl, hx0, hx1, hcua, hgaa⟩
  have hda : Hid (DReq w c R r m p (.slice fo fs.length fc) fs b a len cap wa) := HD0.out.later hcw hRw hrw hcua hgaa
  clear hcua hgaa HD0
  obtain ⟨⟨c0, c1, c2, c3⟩, f0, f1, f2, f3⟩ := four_facts hda.out.hr
  obtain ⟨⟨d0, d1, d2, d3⟩, g0, g1, g2, g3⟩ := four_facts hda.out.hR
  by_cases x0 : x = 0
  · subst x0
    go_wp2_with fail
    refine (l1Below_any c B 7 a len cap zs _ hda.out.cur (HCO.out _ hda.out.grow) hB (by omega) (by omega)).mono ?_
    rintro e wb ⟨y, rfl, hy0, hy1, hcub, hgb⟩
    have hdb : Hid (DReq w c R r m p (.slice fo fs.length fc) fs b a len cap wb) := hda.out.later hcw hRw hrw hcub hgb
    have hdc : Hid (DReq w c R r (y - 1) p (.slice fo fs.length fc) fs b a len cap (wb.setCell ⟨r, 0, none⟩ (.int .i64 (y - 1)))) := hdb.out.setMethod hcw hrw hrR (y - 1)
    clear c0 c1 c2 c3 f0 f1 f2 f3 d0 d1 d2 d3 g0 g1 g2 g3 hcub hgb hda
    obtain ⟨⟨c0, c1, c2, c3⟩, f0, f1, f2, f3⟩ := four_facts hdb.out.hr
    obtain ⟨⟨i0, i1, i2, i3⟩, j0, j1, j2, j3⟩ := four_facts hdc.out.hr
    obtain ⟨⟨d0, d1, d2, d3⟩, g0, g1, g2, g3⟩ := four_facts hdc.out.hR
    obtain ⟨hh, hfin⟩ := hdc.out.fin (bmax := 140) hcw hRw ⟨by omega, by omega⟩ hp hfl hsh (by omega)
    obtain ⟨⟨k0, k1, k2, k3⟩, _⟩ := four_facts hh
    have HFIN : Hid _ := hfin
    unfold fourSet at k0 k1 k2 k3
    clear hh hfin
    go_wp2_with fail
    exact bodyPost_ret (v := .agg #[.int .i64 (y - 1), .string p, (.slice fo fs.length fc), .string b]) (by simp [results, Try.results73, go_sem, k0, k1, k2, k3]) rfl HFIN.out
  · by_cases x1 : x = 1
    · subst x1
      go_wp2_with fail
      refine (pick_new c B [⟨#[]⟩, ⟨#[97]⟩, ⟨#[47, 32, 98]⟩, ⟨#[47, 127]⟩, ⟨#[47, 48, 49, 50, 51, 52, 53, 54, 55, 56, 57, 48, 49, 50, 51, 52, 53, 54, 55, 56, 57, 48, 49, 50, 51, 52, 53, 54, 55, 56, 57, 48, 49, 50, 51, 52, 53, 54, 55, 56, 57, 48, 49, 50, 51, 52, 53, 54, 55, 56, 57, 48, 49, 50, 51, 52, 53, 54, 55, 56, 57]⟩] 64 (by decide) a len cap zs wa hda.out.cur (HCO.out _ hda.out.grow) hB (by decide) (by decide)).mono ?_
      rintro e wb ⟨q, rfl, hq, hcub, hgb⟩
      have hdb : Hid (DReq w c R r m p (.slice fo fs.length fc) fs b a len cap wb) := hda.out.later hcw hRw hrw hcub hgb
      have hdc : Hid (DReq w c R r m q (.slice fo fs.length fc) fs b a len cap (wb.setCell ⟨r, 1, none⟩ (.string q))) := hdb.out.setPath hcw hrw hrR q
      clear c0 c1 c2 c3 f0 f1 f2 f3 d0 d1 d2 d3 g0 g1 g2 g3 hcub hgb hda
      obtain ⟨⟨c0, c1, c2, c3⟩, f0, f1, f2, f3⟩ := four_facts hdb.out.hr
      obtain ⟨⟨i0, i1, i2, i3⟩, j0, j1, j2, j3⟩ := four_facts hdc.out.hr
      obtain ⟨⟨d0, d1, d2, d3⟩, g0, g1, g2, g3⟩ := four_facts hdc.out.hR
      obtain ⟨hh, hfin⟩ := hdc.out.fin (bmax := 140) hcw hRw hm hq hfl hsh (by omega)
      obtain ⟨⟨k0, k1, k2, k3⟩, _⟩ := four_facts hh
      have HFIN : Hid _ := hfin
      unfold fourSet at k0 k1 k2 k3
      clear hh hfin
      go_wp2_with fail
      exact bodyPost_ret (v := .agg #[.int .i64 m, .string q, (.slice fo fs.length fc), .string b]) (by simp [results, Try.results73, go_sem, k0, k1, k2, k3]) rfl HFIN.out
    · by_cases x2 : x = 2
      · subst x2
        go_wp2_with fail
        refine (l2Draw_any c B a len cap zs _ hda.out.cur (HCO.out _ hda.out.grow) hB).mono ?_
        rintro e wb ⟨gv, gs, rfl, howng, hgl, hgsh, hcub, hgb⟩
        obtain ⟨go, gc, rfl⟩ := slice_of_owns howng
        have hdb : Hid (DReq w c R r m p (.slice fo fs.length fc) fs b a len cap wb) := hda.out.later hcw hRw hrw hcub hgb
        have hwid : wb.ownsRow w.heap.size 68 2 (.slice go gs.length gc) gs.length (flatF gs) := by
          refine ⟨howng.1, ?_⟩
          rcases howng.2 with h6 | ⟨g6, cap6, cur6, h7, h8, h9⟩
          · exact .inl h6
          · exact .inr ⟨g6, cap6, cur6, h7, by have := hda.out.grow.size; omega, h9⟩
        have hdc : Hid (DReq w c R r m p (.slice go gs.length gc) gs b a len cap (wb.setCell ⟨r, 2, none⟩ (.slice go gs.length gc))) := hdb.out.setFields hcw hrw hrR hwid
        clear c0 c1 c2 c3 f0 f1 f2 f3 d0 d1 d2 d3 g0 g1 g2 g3 hcub hgb hda howng hwid
        obtain ⟨⟨c0, c1, c2, c3⟩, f0, f1, f2, f3⟩ := four_facts hdb.out.hr
        obtain ⟨⟨i0, i1, i2, i3⟩, j0, j1, j2, j3⟩ := four_facts hdc.out.hr
        obtain ⟨⟨d0, d1, d2, d3⟩, g0, g1, g2, g3⟩ := four_facts hdc.out.hR
        obtain ⟨hh, hfin⟩ := hdc.out.fin (bmax := 140) hcw hRw hm hp hgl hgsh (by omega)
        obtain ⟨⟨k0, k1, k2, k3⟩, _⟩ := four_facts hh
        have HFIN : Hid _ := hfin
        unfold fourSet at k0 k1 k2 k3
        clear hh hfin
        go_wp2_with fail
        exact bodyPost_ret (v := .agg #[.int .i64 m, .string p, .slice go gs.length gc, .string b]) (by simp [results, Try.results73, go_sem, k0, k1, k2, k3]) rfl HFIN.out
      · by_cases x3 : x = 3
        · subst x3
          clear c0 c1 c2 c3 f0 f1 f2 f3 d0 d1 d2 d3 g0 g1 g2 g3
          go_wp2_with fail
          go_loopw [] (fun wr => ∃ b2 : ByteArray, b2.size ≤ 121 ∧ Hid (DReq w c R r m p (.slice fo fs.length fc) fs b2 a len cap wr)) (fun wr => 122 - bodyLen r wr)
          case atStart => exact ⟨b, by omega, hda⟩
          case round =>
            obtain ⟨b2, hb2, hdr⟩ := hrel
            have hdw : Hid (DReq w c R r m p (.slice fo fs.length fc) fs b2 a len cap wr.drew) := hdr.out.later hcw hRw hrw hdr.out.cur (grown_below ((Below.refl _ wr).drew) _)
            obtain ⟨⟨c0, c1, c2, c3⟩, f0, f1, f2, f3⟩ := four_facts hdr.out.hr
            have HL0 : Hid (bodyLen r wr = b2.size) := by show _ = _; unfold bodyLen; rw [c3]
            have HA : Hid (∀ wb, CurAt wb c a len cap → wr.drew.grownBy wb (some c) → wb.cell? ⟨r, 3, none⟩ = some (.string b2) ∧ Hid (DReq w c R r m p (.slice fo fs.length fc) fs b2 a len cap wb)) := fun wb h1 h2 => by
              have h3 := hdw.out.later hcw hRw hrw h1 h2
              exact ⟨(four_facts h3.hr).1.2.2.2, h3⟩
            clear c0 c1 c2 f0 f1 f2 f3
            go_wp2_with fail
            go_region_held3 (fun W => W.cell? ⟨r, 3, none⟩ = some (.string b2)) (first | assumption | go_keep) (first | (go_at_call 74; refine (l1Below_any c B 2 a len cap zs _ hdw.out.cur (HCO.out _ hdw.out.grow) hB (by omega) (by omega)).mono ?_; rintro e wb ⟨y, rfl, hy0, hy1, hcub, hgb⟩; obtain ⟨hcb, hdb⟩ := HA.out wb hcub hgb; have hwy : IntKind.i64.wrap (120 + y) = 120 + y := by rw [IntKind.wrap_i64]; omega))
            clear hcub hgb hdw HA c3
            have hdc : Hid (DReq w c R r m p (.slice fo fs.length fc) fs (b2 ++ ⟨#[98]⟩) a len cap (wb.setCell ⟨r, 3, none⟩ (.string (b2 ++ ⟨#[98]⟩)))) := hdb.out.setBody hcw hrw hrR _
            obtain ⟨⟨c0, c1, c2, c3⟩, f0, f1, f2, f3⟩ := four_facts hdb.out.hr
            obtain ⟨⟨d0, d1, d2, d3⟩, g0, g1, g2, g3⟩ := four_facts hdb.out.hR
            have e98 : (⟨#[98]⟩ : ByteArray).size = 1 := rfl
            by_cases hlt : (b2.size : Int) < 120 + y
            · have HL1 : Hid (bodyLen r (wb.setCell ⟨r, 3, none⟩ (.string (b2 ++ ⟨#[98]⟩))) = b2.size + 1) := by
                show _ = _
                have := (four_facts hdc.out.hr).1.2.2.2
                unfold bodyLen; rw [this]; simp only [ByteArray.size_append]; omega
              have q1 : ¬ 9223372036854775807 < b2.size + 1 := by omega
              clear d0 d1 d2 d3 g0 g1 g2 g3
              go_wp2
              go_roundw
              case rel => exact ⟨_, by simp only [ByteArray.size_append]; omega, hdc⟩
              case measure => rw [HL1.out, HL0.out]; omega
            · have hdec : decide ((b2.size : Int) < 120 + y) = false := by simpa using hlt
              clear hdc hdr hda HL0
              obtain ⟨hh, hfin⟩ := hdb.out.fin (bmax := 140) hcw hRw hm hp hfl hsh (by omega)
              obtain ⟨⟨k0, k1, k2, k3⟩, _⟩ := four_facts hh
              have HFIN : Hid _ := hfin
              unfold fourSet at k0 k1 k2 k3
              clear hh hfin
              go_wp2_with fail
              exact bodyPost_ret (v := .agg #[.int .i64 m, .string p, (.slice fo fs.length fc), .string b2]) (by simp [results, Try.results73, go_sem, k0, k1, k2, k3]) rfl HFIN.out
        · have e0 : (x == 0) = false := by rw [beq_eq_false_iff_ne]; exact x0
          have e1 : (x == 1) = false := by rw [beq_eq_false_iff_ne]; exact x1
          have e2 : (x == 2) = false := by rw [beq_eq_false_iff_ne]; exact x2
          have e3 : (x == 3) = false := by rw [beq_eq_false_iff_ne]; exact x3
          obtain ⟨hh, hfin⟩ := hda.out.fin (bmax := 140) hcw hRw hm hp hfl hsh (by omega)
          obtain ⟨⟨k0, k1, k2, k3⟩, _⟩ := four_facts hh
          have HFIN : Hid _ := hfin
          unfold fourSet at k0 k1 k2 k3
          clear hh hfin
          go_wp2_with fail
          exact bodyPost_ret (v := .agg #[.int .i64 m, .string p, (.slice fo fs.length fc), .string b]) (by simp [results, Try.results73, go_sem, k0, k1, k2, k3]) rfl HFIN.out

end Go.Proofs.Ythlmnmbhgkmbfaa

namespace Go.Proofs.Ythlmnmbhgkmbfaa
open Go.RowKit
open Go.Lib hiding intOf

theorem putL_len (fs : List (ByteArray × ByteArray)) (name value : ByteArray) : (putF fs name value).length ≤ fs.length + 1 := by
  unfold putF
  split
  · rw [List.length_set]; omega
  · rw [List.length_append]; simp
theorem putL_short {fs : List (ByteArray × ByteArray)} (h : ShortF fs) {name value : ByteArray} (h1 : name.size ≤ 64) (h2 : value.size ≤ 64) : ShortF (putF fs name value) := by
  by_cases hin : atF fs name < fs.length
  · unfold putF
    rw [if_pos hin]
    intro f hf
    rcases List.mem_or_eq_of_mem_set hf with hf | hf
    · exact h f hf
    · subst hf
      refine ⟨?_, h2⟩
      first
        | exact h1
        | (unfold nameAt
           rw [List.getD_eq_getElem?_getD, List.getElem?_eq_getElem hin]
           exact (h _ (List.getElem_mem hin)).1)
  · unfold putF
    rw [if_neg hin]
    exact h.snoc h1 h2

/-- While they are drawn. -/
structure FtSt (w : World) (c : Nat) (a : Option Addr) (len cap : Nat) (v : Value) (fs : List (ByteArray × ByteArray)) (wr : World) : Prop where
  own : wr.ownsRow (c + 1) 68 2 v fs.length (flatF fs)
  le : fs.length ≤ 41
  short : ShortF fs
  cur : CurAt wr c a len cap
  low : Below c w wr
theorem FtSt.grown {w : World} {c : Nat} {a : Option Addr} {len cap : Nat} {v : Value} {fs : List (ByteArray × ByteArray)} {wr W : World} (h : FtSt w c a len cap v fs wr) (hg : wr.grownBy W (some c)) (hcu : CurAt W c a len cap) : FtSt w c a len cap v fs W :=
  ⟨owns_same h.own (fun j hj => hg.block j (own_ltR h.own hj).2 (fun e => by cases e; have := (own_ltR h.own hj).1; omega)), h.le, h.short, hcu, h.low.grown hg (by have := h.cur.lt; omega) (by intro k hk; cases hk; exact Nat.le_refl _)⟩
end Go.Proofs.Ythlmnmbhgkmbfaa

namespace Go.Proofs.Ythlmnmbhgkmbfaa
open Go.RowKit
open Go.Lib hiding intOf

/-- A call on the cursor answers an answer. -/
def RespDrawn (bmax : Nat) (w : World) (c : Nat) (a : Option Addr) (len cap : Nat) (e : Ending) (w' : World) : Prop :=
  ∃ (m : Int) (v : Value) (fs : List (ByteArray × ByteArray)) (b : ByteArray), e = .returned (.agg #[.int .i64 m, v, .string b]) ∧ (-1000 ≤ m ∧ m ≤ 1000) ∧ w'.ownsRow w.heap.size 68 2 v fs.length (flatF fs) ∧ fs.length ≤ 40 ∧ ShortF fs ∧ b.size ≤ bmax ∧ CurAt w' c a len cap ∧ w.grownBy w' (some c)
/-- While it is drawn: the answer's memory R, the variable r. -/
structure DResp (w : World) (c R r : Nat) (m : Int) (fv : Value) (fs : List (ByteArray × ByteArray)) (b : ByteArray) (a : Option Addr) (len cap : Nat) (W : World) : Prop where
  hR : W.heap[R]? = some (.cells #[.int .i64 0, .slice none 0 0, .string ⟨#[]⟩] 32)
  hr : W.heap[r]? = some (.cells #[.int .i64 m, fv, .string b] 32)
  own : W.ownsRow w.heap.size 68 2 fv fs.length (flatF fs)
  cur : CurAt W c a len cap
  grow : w.grownBy W (some c)
  apart : ∀ j, fv.ownBlock = some j → j ≠ R ∧ j ≠ r
theorem DResp.later {w : World} {c R r : Nat} {m : Int} {fv : Value} {fs : List (ByteArray × ByteArray)} {b : ByteArray} {a : Option Addr} {len cap : Nat} {W : World} {W' : World} (h : DResp w c R r m fv fs b a len cap W) (hcw : c < w.heap.size) (hRw : w.heap.size ≤ R) (hrw : w.heap.size ≤ r) (hcu : CurAt W' c a len cap) (hg : W.grownBy W' (some c)) : DResp w c R r m fv fs b a len cap W' := by
  refine ⟨?_, ?_, ?_, hcu, grownBy_trans h.grow hg, h.apart⟩
  · rw [hg.block R ((Array.getElem?_eq_some_iff.1 h.hR).1) (fun e => by have := Option.some.inj e; omega)]; exact h.hR
  · rw [hg.block r ((Array.getElem?_eq_some_iff.1 h.hr).1) (fun e => by have := Option.some.inj e; omega)]; exact h.hr
  · exact h.own.kept hg (by cases h2 : fv.ownBlock <;> simp; exact fun e => by have h7 := owns_ge h.own h2; omega)
theorem DResp.setStatus {w : World} {c R r : Nat} {m : Int} {fv : Value} {fs : List (ByteArray × ByteArray)} {b : ByteArray} {a : Option Addr} {len cap : Nat} {W : World} {m' : Int} (h : DResp w c R r m fv fs b a len cap W) (hcw : c < w.heap.size) (hrw : w.heap.size ≤ r) (hrR : R ≠ r) : DResp w c R r m' fv fs b a len cap (W.setCell ⟨r, 0, none⟩ (.int .i64 m')) := by
  refine ⟨?_, ?_, ?_, ?_, grown_later h.grow (grown_set W r 0 _) (fun g e => by cases e; exact hrw), h.apart⟩
  · rw [heap_setCell_other _ _ R _ (fun e => hrR e)]; exact h.hR
  · have := heap_set W r 0 _ _ _ (.int .i64 m') h.hr
    simpa using this
  · exact h.own.kept (grown_set W r 0 _) (by cases h3 : fv.ownBlock <;> simp; exact (h.apart _ h3).2)
  · obtain ⟨i, hh, hi, h4⟩ := h.cur
    refine ⟨i, hh, hi, ?_⟩
    rw [heap_setCell_other _ _ c _ (fun e => by have e2 : c = r := e; omega)]
    exact h4
theorem DResp.setFields {w : World} {c R r : Nat} {m : Int} {fv : Value} {fs : List (ByteArray × ByteArray)} {b : ByteArray} {a : Option Addr} {len cap : Nat} {W : World} {gv : Value} {gs : List (ByteArray × ByteArray)} (h : DResp w c R r m fv fs b a len cap W) (hcw : c < w.heap.size) (hrw : w.heap.size ≤ r) (hrR : R ≠ r) (hown : W.ownsRow w.heap.size 68 2 gv gs.length (flatF gs)) : DResp w c R r m gv gs b a len cap (W.setCell ⟨r, 1, none⟩ (gv)) := by
  have hap : ∀ j, gv.ownBlock = some j → j ≠ R ∧ j ≠ r := fun j hj => by
    obtain ⟨cur, hcj⟩ := owns_heap hown hj
    refine ⟨fun e => ?_, fun e => ?_⟩
    · rw [e, h.hR] at hcj
      simp at hcj
    · rw [e, h.hr] at hcj
      simp at hcj
  refine ⟨?_, ?_, ?_, ?_, grown_later h.grow (grown_set W r 1 _) (fun g e => by cases e; exact hrw), hap⟩
  · rw [heap_setCell_other _ _ R _ (fun e => hrR e)]; exact h.hR
  · have := heap_set W r 1 _ _ _ (gv) h.hr
    simpa using this
  · exact hown.kept (grown_set W r 1 _) (by cases h3 : gv.ownBlock <;> simp; exact (hap _ h3).2)
  · obtain ⟨i, hh, hi, h4⟩ := h.cur
    refine ⟨i, hh, hi, ?_⟩
    rw [heap_setCell_other _ _ c _ (fun e => by have e2 : c = r := e; omega)]
    exact h4
theorem DResp.setBody {w : World} {c R r : Nat} {m : Int} {fv : Value} {fs : List (ByteArray × ByteArray)} {b : ByteArray} {a : Option Addr} {len cap : Nat} {W : World} {b' : ByteArray} (h : DResp w c R r m fv fs b a len cap W) (hcw : c < w.heap.size) (hrw : w.heap.size ≤ r) (hrR : R ≠ r) : DResp w c R r m fv fs b' a len cap (W.setCell ⟨r, 2, none⟩ (.string b')) := by
  refine ⟨?_, ?_, ?_, ?_, grown_later h.grow (grown_set W r 2 _) (fun g e => by cases e; exact hrw), h.apart⟩
  · rw [heap_setCell_other _ _ R _ (fun e => hrR e)]; exact h.hR
  · have := heap_set W r 2 _ _ _ (.string b') h.hr
    simpa using this
  · exact h.own.kept (grown_set W r 2 _) (by cases h3 : fv.ownBlock <;> simp; exact (h.apart _ h3).2)
  · obtain ⟨i, hh, hi, h4⟩ := h.cur
    refine ⟨i, hh, hi, ?_⟩
    rw [heap_setCell_other _ _ c _ (fun e => by have e2 : c = r := e; omega)]
    exact h4
/-- The answer handed back. -/
theorem DResp.fin {w : World} {c R r : Nat} {m : Int} {fv : Value} {fs : List (ByteArray × ByteArray)} {b : ByteArray} {a : Option Addr} {len cap : Nat} {W : World} (h : DResp w c R r m fv fs b a len cap W) (hcw : c < w.heap.size) (hRw : w.heap.size ≤ R) (hm : -1000 ≤ m ∧ m ≤ 1000) (hf : fs.length ≤ 40) (hsh : ShortF fs) {bmax : Nat} (hb : b.size ≤ bmax) :
    (threeSet W R (.int .i64 m) fv (.string b)).heap[R]? = some (.cells #[.int .i64 m, fv, .string b] 32) ∧ RespDrawn bmax w c a len cap (.returned (.agg #[.int .i64 m, fv, .string b])) (threeSet W R (.int .i64 m) fv (.string b)) := by
  have hg : W.grownBy (threeSet W R (.int .i64 m) fv (.string b)) (some R) := by
    unfold threeSet
    exact grown_then (grown_then (grown_set _ _ _ _) (grown_set _ _ _ _)) (grown_set _ _ _ _)
  refine ⟨three_set h.hR _ _ _, m, fv, fs, b, rfl, hm, ?_, hf, hsh, hb, ?_, grown_later h.grow hg (fun g e => by cases e; exact hRw)⟩
  · exact h.own.kept hg (by cases h3 : fv.ownBlock <;> simp; exact (h.apart _ h3).1)
  · obtain ⟨i, hh, hi, h4⟩ := h.cur
    refine ⟨i, hh, hi, ?_⟩
    rw [hg.block c (Array.getElem?_eq_some_iff.1 h4).1 (fun e => by have := Option.some.inj e; omega)]
    exact h4
/-- How long the body is that lies there. -/
def bodyLenP (r : Nat) (W : World) : Nat := match W.cell? ⟨r, 2, none⟩ with | some (.string t) => t.size | _ => 0

set_option maxHeartbeats 4000000 in
set_option maxRecDepth 100000 in
theorem l3DrawResp_any (c B : Nat) (a : Option Addr) (len cap : Nat) (zs : List Int) (w : World) (hcur : CurAt w c a len cap) (hcode : CodeAt w B a len zs) (hB : B ≤ c) :
    Calls Try.prog 83 #[.pointer (some ⟨c, 0, none⟩)] w fun e w' => RespDrawn 14 w c a len cap e w' := by
  have hcw := hcur.lt
  have HCO : Hid (∀ W, w.grownBy W (some c) → CodeAt W B a len zs) := fun W h => hcode.grown h hB
  obtain ⟨R, hR⟩ : ∃ R, R = w.heap.size := ⟨_, rfl⟩
  have hg0 : w.grownBy (w.alloc (.cells #[.int .i64 0, .slice none 0 0, .string ⟨#[]⟩] 32)) (some c) := World.grownBy_alloc w _ _
  have hcu0 := hcur.below ((Below.refl _ w).alloc (Nat.le_refl _) (.cells #[.int .i64 0, .slice none 0 0, .string ⟨#[]⟩] 32)) hcw
  have hco0 := HCO.out _ hg0
  have hz0' : (w.alloc (.cells #[.int .i64 0, .slice none 0 0, .string ⟨#[]⟩] 32)).heap[R]? = some (.cells #[.int .i64 0, .slice none 0 0, .string ⟨#[]⟩] 32) := by rw [hR]; exact heap_alloc_new w _
  have hRlt : R < (w.alloc (.cells #[.int .i64 0, .slice none 0 0, .string ⟨#[]⟩] 32)).heap.size := by rw [hR]; simp
  have hRc : R ≠ c := by omega
  have hRw : w.heap.size ≤ R := by omega
  have HRE : Hid (R = w.heap.size) := hR
  obtain ⟨w0, hw0⟩ : ∃ W, W = w.alloc (.cells #[.int .i64 0, .slice none 0 0, .string ⟨#[]⟩] 32) := ⟨_, rfl⟩
  have HW0 : Hid (w0 = w.alloc (.cells #[.int .i64 0, .slice none 0 0, .string ⟨#[]⟩] 32)) := hw0
  have HS0 : Hid (w0.heap.size = w.heap.size + 1) := by show _ = _; rw [hw0]; simp
  rw [← hw0] at hg0 hcu0 hco0 hz0' hRlt
  clear hcur hcode hR hw0
  go_enter Try.func83, Try.ntmps83
  go_wp2_with fail
  rw [← HW0.out, ← HS0.out]
  refine (pickInt_new c B [200, 200, 200, 200, 404, 500, 304] 200 500 (by decide) a len cap zs w0 hcu0 hco0 hB (by decide) (by decide)).mono ?_
  rintro e w1 ⟨m, rfl, hm1, hm2, hcu1, hg1⟩
  have hm : -1000 ≤ m ∧ m ≤ 1000 := by omega
  have hga1 := grownBy_trans hg0 hg1
  have hz1' : w1.heap[R]? = some (.cells #[.int .i64 0, .slice none 0 0, .string ⟨#[]⟩] 32) := by rw [hg1.block R hRlt (fun e => hRc (Option.some.inj e))]; exact hz0'
  have hR1 : R < w1.heap.size := (Array.getElem?_eq_some_iff.1 hz1').1
  clear hg0 hg1 hcu0 hco0 hz0' hRlt
  go_wp2_with fail
  refine (l2DrawRight_any c B a len cap zs _ hcu1 (HCO.out _ hga1) hB).mono ?_
  rintro e w2 ⟨fv, fs, rfl, hown, hfl, hsh, hcu2, hg2⟩
  obtain ⟨fo, fc, rfl⟩ := slice_of_owns hown
  have hga2 := grownBy_trans hga1 hg2
  have hz2' : w2.heap[R]? = some (.cells #[.int .i64 0, .slice none 0 0, .string ⟨#[]⟩] 32) := by rw [hg2.block R hR1 (fun e => hRc (Option.some.inj e))]; exact hz1'
  have hR2 : R < w2.heap.size := (Array.getElem?_eq_some_iff.1 hz2').1
  have HOWN : Hid (w2.ownsRow w1.heap.size 68 2 (.slice fo fs.length fc) fs.length (flatF fs)) := hown
  have HSZ1 : Hid (w.heap.size ≤ w1.heap.size ∧ R < w1.heap.size ∧ c < w1.heap.size) := ⟨hga1.size, hR1, hcu1.lt⟩
  clear hg2 hga1 hcu1 hz1' hR1 hown
  go_wp2_with fail
  refine (l3DrawBody_any c B a len cap zs _ hcu2 (HCO.out _ hga2) hB).mono ?_
  rintro e w3 ⟨b, rfl, hb, hcu3, hg3⟩
  have hga3 := grownBy_trans hga2 hg3
  have hz3' : w3.heap[R]? = some (.cells #[.int .i64 0, .slice none 0 0, .string ⟨#[]⟩] 32) := by rw [hg3.block R hR2 (fun e => hRc (Option.some.inj e))]; exact hz2'
  have hR3 : R < w3.heap.size := (Array.getElem?_eq_some_iff.1 hz3').1
  have HOWN3 : Hid (w3.ownsRow w1.heap.size 68 2 (.slice fo fs.length fc) fs.length (flatF fs)) := owns_grown HOWN.out hg3 HSZ1.out.2.2
  rw [← HRE.out]
  have hs1 := HSZ1.out
  clear hg3 hga2 hcu2 hz2' hR2 HOWN
  obtain ⟨r, hr⟩ : ∃ r, r = w3.heap.size := ⟨_, rfl⟩
  have hrw : w.heap.size ≤ r := by rw [hr]; exact hga3.size
  have hrR : R ≠ r := by omega
  have HD0 : Hid (DResp w c R r m (.slice fo fs.length fc) fs b a len cap (w3.alloc (.cells #[.int .i64 m, .slice fo fs.length fc, .string b] 32))) := by
    have hgal : w3.grownBy (w3.alloc (.cells #[.int .i64 m, .slice fo fs.length fc, .string b] 32)) (some c) := World.grownBy_alloc w3 _ _
    refine ⟨?_, by rw [hr]; exact heap_alloc_new w3 _, (owns_wide HOWN3.out (by omega)).alloc _, hcu3.below ((Below.refl _ w3).alloc (Nat.le_refl _) _) hcu3.lt, grownBy_trans hga3 hgal, fun j hj => ⟨by have := owns_ge HOWN3.out hj; omega, by have := owns_lt HOWN3.out hj; omega⟩⟩
    rw [hgal.block R hR3 (fun e => hRc (Option.some.inj e))]; exact hz3'
  have HR' : Hid (r = w3.heap.size) := hr
  obtain ⟨wv, hwv⟩ : ∃ W, W = w3.alloc (.cells #[.int .i64 m, .slice fo fs.length fc, .string b] 32) := ⟨_, rfl⟩
  have HWV : Hid (wv = w3.alloc (.cells #[.int .i64 m, .slice fo fs.length fc, .string b] 32)) := hwv
  rw [← hwv] at HD0
  clear hr hz3' hR3 hcu3 hga3 hwv HOWN3 HSZ1 hs1
  go_upto_region 2 with fail
  rw [← HR'.out, ← HWV.out]
  go_wp2_with fail
  refine (l1Once_any c B 2 a len cap zs _ HD0.out.cur (HCO.out _ HD0.out.grow) hB (by omega) (by omega)).mono ?_
  rintro e wx ⟨hbb, hcux, hgx⟩
  obtain ⟨bb, rfl⟩ := hbb.out
  have HDX0 : Hid (DResp w c R r m (.slice fo fs.length fc) fs b a len cap wx) := HD0.out.later hcw hRw hrw hcux hgx
  clear hbb hcux hgx HD0 HWV HR' HW0 HS0 HRE
  cases bb with
  | false =>
    obtain ⟨⟨c0, c1, c2⟩, f0, f1, f2⟩ := three_facts HDX0.out.hr
    obtain ⟨⟨d0, d1, d2⟩, g0, g1, g2⟩ := three_facts HDX0.out.hR
    obtain ⟨hh, hfin⟩ := HDX0.out.fin (bmax := 14) hcw hRw hm (by omega) hsh (by omega)
    obtain ⟨⟨k0, k1, k2⟩, _⟩ := three_facts hh
    have HFIN : Hid _ := hfin
    unfold threeSet at k0 k1 k2
    clear hh hfin
    go_wp2_with fail
    exact bodyPost_ret (v := .agg #[.int .i64 m, (.slice fo fs.length fc), .string b]) (by simp [results, Try.results83, go_sem, k0, k1, k2]) rfl HFIN.out
  | true =>
    have HDX : Hid (DResp w c R r m (.slice fo fs.length fc) fs b a len cap wx.drew) := HDX0.out.later hcw hRw hrw HDX0.out.cur (grown_below ((Below.refl _ wx).drew) _)
    clear HDX0
    go_upto_region 3 with fail
    obtain ⟨wy, hwy⟩ : ∃ W, W = wx.drew := ⟨_, rfl⟩
    refine wp_region_held_drew (S := fun _ => True) (by kernel_rfl) trivial (fun _ => ?_)
    rw [← hwy]
    rw [← hwy] at HDX
    clear hwy
    refine wpAnyH_takeD (i := 0) (v := .pointer (some ⟨r, 1, none⟩)) (some 14) rfl rfl (by kernel_rfl) (by kernel_rfl) (by kernel_rfl) (fun _ _ _ h => h) (Or.inl ⟨by rfl, by intro W _; go_simp⟩) trivial ?_
    simp only [Act.put, List.setIfInBounds_toArray, List.set_cons_zero, List.set_cons_succ]
    refine wpAnyH_takeD (i := 2) (v := .pointer (some ⟨c, 0, none⟩)) (some 16) rfl rfl (by kernel_rfl) (by kernel_rfl) (by kernel_rfl) (fun _ _ _ h => h) (Or.inl ⟨by rfl, by intro W _; go_simp⟩) trivial ?_
    simp only [Act.put, List.setIfInBounds_toArray, List.set_cons_zero, List.set_cons_succ]
    refine wpAnyH_ready (rs := [1, 3]) (by kernel_rfl) (by simp) ?_
    refine AllReadyH.cons rfl (fun K hK => ?_) (AllReadyH.cons rfl (fun K hK => ?_) AllReadyH.nil)
    · obtain ⟨⟨c0, c1, c2⟩, f0, f1, f2⟩ := three_facts HDX.out.hr
      go_simp
      refine hK.out _ _ trivial (fun _ => ?_)
      clear hK K c0 c1 c2 f0 f1 f2
      refine wpAnyH_ready (rs := [3]) (by kernel_rfl) (by simp) ?_
      refine AllReadyH.cons rfl (fun K hK => ?_) AllReadyH.nil
      go_simp
      refine hK.out _ _ trivial (fun _ => ?_)
      clear hK K
      refine wpAnyH_ready (rs := [4]) (by kernel_rfl) (by simp) ?_
      refine AllReadyH.cons rfl (fun K hK => ?_) AllReadyH.nil
      go_simp
      refine (pick_new c B [⟨#[109, 97, 120, 45, 97, 103, 101, 61, 53]⟩, ⟨#[109, 97, 120, 45, 97, 103, 101, 61, 50, 48]⟩, ⟨#[109, 97, 120, 45, 97, 103, 101, 61, 57]⟩] 10 (by decide) a len cap zs wy HDX.out.cur (HCO.out _ HDX.out.grow) hB (by decide) (by decide)).mono ?_
      rintro e wb ⟨t, rfl, hts, hcub, hgb⟩
      have HDB : Hid (DResp w c R r m (.slice fo fs.length fc) fs b a len cap wb) := HDX.out.later hcw hRw hrw hcub hgb
      refine hK.out _ _ trivial (fun _ => ?_)
      clear hK K hcub hgb
      obtain ⟨⟨c0, c1, c2⟩, f0, f1, f2⟩ := three_facts HDB.out.hr
      refine wpAnyH_ready (rs := [5]) (by kernel_rfl) (by simp) ?_
      refine AllReadyH.cons rfl (fun K hK => ?_) AllReadyH.nil
      go_simp
      refine (specPut_any _ fs.length w.heap.size fs ⟨#[99, 97, 99, 104, 101, 45, 99, 111, 110, 116, 114, 111, 108]⟩ t _ (FieldsV.of_owns HDB.out.own) (by omega)).mono ?_
      rintro e wd ⟨zv, rfl, ownz, bd⟩
      obtain ⟨oz, cz, rfl⟩ := slice_of_owns ownz
      have HDD : Hid (DResp w c R r m (.slice fo fs.length fc) fs b a len cap wd) := HDB.out.later hcw hRw hrw (HDB.out.cur.below bd HDB.out.cur.lt) (grown_below bd _)
      have HDE : Hid (DResp w c R r m (.slice oz (putF fs ⟨#[99, 97, 99, 104, 101, 45, 99, 111, 110, 116, 114, 111, 108]⟩ t).length cz) (putF fs ⟨#[99, 97, 99, 104, 101, 45, 99, 111, 110, 116, 114, 111, 108]⟩ t) b a len cap (wd.setCell ⟨r, 1, none⟩ (.slice oz (putF fs ⟨#[99, 97, 99, 104, 101, 45, 99, 111, 110, 116, 114, 111, 108]⟩ t).length cz))) := HDD.out.setFields hcw hrw hrR (owns_wide ownz (by have := HDB.out.grow.size; omega))
      refine hK.out _ _ trivial (fun _ => ?_)
      clear hK K c0 c1 c2 f0 f1 f2 ownz bd HDB
      obtain ⟨⟨c0, c1, c2⟩, f0, f1, f2⟩ := three_facts HDD.out.hr
      refine wpAnyH_takeD (i := 6) (v := .pointer (some ⟨r, 1, none⟩)) (some 20) rfl rfl (by kernel_rfl) (by kernel_rfl) (by kernel_rfl) (fun _ _ _ h => h) (Or.inl ⟨by rfl, by intro W _; go_simp⟩) trivial ?_
      simp only [Act.put, List.setIfInBounds_toArray, List.set_cons_zero, List.set_cons_succ]
      refine wpAnyH_ready (rs := [7]) (by kernel_rfl) (by simp) ?_
      refine AllReadyH.cons rfl (fun K hK => ?_) AllReadyH.nil
      go_simp
      refine hK.out _ _ trivial (fun _ => ?_)
      clear hK K c0 c1 c2 f0 f1 f2 HDD
      refine wpAnyH_done (by kernel_rfl) ?_ _
      have hpl : (putF fs ⟨#[99, 97, 99, 104, 101, 45, 99, 111, 110, 116, 114, 111, 108]⟩ t).length ≤ 40 := by have := putL_len fs ⟨#[99, 97, 99, 104, 101, 45, 99, 111, 110, 116, 114, 111, 108]⟩ t; omega
      have hps : ShortF (putF fs ⟨#[99, 97, 99, 104, 101, 45, 99, 111, 110, 116, 114, 111, 108]⟩ t) := putL_short hsh (by decide) (by omega)
      obtain ⟨PF, hPF⟩ : ∃ P, P = putF fs ⟨#[99, 97, 99, 104, 101, 45, 99, 111, 110, 116, 114, 111, 108]⟩ t := ⟨_, rfl⟩
      rw [← hPF] at hpl hps HDE ⊢
      obtain ⟨np, hnp⟩ : ∃ k, k = PF.length := ⟨_, rfl⟩
      rw [← hnp] at HDE ⊢
      clear hPF hnp
      obtain ⟨⟨c0, c1, c2⟩, f0, f1, f2⟩ := three_facts HDE.out.hr
      obtain ⟨⟨d0, d1, d2⟩, g0, g1, g2⟩ := three_facts HDE.out.hR
      obtain ⟨hh, hfin⟩ := HDE.out.fin (bmax := 14) hcw hRw hm hpl hps (by omega)
      obtain ⟨⟨k0, k1, k2⟩, _⟩ := three_facts hh
      have HFIN : Hid _ := hfin
      unfold threeSet at k0 k1 k2
      clear hh hfin
      go_wp2_with fail
      exact bodyPost_ret (v := .agg #[.int .i64 m, (.slice oz np cz), .string b]) (by simp [results, Try.results83, go_sem, k0, k1, k2]) rfl HFIN.out
    · go_simp
      refine hK.out _ _ trivial (fun _ => ?_)
      clear hK K
      refine wpAnyH_ready (rs := [1, 4]) (by kernel_rfl) (by simp) ?_
      refine AllReadyH.cons rfl (fun K hK => ?_) (AllReadyH.cons rfl (fun K hK => ?_) AllReadyH.nil)
      · have c1a : (wy.alloc (.cells #[.string ⟨#[109, 97, 120, 45, 97, 103, 101, 61, 53]⟩, .string ⟨#[109, 97, 120, 45, 97, 103, 101, 61, 50, 48]⟩, .string ⟨#[109, 97, 120, 45, 97, 103, 101, 61, 57]⟩] 9)).cell? ⟨r, 1, none⟩ = some (.slice fo fs.length fc) := (((Below.refl _ wy).alloc (Nat.le_refl _) (.cells #[.string ⟨#[109, 97, 120, 45, 97, 103, 101, 61, 53]⟩, .string ⟨#[109, 97, 120, 45, 97, 103, 101, 61, 50, 48]⟩, .string ⟨#[109, 97, 120, 45, 97, 103, 101, 61, 57]⟩] 9)).cell (p := ⟨r, 1, none⟩) (Array.getElem?_eq_some_iff.1 HDX.out.hr).1).trans (three_facts HDX.out.hr).1.2.1
        go_simp
        refine hK.out _ _ trivial (fun _ => ?_)
        clear hK K c1a
        refine wpAnyH_ready (rs := [4]) (by kernel_rfl) (by simp) ?_
        refine AllReadyH.cons rfl (fun K hK => ?_) AllReadyH.nil
        go_simp
        refine (pick_new c B [⟨#[109, 97, 120, 45, 97, 103, 101, 61, 53]⟩, ⟨#[109, 97, 120, 45, 97, 103, 101, 61, 50, 48]⟩, ⟨#[109, 97, 120, 45, 97, 103, 101, 61, 57]⟩] 10 (by decide) a len cap zs wy HDX.out.cur (HCO.out _ HDX.out.grow) hB (by decide) (by decide)).mono ?_
        rintro e wb ⟨t, rfl, hts, hcub, hgb⟩
        have HDB : Hid (DResp w c R r m (.slice fo fs.length fc) fs b a len cap wb) := HDX.out.later hcw hRw hrw hcub hgb
        refine hK.out _ _ trivial (fun _ => ?_)
        clear hK K hcub hgb
        obtain ⟨⟨c0, c1, c2⟩, f0, f1, f2⟩ := three_facts HDB.out.hr
        refine wpAnyH_ready (rs := [5]) (by kernel_rfl) (by simp) ?_
        refine AllReadyH.cons rfl (fun K hK => ?_) AllReadyH.nil
        go_simp
        refine (specPut_any _ fs.length w.heap.size fs ⟨#[99, 97, 99, 104, 101, 45, 99, 111, 110, 116, 114, 111, 108]⟩ t _ (FieldsV.of_owns HDB.out.own) (by omega)).mono ?_
        rintro e wd ⟨zv, rfl, ownz, bd⟩
        obtain ⟨oz, cz, rfl⟩ := slice_of_owns ownz
        have HDD : Hid (DResp w c R r m (.slice fo fs.length fc) fs b a len cap wd) := HDB.out.later hcw hRw hrw (HDB.out.cur.below bd HDB.out.cur.lt) (grown_below bd _)
        have HDE : Hid (DResp w c R r m (.slice oz (putF fs ⟨#[99, 97, 99, 104, 101, 45, 99, 111, 110, 116, 114, 111, 108]⟩ t).length cz) (putF fs ⟨#[99, 97, 99, 104, 101, 45, 99, 111, 110, 116, 114, 111, 108]⟩ t) b a len cap (wd.setCell ⟨r, 1, none⟩ (.slice oz (putF fs ⟨#[99, 97, 99, 104, 101, 45, 99, 111, 110, 116, 114, 111, 108]⟩ t).length cz))) := HDD.out.setFields hcw hrw hrR (owns_wide ownz (by have := HDB.out.grow.size; omega))
        refine hK.out _ _ trivial (fun _ => ?_)
        clear hK K c0 c1 c2 f0 f1 f2 ownz bd HDB
        obtain ⟨⟨c0, c1, c2⟩, f0, f1, f2⟩ := three_facts HDD.out.hr
        refine wpAnyH_takeD (i := 6) (v := .pointer (some ⟨r, 1, none⟩)) (some 20) rfl rfl (by kernel_rfl) (by kernel_rfl) (by kernel_rfl) (fun _ _ _ h => h) (Or.inl ⟨by rfl, by intro W _; go_simp⟩) trivial ?_
        simp only [Act.put, List.setIfInBounds_toArray, List.set_cons_zero, List.set_cons_succ]
        refine wpAnyH_ready (rs := [7]) (by kernel_rfl) (by simp) ?_
        refine AllReadyH.cons rfl (fun K hK => ?_) AllReadyH.nil
        go_simp
        refine hK.out _ _ trivial (fun _ => ?_)
        clear hK K c0 c1 c2 f0 f1 f2 HDD
        refine wpAnyH_done (by kernel_rfl) ?_ _
        have hpl : (putF fs ⟨#[99, 97, 99, 104, 101, 45, 99, 111, 110, 116, 114, 111, 108]⟩ t).length ≤ 40 := by have := putL_len fs ⟨#[99, 97, 99, 104, 101, 45, 99, 111, 110, 116, 114, 111, 108]⟩ t; omega
        have hps : ShortF (putF fs ⟨#[99, 97, 99, 104, 101, 45, 99, 111, 110, 116, 114, 111, 108]⟩ t) := putL_short hsh (by decide) (by omega)
        obtain ⟨PF, hPF⟩ : ∃ P, P = putF fs ⟨#[99, 97, 99, 104, 101, 45, 99, 111, 110, 116, 114, 111, 108]⟩ t := ⟨_, rfl⟩
        rw [← hPF] at hpl hps HDE ⊢
        obtain ⟨np, hnp⟩ : ∃ k, k = PF.length := ⟨_, rfl⟩
        rw [← hnp] at HDE ⊢
        clear hPF hnp
        obtain ⟨⟨c0, c1, c2⟩, f0, f1, f2⟩ := three_facts HDE.out.hr
        obtain ⟨⟨d0, d1, d2⟩, g0, g1, g2⟩ := three_facts HDE.out.hR
        obtain ⟨hh, hfin⟩ := HDE.out.fin (bmax := 14) hcw hRw hm hpl hps (by omega)
        obtain ⟨⟨k0, k1, k2⟩, _⟩ := three_facts hh
        have HFIN : Hid _ := hfin
        unfold threeSet at k0 k1 k2
        clear hh hfin
        go_wp2_with fail
        exact bodyPost_ret (v := .agg #[.int .i64 m, (.slice oz np cz), .string b]) (by simp [results, Try.results83, go_sem, k0, k1, k2]) rfl HFIN.out
      · go_simp
        refine (pick_new c B [⟨#[109, 97, 120, 45, 97, 103, 101, 61, 53]⟩, ⟨#[109, 97, 120, 45, 97, 103, 101, 61, 50, 48]⟩, ⟨#[109, 97, 120, 45, 97, 103, 101, 61, 57]⟩] 10 (by decide) a len cap zs wy HDX.out.cur (HCO.out _ HDX.out.grow) hB (by decide) (by decide)).mono ?_
        rintro e wb ⟨t, rfl, hts, hcub, hgb⟩
        have HDB : Hid (DResp w c R r m (.slice fo fs.length fc) fs b a len cap wb) := HDX.out.later hcw hRw hrw hcub hgb
        refine hK.out _ _ trivial (fun _ => ?_)
        clear hK K hcub hgb
        obtain ⟨⟨c0, c1, c2⟩, f0, f1, f2⟩ := three_facts HDB.out.hr
        refine wpAnyH_ready (rs := [1]) (by kernel_rfl) (by simp) ?_
        refine AllReadyH.cons rfl (fun K hK => ?_) AllReadyH.nil
        go_simp
        refine hK.out _ _ trivial (fun _ => ?_)
        clear hK K
        refine wpAnyH_ready (rs := [5]) (by kernel_rfl) (by simp) ?_
        refine AllReadyH.cons rfl (fun K hK => ?_) AllReadyH.nil
        go_simp
        refine (specPut_any _ fs.length w.heap.size fs ⟨#[99, 97, 99, 104, 101, 45, 99, 111, 110, 116, 114, 111, 108]⟩ t _ (FieldsV.of_owns HDB.out.own) (by omega)).mono ?_
        rintro e wd ⟨zv, rfl, ownz, bd⟩
        obtain ⟨oz, cz, rfl⟩ := slice_of_owns ownz
        have HDD : Hid (DResp w c R r m (.slice fo fs.length fc) fs b a len cap wd) := HDB.out.later hcw hRw hrw (HDB.out.cur.below bd HDB.out.cur.lt) (grown_below bd _)
        have HDE : Hid (DResp w c R r m (.slice oz (putF fs ⟨#[99, 97, 99, 104, 101, 45, 99, 111, 110, 116, 114, 111, 108]⟩ t).length cz) (putF fs ⟨#[99, 97, 99, 104, 101, 45, 99, 111, 110, 116, 114, 111, 108]⟩ t) b a len cap (wd.setCell ⟨r, 1, none⟩ (.slice oz (putF fs ⟨#[99, 97, 99, 104, 101, 45, 99, 111, 110, 116, 114, 111, 108]⟩ t).length cz))) := HDD.out.setFields hcw hrw hrR (owns_wide ownz (by have := HDB.out.grow.size; omega))
        refine hK.out _ _ trivial (fun _ => ?_)
        clear hK K c0 c1 c2 f0 f1 f2 ownz bd HDB
        obtain ⟨⟨c0, c1, c2⟩, f0, f1, f2⟩ := three_facts HDD.out.hr
        refine wpAnyH_takeD (i := 6) (v := .pointer (some ⟨r, 1, none⟩)) (some 20) rfl rfl (by kernel_rfl) (by kernel_rfl) (by kernel_rfl) (fun _ _ _ h => h) (Or.inl ⟨by rfl, by intro W _; go_simp⟩) trivial ?_
        simp only [Act.put, List.setIfInBounds_toArray, List.set_cons_zero, List.set_cons_succ]
        refine wpAnyH_ready (rs := [7]) (by kernel_rfl) (by simp) ?_
        refine AllReadyH.cons rfl (fun K hK => ?_) AllReadyH.nil
        go_simp
        refine hK.out _ _ trivial (fun _ => ?_)
        clear hK K c0 c1 c2 f0 f1 f2 HDD
        refine wpAnyH_done (by kernel_rfl) ?_ _
        have hpl : (putF fs ⟨#[99, 97, 99, 104, 101, 45, 99, 111, 110, 116, 114, 111, 108]⟩ t).length ≤ 40 := by have := putL_len fs ⟨#[99, 97, 99, 104, 101, 45, 99, 111, 110, 116, 114, 111, 108]⟩ t; omega
        have hps : ShortF (putF fs ⟨#[99, 97, 99, 104, 101, 45, 99, 111, 110, 116, 114, 111, 108]⟩ t) := putL_short hsh (by decide) (by omega)
        obtain ⟨PF, hPF⟩ : ∃ P, P = putF fs ⟨#[99, 97, 99, 104, 101, 45, 99, 111, 110, 116, 114, 111, 108]⟩ t := ⟨_, rfl⟩
        rw [← hPF] at hpl hps HDE ⊢
        obtain ⟨np, hnp⟩ : ∃ k, k = PF.length := ⟨_, rfl⟩
        rw [← hnp] at HDE ⊢
        clear hPF hnp
        obtain ⟨⟨c0, c1, c2⟩, f0, f1, f2⟩ := three_facts HDE.out.hr
        obtain ⟨⟨d0, d1, d2⟩, g0, g1, g2⟩ := three_facts HDE.out.hR
        obtain ⟨hh, hfin⟩ := HDE.out.fin (bmax := 14) hcw hRw hm hpl hps (by omega)
        obtain ⟨⟨k0, k1, k2⟩, _⟩ := three_facts hh
        have HFIN : Hid _ := hfin
        unfold threeSet at k0 k1 k2
        clear hh hfin
        go_wp2_with fail
        exact bodyPost_ret (v := .agg #[.int .i64 m, (.slice oz np cz), .string b]) (by simp [results, Try.results83, go_sem, k0, k1, k2]) rfl HFIN.out


set_option maxHeartbeats 4000000 in
set_option maxRecDepth 100000 in
theorem l3DrawBadResp_any (c B : Nat) (a : Option Addr) (len cap : Nat) (zs : List Int) (w : World) (hcur : CurAt w c a len cap) (hcode : CodeAt w B a len zs) (hB : B ≤ c) :
    Calls Try.prog 51 #[.pointer (some ⟨c, 0, none⟩)] w fun e w' => RespDrawn 140 w c a len cap e w' := by
  have hcw := hcur.lt
  have HCO : Hid (∀ W, w.grownBy W (some c) → CodeAt W B a len zs) := fun W h => hcode.grown h hB
  obtain ⟨R, hR⟩ : ∃ R, R = w.heap.size := ⟨_, rfl⟩
  have hg0 : w.grownBy (w.alloc (.cells #[.int .i64 0, .slice none 0 0, .string ⟨#[]⟩] 32)) (some c) := World.grownBy_alloc w _ _
  have hcu0 := hcur.below ((Below.refl _ w).alloc (Nat.le_refl _) (.cells #[.int .i64 0, .slice none 0 0, .string ⟨#[]⟩] 32)) hcw
  have hco0 := HCO.out _ hg0
  have hz0' : (w.alloc (.cells #[.int .i64 0, .slice none 0 0, .string ⟨#[]⟩] 32)).heap[R]? = some (.cells #[.int .i64 0, .slice none 0 0, .string ⟨#[]⟩] 32) := by rw [hR]; exact heap_alloc_new w _
  have hRlt : R < (w.alloc (.cells #[.int .i64 0, .slice none 0 0, .string ⟨#[]⟩] 32)).heap.size := by rw [hR]; simp
  have hRc : R ≠ c := by omega
  have hRw : w.heap.size ≤ R := by omega
  have HRE : Hid (R = w.heap.size) := hR
  obtain ⟨w0, hw0⟩ : ∃ W, W = w.alloc (.cells #[.int .i64 0, .slice none 0 0, .string ⟨#[]⟩] 32) := ⟨_, rfl⟩
  have HW0 : Hid (w0 = w.alloc (.cells #[.int .i64 0, .slice none 0 0, .string ⟨#[]⟩] 32)) := hw0
  have HS0 : Hid (w0.heap.size = w.heap.size + 1) := by show _ = _; rw [hw0]; simp
  rw [← hw0] at hg0 hcu0 hco0 hz0' hRlt
  clear hcur hcode hR hw0
  go_enter Try.func51, Try.ntmps51
  go_wp2_with fail
  rw [← HW0.out]
  refine (l3DrawResp_any c B a len cap zs _ hcu0 hco0 hB).mono ?_
  rintro e w1 ⟨m, fv, fs, b, rfl, hm, hown, hfl, hsh, hb, hcu1, hg1⟩
  obtain ⟨fo, fc, rfl⟩ := slice_of_owns hown
  have hz1' : w1.heap[R]? = some (.cells #[.int .i64 0, .slice none 0 0, .string ⟨#[]⟩] 32) := by rw [hg1.block R hRlt (fun e => hRc (Option.some.inj e))]; exact hz0'
  have hR1 : R < w1.heap.size := (Array.getElem?_eq_some_iff.1 hz1').1
  have hga1 := grownBy_trans hg0 hg1
  have hs0 := HS0.out
  obtain ⟨r, hr⟩ : ∃ r, r = w1.heap.size := ⟨_, rfl⟩
  have hrw : w.heap.size ≤ r := by rw [hr]; exact hga1.size
  have hrR : R ≠ r := by omega
  have HD0 : Hid (DResp w c R r m (.slice fo fs.length fc) fs b a len cap (w1.alloc (.cells #[.int .i64 m, .slice fo fs.length fc, .string b] 32))) := by
    have hgal : w1.grownBy (w1.alloc (.cells #[.int .i64 m, .slice fo fs.length fc, .string b] 32)) (some c) := World.grownBy_alloc w1 _ _
    refine ⟨?_, by rw [hr]; exact heap_alloc_new w1 _, (owns_wide hown (by omega)).alloc _, hcu1.below ((Below.refl _ w1).alloc (Nat.le_refl _) _) hcu1.lt, grownBy_trans hga1 hgal, fun j hj => ⟨by have := owns_ge hown hj; omega, by have := owns_lt hown hj; omega⟩⟩
    rw [hgal.block R hR1 (fun e => hRc (Option.some.inj e))]; exact hz1'
  have HR' : Hid (r = w1.heap.size) := hr
  obtain ⟨wv, hwv⟩ : ∃ W, W = w1.alloc (.cells #[.int .i64 m, .slice fo fs.length fc, .string b] 32) := ⟨_, rfl⟩
  have HWV : Hid (wv = w1.alloc (.cells #[.int .i64 m, .slice fo fs.length fc, .string b] 32)) := hwv
  rw [← hwv] at HD0
  rw [← HRE.out]
  clear hr hz1' hR1 hcu1 hga1 hwv hown hg1 hg0 hcu0 hco0 hz0' hRlt hs0
  go_wp2_with fail
  rw [← HR'.out, ← HWV.out]
  refine (l1Below_any c B 20 a len cap zs _ HD0.out.cur (HCO.out _ HD0.out.grow) hB (by omega) (by omega)).mono ?_
  rintro e wa ⟨x, rfl, hx0, hx1, hcua, hgaa⟩
  have hda : Hid (DResp w c R r m (.slice fo fs.length fc) fs b a len cap wa) := HD0.out.later hcw hRw hrw hcua hgaa
  clear hcua hgaa HD0 HWV HR' HW0 HS0 HRE
  obtain ⟨⟨c0, c1, c2⟩, f0, f1, f2⟩ := three_facts hda.out.hr
  obtain ⟨⟨d0, d1, d2⟩, g0, g1, g2⟩ := three_facts hda.out.hR
  by_cases x0 : x = 0
  · subst x0
    have hwas : wa.heap.size = wa.heap.size := rfl
    go_wp2_with fail
    refine (pickInt_new c B [99, 100, 599, 600, -1] (-1) 600 (by decide) a len cap zs wa hda.out.cur (HCO.out _ hda.out.grow) hB (by decide) (by decide)).mono ?_
    rintro e wb ⟨y, rfl, hy0, hy1, hcub, hgb⟩
    have hdb : Hid (DResp w c R r m (.slice fo fs.length fc) fs b a len cap wb) := hda.out.later hcw hRw hrw hcub hgb
    have hdc : Hid (DResp w c R r y (.slice fo fs.length fc) fs b a len cap (wb.setCell ⟨r, 0, none⟩ (.int .i64 y))) := hdb.out.setStatus (m' := y) hcw hrw hrR
    clear c0 c1 c2 f0 f1 f2 d0 d1 d2 g0 g1 g2 hcub hgb hda hwas
    obtain ⟨⟨c0, c1, c2⟩, f0, f1, f2⟩ := three_facts hdb.out.hr
    obtain ⟨⟨i0, i1, i2⟩, j0, j1, j2⟩ := three_facts hdc.out.hr
    obtain ⟨⟨d0, d1, d2⟩, g0, g1, g2⟩ := three_facts hdc.out.hR
    obtain ⟨hh, hfin⟩ := hdc.out.fin (bmax := 140) hcw hRw ⟨by omega, by omega⟩ hfl hsh (by omega)
    obtain ⟨⟨k0, k1, k2⟩, _⟩ := three_facts hh
    have HFIN : Hid _ := hfin
    unfold threeSet at k0 k1 k2
    clear hh hfin
    go_wp2_with fail
    exact bodyPost_ret (v := .agg #[.int .i64 y, (.slice fo fs.length fc), .string b]) (by simp [results, Try.results51, go_sem, k0, k1, k2]) rfl HFIN.out
  · by_cases x1 : x = 1
    · subst x1
      go_wp2_with fail
      refine (l2Draw_any c B a len cap zs _ hda.out.cur (HCO.out _ hda.out.grow) hB).mono ?_
      rintro e wb ⟨gv, gs, rfl, howng, hgl, hgsh, hcub, hgb⟩
      obtain ⟨go, gc, rfl⟩ := slice_of_owns howng
      have hdb : Hid (DResp w c R r m (.slice fo fs.length fc) fs b a len cap wb) := hda.out.later hcw hRw hrw hcub hgb
      have hdc : Hid (DResp w c R r m (.slice go gs.length gc) gs b a len cap (wb.setCell ⟨r, 1, none⟩ (.slice go gs.length gc))) := hdb.out.setFields hcw hrw hrR (owns_wide howng (by have := hda.out.grow.size; omega))
      clear c0 c1 c2 f0 f1 f2 d0 d1 d2 g0 g1 g2 hcub hgb hda howng
      obtain ⟨⟨c0, c1, c2⟩, f0, f1, f2⟩ := three_facts hdb.out.hr
      obtain ⟨⟨i0, i1, i2⟩, j0, j1, j2⟩ := three_facts hdc.out.hr
      obtain ⟨⟨d0, d1, d2⟩, g0, g1, g2⟩ := three_facts hdc.out.hR
      obtain ⟨hh, hfin⟩ := hdc.out.fin (bmax := 140) hcw hRw hm hgl hgsh (by omega)
      obtain ⟨⟨k0, k1, k2⟩, _⟩ := three_facts hh
      have HFIN : Hid _ := hfin
      unfold threeSet at k0 k1 k2
      clear hh hfin
      go_wp2_with fail
      exact bodyPost_ret (v := .agg #[.int .i64 m, (.slice go gs.length gc), .string b]) (by simp [results, Try.results51, go_sem, k0, k1, k2]) rfl HFIN.out
    · by_cases x2 : x = 2
      · subst x2
        clear c0 c1 c2 f0 f1 f2 d0 d1 d2 g0 g1 g2
        go_wp2_with fail
        go_loopw [] (fun wr => ∃ b2 : ByteArray, b2.size ≤ 121 ∧ Hid (DResp w c R r m (.slice fo fs.length fc) fs b2 a len cap wr)) (fun wr => 122 - bodyLenP r wr)
        case atStart => exact ⟨b, by omega, hda⟩
        case round =>
          obtain ⟨b2, hb2, hdr⟩ := hrel
          have hdw : Hid (DResp w c R r m (.slice fo fs.length fc) fs b2 a len cap wr.drew) := hdr.out.later hcw hRw hrw hdr.out.cur (grown_below ((Below.refl _ wr).drew) _)
          obtain ⟨⟨c0, c1, c2⟩, f0, f1, f2⟩ := three_facts hdr.out.hr
          have HL0 : Hid (bodyLenP r wr = b2.size) := by show _ = _; unfold bodyLenP; rw [c2]
          have HA : Hid (∀ wb, CurAt wb c a len cap → wr.drew.grownBy wb (some c) → wb.cell? ⟨r, 2, none⟩ = some (.string b2) ∧ Hid (DResp w c R r m (.slice fo fs.length fc) fs b2 a len cap wb)) := fun wb h1 h2 => by
            have h3 := hdw.out.later hcw hRw hrw h1 h2
            exact ⟨(three_facts h3.hr).1.2.2, h3⟩
          clear c0 c1 f0 f1 f2
          go_wp2_with fail
          go_region_held3 (fun W => W.cell? ⟨r, 2, none⟩ = some (.string b2)) (first | assumption | go_keep) (first | (go_at_call 74; refine (l1Below_any c B 2 a len cap zs _ hdw.out.cur (HCO.out _ hdw.out.grow) hB (by omega) (by omega)).mono ?_; rintro e wb ⟨y, rfl, hy0, hy1, hcub, hgb⟩; obtain ⟨hcb3, hdb⟩ := HA.out wb hcub hgb; have hwy : IntKind.i64.wrap (120 + y) = 120 + y := by rw [IntKind.wrap_i64]; omega))
          clear hcub hgb hdw HA c2
          have hdc : Hid (DResp w c R r m (.slice fo fs.length fc) fs (b2 ++ ⟨#[98]⟩) a len cap (wb.setCell ⟨r, 2, none⟩ (.string (b2 ++ ⟨#[98]⟩)))) := hdb.out.setBody (b' := b2 ++ (⟨#[98]⟩ : ByteArray)) hcw hrw hrR
          obtain ⟨⟨c0, c1, c2⟩, f0, f1, f2⟩ := three_facts hdb.out.hr
          obtain ⟨⟨d0, d1, d2⟩, g0, g1, g2⟩ := three_facts hdb.out.hR
          have e98 : (⟨#[98]⟩ : ByteArray).size = 1 := rfl
          by_cases hlt : (b2.size : Int) < 120 + y
          · have HL1 : Hid (bodyLenP r (wb.setCell ⟨r, 2, none⟩ (.string (b2 ++ ⟨#[98]⟩))) = b2.size + 1) := by
              show _ = _
              have := (three_facts hdc.out.hr).1.2.2
              unfold bodyLenP; rw [this]; simp only [ByteArray.size_append]; omega
            have q1 : ¬ 9223372036854775807 < b2.size + 1 := by omega
            clear d0 d1 d2 g0 g1 g2
            go_wp2
            go_roundw
            case rel => exact ⟨_, by simp only [ByteArray.size_append]; omega, hdc⟩
            case measure => rw [HL1.out, HL0.out]; omega
          · have hdec : decide ((b2.size : Int) < 120 + y) = false := by simpa using hlt
            clear hdc hdr hda HL0
            obtain ⟨hh, hfin⟩ := hdb.out.fin (bmax := 140) hcw hRw hm hfl hsh (by omega)
            obtain ⟨⟨k0, k1, k2⟩, _⟩ := three_facts hh
            have HFIN : Hid _ := hfin
            unfold threeSet at k0 k1 k2
            clear hh hfin
            go_wp2_with fail
            exact bodyPost_ret (v := .agg #[.int .i64 m, (.slice fo fs.length fc), .string b2]) (by simp [results, Try.results51, go_sem, k0, k1, k2]) rfl HFIN.out
      · have e0 : (x == 0) = false := by rw [beq_eq_false_iff_ne]; exact x0
        have e1 : (x == 1) = false := by rw [beq_eq_false_iff_ne]; exact x1
        have e2 : (x == 2) = false := by rw [beq_eq_false_iff_ne]; exact x2
        obtain ⟨hh, hfin⟩ := hda.out.fin (bmax := 140) hcw hRw hm hfl hsh (by omega)
        obtain ⟨⟨k0, k1, k2⟩, _⟩ := three_facts hh
        have HFIN : Hid _ := hfin
        unfold threeSet at k0 k1 k2
        clear hh hfin
        go_wp2_with fail
        exact bodyPost_ret (v := .agg #[.int .i64 m, (.slice fo fs.length fc), .string b]) (by simp [results, Try.results51, go_sem, k0, k1, k2]) rfl HFIN.out


end Go.Proofs.Ythlmnmbhgkmbfaa

namespace Go.Proofs.Ythlmnmbhgkmbfaa
open Go.RowKit
open Go.Lib hiding intOf

/-- A request and an answer are drawn. -/
def DrawnQP (w : World) (e : Ending) (w' : World) : Prop :=
  ∃ (m : Int) (p : ByteArray) (v : Value) (fs : List (ByteArray × ByteArray)) (b : ByteArray) (st : Int) (u : Value) (gs : List (ByteArray × ByteArray)) (d : ByteArray),
    e = .returned (.tuple #[.agg #[.int .i64 m, .string p, v, .string b], .agg #[.int .i64 st, u, .string d]]) ∧ (-1000 ≤ m ∧ m ≤ 1000) ∧ p.size ≤ 64 ∧ w'.ownsRow w.heap.size 68 2 v fs.length (flatF fs) ∧ fs.length ≤ 40 ∧ ShortF fs ∧ b.size ≤ 140 ∧
    (-1000 ≤ st ∧ st ≤ 1000) ∧ w'.ownsRow w.heap.size 68 2 u gs.length (flatF gs) ∧ gs.length ≤ 40 ∧ ShortF gs ∧ d.size ≤ 140 ∧ (∀ j, v.ownBlock = some j → u.ownBlock ≠ some j) ∧ Below w.heap.size w w'

theorem four_other (W : World) (r j : Nat) (a b c d : Value) (h : j ≠ r) : (fourSet W r a b c d).heap[j]? = W.heap[j]? := by
  unfold fourSet
  rw [heap_setCell_other _ _ j _ h, heap_setCell_other _ _ j _ h, heap_setCell_other _ _ j _ h, heap_setCell_other _ _ j _ h]
theorem three_otherD (W : World) (r j : Nat) (a b c : Value) (h : j ≠ r) : (threeSet W r a b c).heap[j]? = W.heap[j]? := by
  unfold threeSet
  rw [heap_setCell_other _ _ j _ h, heap_setCell_other _ _ j _ h, heap_setCell_other _ _ j _ h]

set_option maxHeartbeats 2000000 in
set_option maxRecDepth 100000 in
theorem l9Draw_any (a : Option Addr) (len cap : Nat) (zs : List Int) (w : World) (hcode : CodeAt w w.heap.size a len zs) :
    Calls Try.prog 40 #[.slice a len cap] w fun e w' => DrawnQP w e w' := by
  obtain ⟨R, hR⟩ : ∃ R, R = w.heap.size := ⟨_, rfl⟩
  have HRE : Hid (w.heap.size = R) := hR.symm
  obtain ⟨W0, hW0⟩ : ∃ W, W = (w.alloc (.cells #[.int .i64 0, .string ⟨#[]⟩, .slice none 0 0, .string ⟨#[]⟩] 26)).alloc (.cells #[.int .i64 0, .slice none 0 0, .string ⟨#[]⟩] 32) := ⟨_, rfl⟩
  have HW0 : Hid ((w.alloc (.cells #[.int .i64 0, .string ⟨#[]⟩, .slice none 0 0, .string ⟨#[]⟩] 26)).alloc (.cells #[.int .i64 0, .slice none 0 0, .string ⟨#[]⟩] 32) = W0) := hW0.symm
  have hs0 : W0.heap.size = R + 1 + 1 := by rw [hW0, hR]; simp
  have b0 : Below R w W0 := by rw [hW0, hR]; exact ((Below.refl _ w).alloc (Nat.le_refl _) _).alloc (by simp) _
  have H0 : Hid (W0.heap[R]? = some (.cells #[.int .i64 0, .string ⟨#[]⟩, .slice none 0 0, .string ⟨#[]⟩] 26) ∧ W0.heap[R + 1]? = some (.cells #[.int .i64 0, .slice none 0 0, .string ⟨#[]⟩] 32)) := by
    have s1 : (w.alloc (.cells #[.int .i64 0, .string ⟨#[]⟩, .slice none 0 0, .string ⟨#[]⟩] 26)).heap.size = R + 1 := by rw [hR]; simp
    have e0 := heap_alloc_new w (.cells #[.int .i64 0, .string ⟨#[]⟩, .slice none 0 0, .string ⟨#[]⟩] 26)
    have e1 := heap_alloc_new (w.alloc (.cells #[.int .i64 0, .string ⟨#[]⟩, .slice none 0 0, .string ⟨#[]⟩] 26)) (.cells #[.int .i64 0, .slice none 0 0, .string ⟨#[]⟩] 32)
    rw [← hR] at e0
    rw [s1, ← hW0] at e1
    have c1 : Below (R + 1) (w.alloc (.cells #[.int .i64 0, .string ⟨#[]⟩, .slice none 0 0, .string ⟨#[]⟩] 26)) W0 := by rw [hW0, ← s1]; exact (Below.refl _ _).alloc (Nat.le_refl _) _
    exact ⟨by rw [c1.block R (by omega)]; exact e0, e1⟩
  have HCO : Hid (∀ W, Below R w W → CodeAt W R a len zs) := by rw [hR]; exact fun W h => hcode.below h
  obtain ⟨c, hc⟩ : ∃ c, c = W0.heap.size := ⟨_, rfl⟩
  have hcR : R + 1 < c := by omega
  have hco0 := HCO.out W0 b0
  have HB0 : Hid (Below R w W0) := b0
  clear hW0 hcode b0 hs0
  go_enter Try.func40, Try.ntmps40
  go_upto_region 1 with fail
  rw [HW0.out, ← hR]
  clear hR HW0
  go_wp2_with fail
  refine (l1New_any R a len cap zs _ hco0).mono ?_
  rintro e w1 ⟨rfl, hcu1, b1⟩
  rw [← hc] at hcu1 b1 ⊢
  have HB1 : Hid (Below R w w1) := HB0.out.trans (b1.mono (by omega))
  have H1 : Hid (w1.heap[R]? = some (.cells #[.int .i64 0, .string ⟨#[]⟩, .slice none 0 0, .string ⟨#[]⟩] 26) ∧ w1.heap[R + 1]? = some (.cells #[.int .i64 0, .slice none 0 0, .string ⟨#[]⟩] 32)) := ⟨by rw [b1.block R (by omega)]; exact H0.out.1, by rw [b1.block (R + 1) (by omega)]; exact H0.out.2⟩
  have hl1 := hcu1.lt
  clear b1 H0 HB0 hco0 hc
  go_wp2_with fail
  refine (l3DrawBadReq_any c R a len cap zs _ hcu1 (HCO.out _ HB1.out) (by omega)).mono ?_
  rintro e w2 ⟨m, p, fv, fs, b, rfl, hm, hp, hown, hfl, hsh, hb, hcu2, hg2⟩
  obtain ⟨fo, fc, rfl⟩ := slice_of_owns hown
  have hl2 := hg2.size
  have HB2 : Hid (Below R w w2) := HB1.out.grown hg2 (by omega) (by intro k hk; cases hk; omega)
  have H2 : Hid (w2.heap[R]? = some (.cells #[.int .i64 0, .string ⟨#[]⟩, .slice none 0 0, .string ⟨#[]⟩] 26) ∧ w2.heap[R + 1]? = some (.cells #[.int .i64 0, .slice none 0 0, .string ⟨#[]⟩] 32)) := ⟨by rw [hg2.block R (by omega) (fun e => by have := Option.some.inj e; omega)]; exact H1.out.1, by rw [hg2.block (R + 1) (by omega) (fun e => by have := Option.some.inj e; omega)]; exact H1.out.2⟩
  obtain ⟨r, hr⟩ : ∃ r, r = w2.heap.size := ⟨_, rfl⟩
  obtain ⟨s1, hs1⟩ : ∃ s, s = w1.heap.size := ⟨_, rfl⟩
  rw [← hs1] at hown hl1 hl2
  obtain ⟨w3, hw3⟩ : ∃ W, W = w2.alloc (.cells #[.int .i64 m, .string p, .slice fo fs.length fc, .string b] 26) := ⟨_, rfl⟩
  have HW3 : Hid (w2.alloc (.cells #[.int .i64 m, .string p, .slice fo fs.length fc, .string b] 26) = w3) := hw3.symm
  have b3 : Below w2.heap.size w2 w3 := by rw [hw3]; exact (Below.refl _ _).alloc (Nat.le_refl _) _
  have HQ3 : Hid (w3.heap[r]? = some (.cells #[.int .i64 m, .string p, .slice fo fs.length fc, .string b] 26)) := by show _ = _; rw [hw3, hr]; exact heap_alloc_new w2 _
  have HO3 : Hid (w3.ownsRow s1 68 2 (.slice fo fs.length fc) fs.length (flatF fs)) := owns_same hown (fun j hj => b3.block j (owns_lt hown hj))
  have HHI : Hid (∀ j, (Value.slice fo fs.length fc).ownBlock = some j → j < r) := fun j hj => by rw [hr]; exact owns_lt hown hj
  have HB3 : Hid (Below R w w3) := HB2.out.trans (b3.mono (by omega))
  have H3 : Hid (w3.heap[R]? = some (.cells #[.int .i64 0, .string ⟨#[]⟩, .slice none 0 0, .string ⟨#[]⟩] 26) ∧ w3.heap[R + 1]? = some (.cells #[.int .i64 0, .slice none 0 0, .string ⟨#[]⟩] 32)) := ⟨by rw [b3.block R (by omega)]; exact H2.out.1, by rw [b3.block (R + 1) (by omega)]; exact H2.out.2⟩
  have hcu3 := hcu2.below b3 (by have := hcu2.lt; omega)
  have hrs : s1 ≤ r := by omega
  obtain ⟨⟨c0, c1, c2, c3⟩, _⟩ := four_facts HQ3.out
  clear hcu1 hcu2 hg2 hown H1 H2 HB1 HB2 hw3 b3 hs1
  go_upto_region 3 with fail
  rw [HW3.out, ← hr]
  clear hr HW3
  refine wp_region_held_drew (S := fun W => W.cell? ⟨r, 0, none⟩ = some (.int .i64 m) ∧ W.cell? ⟨r, 1, none⟩ = some (.string p) ∧ W.cell? ⟨r, 2, none⟩ = some (.slice fo fs.length fc) ∧ W.cell? ⟨r, 3, none⟩ = some (.string b)) (by kernel_rfl) ⟨c0, c1, c2, c3⟩ (fun hS0 => ?_)
  refine wpAnyH_takeD (i := 0) (v := .agg #[.int .i64 m, .string p, .slice fo fs.length fc, .string b]) (some 10) rfl rfl (by kernel_rfl) (by kernel_rfl) (by kernel_rfl) (fun _ _ _ h => h) (Or.inl ⟨by rfl, by intro W hW; obtain ⟨h1, h2, h3, h4⟩ := hW; go_simp⟩) hS0 ?_
  simp only [Act.put, List.setIfInBounds_toArray, List.set_cons_zero, List.set_cons_succ]
  refine wpAnyH_takeD (i := 1) (v := .pointer (some ⟨c, 0, none⟩)) (some 11) rfl rfl (by kernel_rfl) (by kernel_rfl) (by kernel_rfl) (fun _ _ _ h => h) (Or.inl ⟨by rfl, by intro W _; go_simp⟩) hS0 ?_
  simp only [Act.put, List.setIfInBounds_toArray, List.set_cons_zero, List.set_cons_succ]
  refine wpAnyH_ready (rs := [2]) (by kernel_rfl) (by simp) ?_
  refine AllReadyH.cons rfl (fun K hK => ?_) AllReadyH.nil
  go_simp
  refine (l3DrawBadResp_any c R a len cap zs _ (hcu3.below (Below.refl _ w3).drew hcu3.lt) (HCO.out _ HB3.out.drew) (by omega)).mono ?_
  rintro e w4 ⟨st, gv, gs, d, rfl, hst, hown4, hgl, hgsh, hd, _, hg4⟩
  obtain ⟨go, gc, rfl⟩ := slice_of_owns hown4
  have hl3 := hcu3.lt
  have hq3 : r < w3.heap.size := (Array.getElem?_eq_some_iff.1 HQ3.out).1
  have hzs : w3.drew.heap.size = w3.heap.size := rfl
  have HQ4 : Hid (w4.heap[r]? = some (.cells #[.int .i64 m, .string p, .slice fo fs.length fc, .string b] 26)) := by show _ = _; rw [hg4.block r (by omega) (fun e => by have := Option.some.inj e; omega)]; exact HQ3.out
  have H4 : Hid (w4.heap[R]? = some (.cells #[.int .i64 0, .string ⟨#[]⟩, .slice none 0 0, .string ⟨#[]⟩] 26) ∧ w4.heap[R + 1]? = some (.cells #[.int .i64 0, .slice none 0 0, .string ⟨#[]⟩] 32)) := ⟨by rw [hg4.block R (by omega) (fun e => by have := Option.some.inj e; omega)]; exact H3.out.1, by rw [hg4.block (R + 1) (by omega) (fun e => by have := Option.some.inj e; omega)]; exact H3.out.2⟩
  have HO4 : Hid (w4.ownsRow s1 68 2 (.slice fo fs.length fc) fs.length (flatF fs)) := owns_grown (owns_same (w' := w3.drew) HO3.out (fun j hj => rfl)) hg4 (by omega)
  have HP4 : Hid (w4.ownsRow w3.heap.size 68 2 (.slice go gs.length gc) gs.length (flatF gs)) := hown4
  have HB4 : Hid (Below R w w4) := HB3.out.drew.grown hg4 (by omega) (by intro k hk; cases hk; omega)
  have HRS : Hid (R + 1 < s1 ∧ r < w3.heap.size ∧ s1 ≤ r) := ⟨by omega, hq3, hrs⟩
  obtain ⟨Y, hY⟩ : ∃ Y, Y = fourSet w4 R (.int .i64 m) (.string p) (.slice fo fs.length fc) (.string b) := ⟨_, rfl⟩
  have HY : Hid (((((w4.setCell ⟨R, 0, none⟩ (.int .i64 m)).setCell ⟨R, 1, none⟩ (.string p)).setCell ⟨R, 2, none⟩ (.slice fo fs.length fc)).setCell ⟨R, 3, none⟩ (.string b)) = Y) := hY.symm
  have HYZ : Hid (Y.heap[R + 1]? = some (.cells #[.int .i64 0, .slice none 0 0, .string ⟨#[]⟩] 32)) := by show _ = _; rw [hY, four_other _ _ _ _ _ _ _ (by omega)]; exact H4.out.2
  have HYR : Hid (Y.heap[R]? = some (.cells #[.int .i64 m, .string p, (.slice fo fs.length fc), .string b] 26)) := by show _ = _; rw [hY]; exact four_set H4.out.1 _ _ _ _
  have HYQ : Hid (Y.heap[r]? = some (.cells #[.int .i64 m, .string p, (.slice fo fs.length fc), .string b] 26)) := by show _ = _; rw [hY, four_other _ _ _ _ _ _ _ (by omega)]; exact HQ4.out
  obtain ⟨U, hU⟩ : ∃ U, U = threeSet Y (R + 1) (.int .i64 st) (.slice go gs.length gc) (.string d) := ⟨_, rfl⟩
  have HU : Hid ((((Y.setCell ⟨R + 1, 0, none⟩ (.int .i64 st)).setCell ⟨R + 1, 1, none⟩ (.slice go gs.length gc)).setCell ⟨R + 1, 2, none⟩ (.string d)) = U) := hU.symm
  have HUR : Hid (U.heap[R]? = some (.cells #[.int .i64 m, .string p, (.slice fo fs.length fc), .string b] 26)) := by show _ = _; rw [hU, three_otherD _ _ _ _ _ _ (by omega)]; exact HYR.out
  have HUP : Hid (U.heap[R + 1]? = some (.cells #[.int .i64 st, (.slice go gs.length gc), .string d] 32)) := by show _ = _; rw [hU]; exact three_set HYZ.out _ _ _
  have HUQ : Hid (U.heap[r]? = some (.cells #[.int .i64 m, .string p, (.slice fo fs.length fc), .string b] 26)) := by show _ = _; rw [hU, three_otherD _ _ _ _ _ _ (by omega)]; exact HYQ.out
  have HFB : Hid (Below R w U) := by show Below _ _ _; rw [hU, hY]; exact below_three (below_four HB4.out (Nat.le_refl _)) (by omega)
  have HUO : Hid (∀ j, j ≠ R → j ≠ R + 1 → U.heap[j]? = w4.heap[j]?) := fun j h1 h2 => by rw [hU, three_otherD _ _ _ _ _ _ h2, hY, four_other _ _ _ _ _ _ _ h1]
  have HFIN : Hid (DrawnQP w (.returned (.tuple #[.agg #[.int .i64 m, .string p, (.slice fo fs.length fc), .string b], .agg #[.int .i64 st, (.slice go gs.length gc), .string d]])) U) := by
    obtain ⟨z1, z2, z3⟩ := HRS.out
    refine ⟨m, p, _, fs, b, st, _, gs, d, rfl, hm, hp, ?_, hfl, hsh, hb, hst, ?_, hgl, hgsh, hd, ?_, by rw [HRE.out]; exact HFB.out⟩
    · rw [HRE.out]
      refine owns_same (owns_wide HO4.out (by omega)) (fun j hj => ?_)
      have := owns_ge HO4.out hj
      exact HUO.out j (by omega) (by omega)
    · rw [HRE.out]
      refine owns_same (owns_wide HP4.out (by omega)) (fun j hj => ?_)
      have := owns_ge HP4.out hj
      exact HUO.out j (by omega) (by omega)
    · intro j hj e
      have h1 := HHI.out j hj
      have h2 := owns_ge HP4.out e
      omega
  have hS4 := (four_facts HQ4.out).1
  have hSY := (four_facts HYQ.out).1
  have hSU := (four_facts HUQ.out).1
  refine hK.out _ _ hS4 (fun _ => ?_)
  clear hK K c0 c1 c2 c3 hS0 hY hU HO3 HO4 HP4 HB3 HB4 HQ3 HQ4 HYQ HUQ hown4 hg4 hcu3 hzs HUO HFB HHI HRS HCO H3
  refine wpAnyH_ready (rs := [3]) (by kernel_rfl) (by simp) ?_
  refine AllReadyH.cons rfl (fun K hK => ?_) AllReadyH.nil
  obtain ⟨⟨x0, x1, x2, x3⟩, y0, y1, y2, y3⟩ := four_facts H4.out.1
  go_simp
  rw [HY.out]
  refine hK.out _ _ hSY (fun _ => ?_)
  clear hK K x0 x1 x2 x3 y0 y1 y2 y3 H4 hS4 HY
  refine wpAnyH_ready (rs := [4]) (by kernel_rfl) (by simp) ?_
  refine AllReadyH.cons rfl (fun K hK => ?_) AllReadyH.nil
  obtain ⟨⟨x0, x1, x2⟩, y0, y1, y2⟩ := three_facts HYZ.out
  go_simp
  rw [HU.out]
  refine hK.out _ _ hSU (fun _ => ?_)
  clear hK K x0 x1 x2 y0 y1 y2 hSY hSU HU HYZ HYR
  refine wpAnyH_done (by kernel_rfl) ?_ _
  obtain ⟨⟨k0, k1, k2, k3⟩, _⟩ := four_facts HUR.out
  obtain ⟨⟨k4, k5, k6⟩, _⟩ := three_facts HUP.out
  go_wp2_with fail
  exact bodyPost_ret (v := .tuple #[.agg #[.int .i64 m, .string p, (.slice fo fs.length fc), .string b], .agg #[.int .i64 st, (.slice go gs.length gc), .string d]]) (by simp [results, Try.results40, go_sem, k0, k1, k2, k3, k4, k5, k6]) rfl HFIN.out

/-- An answer is drawn. -/
def DrawnP (w : World) (e : Ending) (w' : World) : Prop :=
  ∃ (st : Int) (u : Value) (gs : List (ByteArray × ByteArray)) (d : ByteArray), e = .returned (.agg #[.int .i64 st, u, .string d]) ∧ (-1000 ≤ st ∧ st ≤ 1000) ∧ w'.ownsRow w.heap.size 68 2 u gs.length (flatF gs) ∧ gs.length ≤ 40 ∧ ShortF gs ∧ d.size ≤ 140 ∧ Below w.heap.size w w'

set_option maxHeartbeats 2000000 in
set_option maxRecDepth 100000 in
theorem drawShort_any (a : Option Addr) (len cap : Nat) (zs : List Int) (w : World) (hcode : CodeAt w w.heap.size a len zs) :
    Calls Try.prog 15 #[.slice a len cap] w fun e w' => DrawnP w e w' := by
  obtain ⟨R, hR⟩ : ∃ R, R = w.heap.size := ⟨_, rfl⟩
  have HRE : Hid (w.heap.size = R) := hR.symm
  obtain ⟨W0, hW0⟩ : ∃ W, W = w.alloc (.cells #[.int .i64 0, .slice none 0 0, .string ⟨#[]⟩] 32) := ⟨_, rfl⟩
  have HW0 : Hid (w.alloc (.cells #[.int .i64 0, .slice none 0 0, .string ⟨#[]⟩] 32) = W0) := hW0.symm
  have b0 : Below R w W0 := by rw [hW0, hR]; exact (Below.refl _ w).alloc (Nat.le_refl _) _
  have H0 : Hid (W0.heap[R]? = some (.cells #[.int .i64 0, .slice none 0 0, .string ⟨#[]⟩] 32)) := by show _ = _; rw [hW0, hR]; exact heap_alloc_new w _
  have HCO : Hid (∀ W, Below R w W → CodeAt W R a len zs) := by rw [hR]; exact fun W h => hcode.below h
  obtain ⟨c, hc⟩ : ∃ c, c = W0.heap.size := ⟨_, rfl⟩
  have hcR : R < c := by rw [hc]; exact (Array.getElem?_eq_some_iff.1 H0.out).1
  have hco0 := HCO.out W0 b0
  have HB0 : Hid (Below R w W0) := b0
  clear hW0 hcode b0
  go_enter Try.func15, Try.ntmps15
  go_upto_region 1 with fail
  rw [HW0.out, ← hR]
  clear hR HW0
  go_wp2_with fail
  refine (l1New_any R a len cap zs _ hco0).mono ?_
  rintro e w1 ⟨rfl, hcu1, b1⟩
  rw [← hc] at hcu1 b1 ⊢
  have HB1 : Hid (Below R w w1) := HB0.out.trans (b1.mono (by omega))
  have H1 : Hid (w1.heap[R]? = some (.cells #[.int .i64 0, .slice none 0 0, .string ⟨#[]⟩] 32)) := by show _ = _; rw [b1.block R (by omega)]; exact H0.out
  have hl1 := hcu1.lt
  clear b1 H0 HB0 hco0 hc
  go_wp2_with fail
  refine (l3DrawBadResp_any c R a len cap zs _ hcu1 (HCO.out _ HB1.out) (by omega)).mono ?_
  rintro e w4 ⟨st, gv, gs, d, rfl, hst, hown4, hgl, hgsh, hd, _, hg4⟩
  obtain ⟨go, gc, rfl⟩ := slice_of_owns hown4
  have H4 : Hid (w4.heap[R]? = some (.cells #[.int .i64 0, .slice none 0 0, .string ⟨#[]⟩] 32)) := by show _ = _; rw [hg4.block R (by omega) (fun e => by have := Option.some.inj e; omega)]; exact H1.out
  have HB4 : Hid (Below R w w4) := HB1.out.grown hg4 (by omega) (by intro k hk; cases hk; omega)
  obtain ⟨⟨x0, x1, x2⟩, y0, y1, y2⟩ := three_facts H4.out
  have hset := three_set H4.out (.int .i64 st) (.slice go gs.length gc) (.string d)
  obtain ⟨⟨k0, k1, k2⟩, _⟩ := three_facts hset
  have HFIN : Hid (DrawnP w (.returned (.agg #[.int .i64 st, (.slice go gs.length gc), .string d])) (threeSet w4 R (.int .i64 st) (.slice go gs.length gc) (.string d))) := by
    refine ⟨st, _, gs, d, rfl, hst, ?_, hgl, hgsh, hd, by rw [HRE.out]; exact below_three HB4.out (Nat.le_refl _)⟩
    rw [HRE.out]
    refine owns_same (owns_wide hown4 (by omega)) (fun j hj => ?_)
    have := owns_ge hown4 hj
    exact three_otherD _ _ _ _ _ _ (by omega)
  unfold threeSet at k0 k1 k2 HFIN
  clear hset H4 HB4 hown4 hg4 hcu1 H1 HB1 HCO
  go_wp2_with fail
  exact bodyPost_ret (v := .agg #[.int .i64 st, (.slice go gs.length gc), .string d]) (by simp [results, Try.results15, go_sem, k0, k1, k2]) rfl HFIN.out

end Go.Proofs.Ythlmnmbhgkmbfaa

namespace Go.Proofs.Ythlmnmbhgkmbfaa
open Go.RowKit
open Go.Lib hiding intOf

/-- A request and a list of fields are drawn. -/
def DrawnQF (w : World) (e : Ending) (w' : World) : Prop :=
  ∃ (m : Int) (p : ByteArray) (v : Value) (fs : List (ByteArray × ByteArray)) (b : ByteArray) (u : Value) (gs : List (ByteArray × ByteArray)),
    e = .returned (.tuple #[.agg #[.int .i64 m, .string p, v, .string b], u]) ∧ p.size ≤ 64 ∧ w'.ownsRow w.heap.size 68 2 v fs.length (flatF fs) ∧ fs.length ≤ 40 ∧ ShortF fs ∧ b.size ≤ 140 ∧
    w'.ownsRow w.heap.size 68 2 u gs.length (flatF gs) ∧ gs.length ≤ 40 ∧ ShortF gs ∧ Below w.heap.size w w'

/-- While it is drawn: the answer's memory, the request, the answer whose fields are handed out. -/
structure DaSt (w : World) (R q : Nat) (m : Int) (p : ByteArray) (v : Value) (b : ByteArray) (st : Int) (u : Value) (d : ByteArray) (P gs : List (ByteArray × ByteArray)) (W : World) : Prop where
  z0 : W.heap[R]? = some (.cells #[.int .i64 0, .string ⟨#[]⟩, .slice none 0 0, .string ⟨#[]⟩] 26)
  q0 : W.heap[q]? = some (.cells #[.int .i64 m, .string p, v, .string b] 26)
  q1 : W.heap[q + 1]? = some (.cells #[.int .i64 st, u, .string d] 32)
  own : W.ownsRow (R + 1) 68 2 v P.length (flatF P)
  own2 : W.ownsRow (R + 1) 68 2 u gs.length (flatF gs)
  ne : ∀ j, v.ownBlock = some j → u.ownBlock ≠ some j
  ge : R + 1 ≤ q
  low : Below R w W
theorem DaSt.size {w : World} {R q : Nat} {m : Int} {p : ByteArray} {v : Value} {b : ByteArray} {st : Int} {u : Value} {d : ByteArray} {P gs : List (ByteArray × ByteArray)} {W : World} (h : DaSt w R q m p v b st u d P gs W) : q + 1 < W.heap.size := (Array.getElem?_eq_some_iff.1 h.q1).1
theorem DaSt.below {w : World} {R q : Nat} {m : Int} {p : ByteArray} {v : Value} {b : ByteArray} {st : Int} {u : Value} {d : ByteArray} {P gs : List (ByteArray × ByteArray)} {W W' : World} (h : DaSt w R q m p v b st u d P gs W) (hb : Below W.heap.size W W') : DaSt w R q m p v b st u d P gs W' := by
  have hs := h.size
  have hg := h.ge
  exact ⟨by rw [hb.block _ (by omega)]; exact h.z0, by rw [hb.block _ (by omega)]; exact h.q0, by rw [hb.block _ (by omega)]; exact h.q1, owns_same h.own (fun j hj => hb.block j (owns_lt h.own hj)), owns_same h.own2 (fun j hj => hb.block j (owns_lt h.own2 hj)), h.ne, hg, h.low.trans (hb.mono (by omega))⟩
/-- The list is made anew, and stored. -/
theorem DaSt.put {w : World} {R q : Nat} {m : Int} {p : ByteArray} {v : Value} {b : ByteArray} {st : Int} {u : Value} {d : ByteArray} {P gs : List (ByteArray × ByteArray)} {W : World} (h : DaSt w R q m p v b st u d P gs W) {W' : World} {y : Value} {Q : List (ByteArray × ByteArray)} (hz : W'.heap[R]? = W.heap[R]?) (h0 : W'.heap[q]? = W.heap[q]?) (h1 : W'.heap[q + 1]? = W.heap[q + 1]?) (hu : ∀ j, u.ownBlock = some j → W'.heap[j]? = W.heap[j]?) (hy : W'.ownsRow (R + 1) 68 2 y Q.length (flatF Q)) (hne : ∀ j, y.ownBlock = some j → u.ownBlock ≠ some j) (hl : Below R w W') : DaSt w R q m p y b st u d Q gs (W'.setCell ⟨q, 2, none⟩ y) := by
  have hg := h.ge
  have hq : ∀ {z : Value} {xs : List Value} {k : Nat}, W'.ownsRow (R + 1) 68 2 z k xs → ∀ j, z.ownBlock = some j → j ≠ q := fun ho j hj e => by
    subst e
    rcases ho.2 with ⟨rfl, _⟩ | ⟨g, cap, cur, rfl, _, k1, _⟩
    · cases hj
    · cases hj
      rw [h0, h.q0] at k1
      cases k1
  refine ⟨by rw [heap_setCell_other _ _ R _ (by show R ≠ q; omega), hz]; exact h.z0, ?_, by rw [heap_setCell_other _ _ (q + 1) _ (by show q + 1 ≠ q; omega), h1]; exact h.q1, owns_same hy (fun j hj => heap_setCell_other _ _ j _ (hq hy j hj)), ?_, hne, hg, hl.setCell (by show R ≤ q; omega) _⟩
  · have := heap_set W' q 2 _ _ _ y (h0.trans h.q0)
    simpa using this
  · have ho := owns_same h.own2 hu
    exact owns_same ho (fun j hj => heap_setCell_other _ _ j _ (hq ho j hj))

/-- How long the list is that lies in a request's block. -/
def lenAt (W : World) (q : Nat) : Nat := match W.cell? ⟨q, 2, none⟩ with
  | some (.slice _ n _) => n
  | _ => 0
theorem lenAt_is {W : World} {q : Nat} {o : Option Addr} {n c : Nat} (h : W.cell? ⟨q, 2, none⟩ = some (.slice o n c)) : lenAt W q = n := by
  unfold lenAt
  rw [h]
theorem own_apart {W : World} {base k : Nat} {v : Value} {xs : List Value} {r : Nat} {cs : Array Value} {T : TypeId} (ho : W.ownsRow base 68 2 v k xs) (h : W.heap[r]? = some (.cells cs T)) (hT : T ≠ 68) : v.ownBlock ≠ some r := fun e => by
  rcases ho.2 with ⟨rfl, _⟩ | ⟨g, cap, cur, rfl, _, k1, _⟩
  · cases e
  · cases e
    rw [h] at k1
    cases k1
    exact hT rfl

set_option maxHeartbeats 2000000 in
set_option maxRecDepth 100000 in
theorem drawSame_any (a : Option Addr) (len cap : Nat) (zs : List Int) (w : World) (hcode : CodeAt w w.heap.size a len zs) :
    Calls Try.prog 14 #[.slice a len cap] w fun e w' => DrawnQF w e w' := by
  obtain ⟨R, hR⟩ : ∃ R, R = w.heap.size := ⟨_, rfl⟩
  have HRE : Hid (w.heap.size = R) := hR.symm
  obtain ⟨W0, hW0⟩ : ∃ W, W = w.alloc (.cells #[.int .i64 0, .string ⟨#[]⟩, .slice none 0 0, .string ⟨#[]⟩] 26) := ⟨_, rfl⟩
  have HW0 : Hid (w.alloc (.cells #[.int .i64 0, .string ⟨#[]⟩, .slice none 0 0, .string ⟨#[]⟩] 26) = W0) := hW0.symm
  have HB0 : Hid (Below R w W0) := by show Below _ _ _; rw [hW0, hR]; exact (Below.refl _ w).alloc (Nat.le_refl _) _
  have H0 : Hid (W0.heap[R]? = some (.cells #[.int .i64 0, .string ⟨#[]⟩, .slice none 0 0, .string ⟨#[]⟩] 26)) := by show _ = _; rw [hW0, hR]; exact heap_alloc_new w _
  have HS0 : Hid (W0.heap.size = R + 1) := by show _ = _; rw [hW0, hR]; simp
  have HCO : Hid (∀ W, Below R w W → CodeAt W W.heap.size a len zs) := fun W h => (hcode.below (by rw [hR] at h; exact h)).upTo h.size
  have hco0 := HCO.out W0 HB0.out
  clear hW0 hcode
  go_enter Try.func14, Try.ntmps14
  go_upto_region 1 with fail
  rw [HW0.out, ← hR]
  clear hR HW0
  go_wp2_with fail
  refine (l9Draw_any a len cap zs _ hco0).mono ?_
  rintro e w1 ⟨m, p, fv, fs, b, st, gv, gs, d, rfl, hm, hp, own1, hfl, hsh, hbb, hst, own2, hgl, hgsh, hd, hne, b1⟩
  obtain ⟨fo, fc, rfl⟩ := slice_of_owns own1
  obtain ⟨go, gc, rfl⟩ := slice_of_owns own2
  obtain ⟨q, hq⟩ : ∃ q, q = w1.heap.size := ⟨_, rfl⟩
  obtain ⟨W2, hW2⟩ : ∃ W, W = (w1.alloc (.cells #[.int .i64 m, .string p, .slice fo fs.length fc, .string b] 26)).alloc (.cells #[.int .i64 st, .slice go gs.length gc, .string d] 32) := ⟨_, rfl⟩
  have HST : Hid (DaSt w R q m p (.slice fo fs.length fc) b st (.slice go gs.length gc) d fs gs W2) := by
    have hs0 := HS0.out
    rw [hs0] at own1 own2 b1
    have s1 : (w1.alloc (.cells #[.int .i64 m, .string p, .slice fo fs.length fc, .string b] 26)).heap.size = q + 1 := by rw [hq]; simp
    have e0 := heap_alloc_new w1 (.cells #[.int .i64 m, .string p, .slice fo fs.length fc, .string b] 26)
    have e1 := heap_alloc_new (w1.alloc (.cells #[.int .i64 m, .string p, .slice fo fs.length fc, .string b] 26)) (.cells #[.int .i64 st, .slice go gs.length gc, .string d] 32)
    rw [← hq] at e0
    rw [s1, ← hW2] at e1
    have c2 : Below w1.heap.size w1 W2 := by rw [hW2]; exact ((Below.refl _ _).alloc (Nat.le_refl _) _).alloc (by simp) _
    have hz1 := b1.size
    rw [hs0] at hz1
    have c0 := b1.trans (c2.mono (by omega))
    exact ⟨by rw [c0.block R (by omega)]; exact H0.out, by rw [hW2, Below.heap_alloc _ _ _ (by rw [s1]; omega)]; exact e0, e1, owns_same own1 (fun j hj => c2.block j (owns_lt own1 hj)), owns_same own2 (fun j hj => c2.block j (owns_lt own2 hj)), hne, by omega, HB0.out.trans (c0.mono (by omega))⟩
  have HSZ : Hid (p.size ≤ 64 ∧ b.size ≤ 140) := ⟨hp, hbb⟩
  go_upto_region 2 with fail
  rw [← hW2, ← hq]
  clear hW2 hq own1 own2 b1 hne hm hst hd hp hbb H0 HS0 HB0 hco0
  have HPL : Hid (fs.length ≤ 40) := hfl
  have HPS : Hid (ShortF fs) := hsh
  clear hfl hsh
  go_upto_region 2 with fail
  have HSX : Hid (DaSt w R q m p (.slice fo fs.length fc) b st (.slice go gs.length gc) d fs gs W2.drew) := HST.out.below ((Below.refl _ _).drew)
  refine wp_region_held_drew (S := fun W => (W.cell? ⟨q, 0, none⟩ = some (.int .i64 m) ∧ W.cell? ⟨q, 1, none⟩ = some (.string p) ∧ W.cell? ⟨q, 2, none⟩ = some (.slice fo fs.length fc) ∧ W.cell? ⟨q, 3, none⟩ = some (.string b)) ∧ W.cell? ⟨q + 1, 1, none⟩ = some (.slice go gs.length gc)) (by kernel_rfl) ⟨(four_facts HSX.out.q0).1, (three_facts HSX.out.q1).1.2.1⟩ (fun _ => ?_)
  obtain ⟨X0, hX0⟩ : ∃ X, X = W2.drew := ⟨_, rfl⟩
  rw [← hX0] at HSX ⊢
  clear hX0 HST
  have hS0 : (X0.cell? ⟨q, 0, none⟩ = some (.int .i64 m) ∧ X0.cell? ⟨q, 1, none⟩ = some (.string p) ∧ X0.cell? ⟨q, 2, none⟩ = some (.slice fo fs.length fc) ∧ X0.cell? ⟨q, 3, none⟩ = some (.string b)) ∧ X0.cell? ⟨q + 1, 1, none⟩ = some (.slice go gs.length gc) := ⟨(four_facts HSX.out.q0).1, (three_facts HSX.out.q1).1.2.1⟩
  obtain ⟨Y, hY⟩ : ∃ Y, Y = fourSet X0 R (.int .i64 m) (.string p) (.slice fo fs.length fc) (.string b) := ⟨_, rfl⟩
  have HY : Hid (((((X0.setCell ⟨R, 0, none⟩ (.int .i64 m)).setCell ⟨R, 1, none⟩ (.string p)).setCell ⟨R, 2, none⟩ (.slice fo fs.length fc)).setCell ⟨R, 3, none⟩ (.string b)) = Y) := hY.symm
  have HYR : Hid (Y.heap[R]? = some (.cells #[.int .i64 m, .string p, .slice fo fs.length fc, .string b] 26)) := by show _ = _; rw [hY]; exact four_set HSX.out.z0 _ _ _ _
  have HYO : Hid (∀ j, j ≠ R → Y.heap[j]? = X0.heap[j]?) := fun j h => by rw [hY]; exact four_other _ _ _ _ _ _ _ h
  have HYB : Hid (Below R w Y) := by show Below _ _ _; rw [hY]; exact below_four HSX.out.low (Nat.le_refl _)
  have HFIN : Hid (DrawnQF w (.returned (.tuple #[.agg #[.int .i64 m, .string p, .slice fo fs.length fc, .string b], .slice go gs.length gc])) Y) := by
    refine ⟨m, p, _, fs, b, _, gs, rfl, HSZ.out.1, ?_, HPL.out, HPS.out, HSZ.out.2, ?_, hgl, hgsh, by rw [HRE.out]; exact HYB.out⟩
    · rw [HRE.out]
      refine owns_same (owns_wide HSX.out.own (by omega)) (fun j hj => ?_)
      have := owns_ge HSX.out.own hj
      exact HYO.out j (by omega)
    · rw [HRE.out]
      refine owns_same (owns_wide HSX.out.own2 (by omega)) (fun j hj => ?_)
      have := owns_ge HSX.out.own2 hj
      exact HYO.out j (by omega)
  have hSY : (Y.cell? ⟨q, 0, none⟩ = some (.int .i64 m) ∧ Y.cell? ⟨q, 1, none⟩ = some (.string p) ∧ Y.cell? ⟨q, 2, none⟩ = some (.slice fo fs.length fc) ∧ Y.cell? ⟨q, 3, none⟩ = some (.string b)) ∧ Y.cell? ⟨q + 1, 1, none⟩ = some (.slice go gs.length gc) := by
    have hg := HSX.out.ge
    have k0 := HYO.out q (by omega)
    have k1 := HYO.out (q + 1) (by omega)
    exact ⟨(four_facts (k0.trans HSX.out.q0)).1, (three_facts (k1.trans HSX.out.q1)).1.2.1⟩
  have HZ0 : Hid (X0.heap[R]? = some (.cells #[.int .i64 0, .string ⟨#[]⟩, .slice none 0 0, .string ⟨#[]⟩] 26)) := HSX.out.z0
  clear hY HSX HYO HYB
  refine wpAnyH_takeD (i := 0) (v := .agg #[.int .i64 m, .string p, .slice fo fs.length fc, .string b]) (some 11) rfl rfl (by kernel_rfl) (by kernel_rfl) (by kernel_rfl) (fun _ _ _ h => h) (Or.inl ⟨by rfl, by intro W hW; obtain ⟨⟨s0, s1, s2, s3⟩, s4⟩ := hW; go_simp⟩) hS0 ?_
  simp only [Act.put, List.setIfInBounds_toArray, List.set_cons_zero, List.set_cons_succ]
  refine wpAnyH_takeD (i := 1) (v := .pointer (some ⟨q + 1, 1, none⟩)) (some 12) rfl rfl (by kernel_rfl) (by kernel_rfl) (by kernel_rfl) (fun _ _ _ h => h) (Or.inl ⟨by rfl, by intro W _; go_simp⟩) hS0 ?_
  simp only [Act.put, List.setIfInBounds_toArray, List.set_cons_zero, List.set_cons_succ]
  refine wpAnyH_takeD (i := 2) (v := .slice go gs.length gc) (some 13) rfl rfl (by kernel_rfl) (by kernel_rfl) (by kernel_rfl) (fun _ _ _ h => h) (Or.inl ⟨by rfl, by intro W hW; obtain ⟨⟨s0, s1, s2, s3⟩, s4⟩ := hW; go_simp⟩) hS0 ?_
  simp only [Act.put, List.setIfInBounds_toArray, List.set_cons_zero, List.set_cons_succ]
  refine wpAnyH_ready (rs := [3]) (by kernel_rfl) (by simp) ?_
  refine AllReadyH.cons rfl (fun K hK => ?_) AllReadyH.nil
  obtain ⟨⟨x0, x1, x2, x3⟩, y0, y1, y2, y3⟩ := four_facts HZ0.out
  go_simp
  rw [HY.out]
  refine hK.out _ _ hSY (fun _ => ?_)
  clear hK K x0 x1 x2 x3 y0 y1 y2 y3 HZ0 HY hS0
  refine wpAnyH_takeD (i := 4) (v := .slice go gs.length gc) (some 3) rfl rfl (by kernel_rfl) (by kernel_rfl) (by kernel_rfl) (fun _ _ _ h => h) (Or.inl ⟨by rfl, by intro W _; go_simp⟩) hSY ?_
  simp only [Act.put, List.setIfInBounds_toArray, List.set_cons_zero, List.set_cons_succ]
  refine wpAnyH_done (by kernel_rfl) ?_ _
  obtain ⟨⟨k0, k1, k2, k3⟩, _⟩ := four_facts HYR.out
  go_wp2_with fail
  exact bodyPost_ret (v := .tuple #[.agg #[.int .i64 m, .string p, .slice fo fs.length fc, .string b], .slice go gs.length gc]) (by simp [results, Try.results14, go_sem, k0, k1, k2, k3]) rfl HFIN.out

set_option maxHeartbeats 4000000 in
set_option maxRecDepth 100000 in
theorem drawAsk_any (a : Option Addr) (len cap : Nat) (zs : List Int) (w : World) (hcode : CodeAt w w.heap.size a len zs) :
    Calls Try.prog 10 #[.slice a len cap] w fun e w' => DrawnQF w e w' := by
  obtain ⟨i0, hi, hz0, hz1, hz2⟩ := info_parts info33
  obtain ⟨R, hR⟩ : ∃ R, R = w.heap.size := ⟨_, rfl⟩
  have HRE : Hid (w.heap.size = R) := hR.symm
  obtain ⟨W0, hW0⟩ : ∃ W, W = w.alloc (.cells #[.int .i64 0, .string ⟨#[]⟩, .slice none 0 0, .string ⟨#[]⟩] 26) := ⟨_, rfl⟩
  have HW0 : Hid (w.alloc (.cells #[.int .i64 0, .string ⟨#[]⟩, .slice none 0 0, .string ⟨#[]⟩] 26) = W0) := hW0.symm
  have HB0 : Hid (Below R w W0) := by show Below _ _ _; rw [hW0, hR]; exact (Below.refl _ w).alloc (Nat.le_refl _) _
  have H0 : Hid (W0.heap[R]? = some (.cells #[.int .i64 0, .string ⟨#[]⟩, .slice none 0 0, .string ⟨#[]⟩] 26)) := by show _ = _; rw [hW0, hR]; exact heap_alloc_new w _
  have HS0 : Hid (W0.heap.size = R + 1) := by show _ = _; rw [hW0, hR]; simp
  have HCO : Hid (∀ W, Below R w W → CodeAt W W.heap.size a len zs) := fun W h => (hcode.below (by rw [hR] at h; exact h)).upTo h.size
  have hco0 := HCO.out W0 HB0.out
  clear hW0 hcode
  go_enter Try.func10, Try.ntmps10
  go_upto_region 1 with fail
  rw [HW0.out, ← hR]
  clear hR HW0
  go_wp2_with fail
  refine (l9Draw_any a len cap zs _ hco0).mono ?_
  rintro e w1 ⟨m, p, fv, fs, b, st, gv, gs, d, rfl, hm, hp, own1, hfl, hsh, hbb, hst, own2, hgl, hgsh, hd, hne, b1⟩
  obtain ⟨fo, fc, rfl⟩ := slice_of_owns own1
  obtain ⟨go, gc, rfl⟩ := slice_of_owns own2
  obtain ⟨q, hq⟩ : ∃ q, q = w1.heap.size := ⟨_, rfl⟩
  obtain ⟨W2, hW2⟩ : ∃ W, W = (w1.alloc (.cells #[.int .i64 m, .string p, .slice fo fs.length fc, .string b] 26)).alloc (.cells #[.int .i64 st, .slice go gs.length gc, .string d] 32) := ⟨_, rfl⟩
  have HST : Hid (DaSt w R q m p (.slice fo fs.length fc) b st (.slice go gs.length gc) d fs gs W2) := by
    have hs0 := HS0.out
    rw [hs0] at own1 own2 b1
    have s1 : (w1.alloc (.cells #[.int .i64 m, .string p, .slice fo fs.length fc, .string b] 26)).heap.size = q + 1 := by rw [hq]; simp
    have e0 := heap_alloc_new w1 (.cells #[.int .i64 m, .string p, .slice fo fs.length fc, .string b] 26)
    have e1 := heap_alloc_new (w1.alloc (.cells #[.int .i64 m, .string p, .slice fo fs.length fc, .string b] 26)) (.cells #[.int .i64 st, .slice go gs.length gc, .string d] 32)
    rw [← hq] at e0
    rw [s1, ← hW2] at e1
    have c2 : Below w1.heap.size w1 W2 := by rw [hW2]; exact ((Below.refl _ _).alloc (Nat.le_refl _) _).alloc (by simp) _
    have hz1 := b1.size
    rw [hs0] at hz1
    have c0 := b1.trans (c2.mono (by omega))
    exact ⟨by rw [c0.block R (by omega)]; exact H0.out, by rw [hW2, Below.heap_alloc _ _ _ (by rw [s1]; omega)]; exact e0, e1, owns_same own1 (fun j hj => c2.block j (owns_lt own1 hj)), owns_same own2 (fun j hj => c2.block j (owns_lt own2 hj)), hne, by omega, HB0.out.trans (c0.mono (by omega))⟩
  have HSZ : Hid (p.size ≤ 64 ∧ b.size ≤ 140) := ⟨hp, hbb⟩
  go_upto_region 2 with fail
  rw [← hW2, ← hq]
  clear hW2 hq own1 own2 b1 hne hm hst hd hp hbb H0 HS0 HB0 hco0
  go_wp2_with fail
  refine (l1New_any _ a len cap zs _ (HCO.out _ HST.out.low)).mono ?_
  rintro e w3 ⟨rfl, hcu, b3⟩
  obtain ⟨c, hc⟩ : ∃ c, c = W2.heap.size := ⟨_, rfl⟩
  rw [← hc] at hcu ⊢
  have HST3 : Hid (DaSt w R q m p (.slice fo fs.length fc) b st (.slice go gs.length gc) d fs gs w3) := HST.out.below b3
  have HOC : Hid (∀ j, (Value.slice fo fs.length fc).ownBlock = some j → j < c) := fun j hj => by rw [hc]; exact owns_lt HST.out.own hj
  have HOD : Hid (∀ j, (Value.slice go gs.length gc).ownBlock = some j → j < c) := fun j hj => by rw [hc]; exact owns_lt HST.out.own2 hj
  have HQC : Hid (q + 1 < c) := by show _ < _; rw [hc]; exact HST.out.size
  have hco3 : CodeAt w3 c a len zs := by
    have h := (HCO.out _ HST.out.low).below b3
    rw [← hc] at h
    exact h
  clear HST b3 hc
  go_wp2_with fail
  refine (l1Once_any c c 15 a len cap zs _ hcu hco3 (Nat.le_refl _) (by omega) (by omega)).mono ?_
  rintro e w4 ⟨hbo, _, hg4⟩
  obtain ⟨bo, rfl⟩ := hbo.out
  have HST4 : Hid (DaSt w R q m p (.slice fo fs.length fc) b st (.slice go gs.length gc) d fs gs w4) := by
    have h := HST3.out
    have hq := HQC.out
    have hge := h.ge
    have hsz := h.size
    have hc3 := hcu.lt
    have hbl : Below R w w4 := h.low.grown hg4 (by omega) (by intro k hk; cases hk; omega)
    have hB : ∀ j, j < c → w4.heap[j]? = w3.heap[j]? := fun j hj => hg4.block j (by omega) (fun e => by cases e; omega)
    exact ⟨by rw [hB R (by omega)]; exact h.z0, by rw [hB q (by omega)]; exact h.q0, by rw [hB (q + 1) (by omega)]; exact h.q1, owns_same h.own (fun j hj => hB j (HOC.out j hj)), owns_same h.own2 (fun j hj => hB j (HOD.out j hj)), h.ne, hge, hbl⟩
  clear HST3 hcu hco3 hg4 hbo HOC HOD HQC HCO
  cases bo with
  | false =>
    have HPL : Hid (fs.length ≤ 40) := hfl
    have HPS : Hid (ShortF fs) := hsh
    clear hfl hsh
    go_upto_region 7 with fail
    have HSX : Hid (DaSt w R q m p (.slice fo fs.length fc) b st (.slice go gs.length gc) d fs gs w4.drew) := HST4.out.below ((Below.refl _ _).drew)
    refine wp_region_held_drew (S := fun W => (W.cell? ⟨q, 0, none⟩ = some (.int .i64 m) ∧ W.cell? ⟨q, 1, none⟩ = some (.string p) ∧ W.cell? ⟨q, 2, none⟩ = some (.slice fo fs.length fc) ∧ W.cell? ⟨q, 3, none⟩ = some (.string b)) ∧ W.cell? ⟨q + 1, 1, none⟩ = some (.slice go gs.length gc)) (by kernel_rfl) ⟨(four_facts HSX.out.q0).1, (three_facts HSX.out.q1).1.2.1⟩ (fun _ => ?_)
    obtain ⟨X0, hX0⟩ : ∃ X, X = w4.drew := ⟨_, rfl⟩
    rw [← hX0] at HSX ⊢
    clear hX0 HST4
    have hS0 : (X0.cell? ⟨q, 0, none⟩ = some (.int .i64 m) ∧ X0.cell? ⟨q, 1, none⟩ = some (.string p) ∧ X0.cell? ⟨q, 2, none⟩ = some (.slice fo fs.length fc) ∧ X0.cell? ⟨q, 3, none⟩ = some (.string b)) ∧ X0.cell? ⟨q + 1, 1, none⟩ = some (.slice go gs.length gc) := ⟨(four_facts HSX.out.q0).1, (three_facts HSX.out.q1).1.2.1⟩
    obtain ⟨Y, hY⟩ : ∃ Y, Y = fourSet X0 R (.int .i64 m) (.string p) (.slice fo fs.length fc) (.string b) := ⟨_, rfl⟩
    have HY : Hid (((((X0.setCell ⟨R, 0, none⟩ (.int .i64 m)).setCell ⟨R, 1, none⟩ (.string p)).setCell ⟨R, 2, none⟩ (.slice fo fs.length fc)).setCell ⟨R, 3, none⟩ (.string b)) = Y) := hY.symm
    have HYR : Hid (Y.heap[R]? = some (.cells #[.int .i64 m, .string p, .slice fo fs.length fc, .string b] 26)) := by show _ = _; rw [hY]; exact four_set HSX.out.z0 _ _ _ _
    have HYO : Hid (∀ j, j ≠ R → Y.heap[j]? = X0.heap[j]?) := fun j h => by rw [hY]; exact four_other _ _ _ _ _ _ _ h
    have HYB : Hid (Below R w Y) := by show Below _ _ _; rw [hY]; exact below_four HSX.out.low (Nat.le_refl _)
    have HFIN : Hid (DrawnQF w (.returned (.tuple #[.agg #[.int .i64 m, .string p, .slice fo fs.length fc, .string b], .slice go gs.length gc])) Y) := by
      refine ⟨m, p, _, fs, b, _, gs, rfl, HSZ.out.1, ?_, HPL.out, HPS.out, HSZ.out.2, ?_, hgl, hgsh, by rw [HRE.out]; exact HYB.out⟩
      · rw [HRE.out]
        refine owns_same (owns_wide HSX.out.own (by omega)) (fun j hj => ?_)
        have := owns_ge HSX.out.own hj
        exact HYO.out j (by omega)
      · rw [HRE.out]
        refine owns_same (owns_wide HSX.out.own2 (by omega)) (fun j hj => ?_)
        have := owns_ge HSX.out.own2 hj
        exact HYO.out j (by omega)
    have hSY : (Y.cell? ⟨q, 0, none⟩ = some (.int .i64 m) ∧ Y.cell? ⟨q, 1, none⟩ = some (.string p) ∧ Y.cell? ⟨q, 2, none⟩ = some (.slice fo fs.length fc) ∧ Y.cell? ⟨q, 3, none⟩ = some (.string b)) ∧ Y.cell? ⟨q + 1, 1, none⟩ = some (.slice go gs.length gc) := by
      have hg := HSX.out.ge
      have k0 := HYO.out q (by omega)
      have k1 := HYO.out (q + 1) (by omega)
      exact ⟨(four_facts (k0.trans HSX.out.q0)).1, (three_facts (k1.trans HSX.out.q1)).1.2.1⟩
    have HZ0 : Hid (X0.heap[R]? = some (.cells #[.int .i64 0, .string ⟨#[]⟩, .slice none 0 0, .string ⟨#[]⟩] 26)) := HSX.out.z0
    clear hY HSX HYO HYB
    refine wpAnyH_takeD (i := 0) (v := .agg #[.int .i64 m, .string p, .slice fo fs.length fc, .string b]) (some 35) rfl rfl (by kernel_rfl) (by kernel_rfl) (by kernel_rfl) (fun _ _ _ h => h) (Or.inl ⟨by rfl, by intro W hW; obtain ⟨⟨s0, s1, s2, s3⟩, s4⟩ := hW; go_simp⟩) hS0 ?_
    simp only [Act.put, List.setIfInBounds_toArray, List.set_cons_zero, List.set_cons_succ]
    refine wpAnyH_takeD (i := 1) (v := .pointer (some ⟨q + 1, 1, none⟩)) (some 36) rfl rfl (by kernel_rfl) (by kernel_rfl) (by kernel_rfl) (fun _ _ _ h => h) (Or.inl ⟨by rfl, by intro W _; go_simp⟩) hS0 ?_
    simp only [Act.put, List.setIfInBounds_toArray, List.set_cons_zero, List.set_cons_succ]
    refine wpAnyH_takeD (i := 2) (v := .slice go gs.length gc) (some 37) rfl rfl (by kernel_rfl) (by kernel_rfl) (by kernel_rfl) (fun _ _ _ h => h) (Or.inl ⟨by rfl, by intro W hW; obtain ⟨⟨s0, s1, s2, s3⟩, s4⟩ := hW; go_simp⟩) hS0 ?_
    simp only [Act.put, List.setIfInBounds_toArray, List.set_cons_zero, List.set_cons_succ]
    refine wpAnyH_ready (rs := [3]) (by kernel_rfl) (by simp) ?_
    refine AllReadyH.cons rfl (fun K hK => ?_) AllReadyH.nil
    obtain ⟨⟨x0, x1, x2, x3⟩, y0, y1, y2, y3⟩ := four_facts HZ0.out
    go_simp
    rw [HY.out]
    refine hK.out _ _ hSY (fun _ => ?_)
    clear hK K x0 x1 x2 x3 y0 y1 y2 y3 HZ0 HY hS0
    refine wpAnyH_takeD (i := 4) (v := .slice go gs.length gc) (some 3) rfl rfl (by kernel_rfl) (by kernel_rfl) (by kernel_rfl) (fun _ _ _ h => h) (Or.inl ⟨by rfl, by intro W _; go_simp⟩) hSY ?_
    simp only [Act.put, List.setIfInBounds_toArray, List.set_cons_zero, List.set_cons_succ]
    refine wpAnyH_done (by kernel_rfl) ?_ _
    obtain ⟨⟨k0, k1, k2, k3⟩, _⟩ := four_facts HYR.out
    go_wp2_with fail
    exact bodyPost_ret (v := .tuple #[.agg #[.int .i64 m, .string p, .slice fo fs.length fc, .string b], .slice go gs.length gc]) (by simp [results, Try.results10, go_sem, k0, k1, k2, k3]) rfl HFIN.out
  | true =>
    go_wp2_with fail
    go_loopw [19] (fun _ wr => ∃ (o : Option Addr) (c' n : Nat) (P : List (ByteArray × ByteArray)), Hid (DaSt w R q m p (.slice o n c') b st (.slice go gs.length gc) d P gs wr) ∧ Hid (P.length = n ∧ n ≤ 40 ∧ ShortF P)) (fun _ wr => 8 - (lenAt wr q))
    case atStart => exact ⟨_, _, _, fs, HST4, rfl, hfl, hsh⟩
    case round =>
      obtain ⟨o, c', n, P, HS, HPP⟩ := hrel
      obtain ⟨⟨_, _, e2, _⟩, _⟩ := four_facts HS.out.q0
      have HLA : Hid (lenAt wr q = n) := lenAt_is e2
      by_cases hlt : (n : Int) < 8
      · have hnn : n ≤ 9 := by omega
        have HOW : Hid (wr.ownsRow (R + 1) 68 2 (.slice o n c') n (flatF P)) := by
          have h := HS.out.own
          rw [HPP.out.1] at h
          exact h
        have HA : Hid (∀ W, Below wr.drew.heap.size wr.drew W → Hid (DaSt w R q m p (.slice o n c') b st (.slice go gs.length gc) d P gs W) ∧ Hid (W.ownsRow (R + 1) 68 2 (.slice o n c') n (flatF P)) ∧ W.cell? ⟨q, 2, none⟩ = some (.slice o n c') ∧ (∀ o1, (W.alloc o1).cell? ⟨q, 2, none⟩ = some (.slice o n c')) ∧ Hid (∀ o1, R + 1 ≤ (W.alloc o1).heap.size)) := fun W hW => by
          have h0 : Below wr.heap.size wr W := ((Below.refl _ wr).drew).trans hW
          have h3 := HS.out.below h0
          have hs := h3.size
          have hg := h3.ge
          refine ⟨h3, by have := h3.own; rw [HPP.out.1] at this; exact this, (four_facts h3.q0).1.2.2.1, fun o1 => ?_, fun o1 => by simp; omega⟩
          exact (four_facts (h3.below ((Below.refl _ _).alloc (Nat.le_refl _) o1)).q0).1.2.2.1
        obtain ⟨nt, hnt⟩ : ∃ t, t = numText n := ⟨_, rfl⟩
        have HNT : Hid (numText n = nt) := hnt.symm
        have HNS : Hid (nt.size ≤ 20) := by show _ ≤ _; rw [hnt]; exact numText_short n hnn
        clear hnt
        have HXS : Hid (((⟨#[110]⟩ : ByteArray) ++ nt).size ≤ 64) := by
          show _ ≤ _
          rw [ByteArray.size_append]
          have := HNS.out
          have e1 : (⟨#[110]⟩ : ByteArray).size = 1 := rfl
          omega
        have qq1 : ¬ 9223372036854775807 < 1 + nt.size := by have := HNS.out; omega
        have HM : Hid (∀ W3 W4 g cap, Hid (DaSt w R q m p (.slice o n c') b st (.slice go gs.length gc) d P gs W3) → (W3.alloc (.cells #[.string ((⟨#[110]⟩ : ByteArray) ++ nt), .string ⟨#[118]⟩] 68)).grownBy W4 (Value.slice o n c').ownBlock → W4.ownsRow (R + 1) 68 2 (.slice (some ⟨g, 0, none⟩) (n + 1) cap) (n + 1) (flatF P ++ [.string ((⟨#[110]⟩ : ByteArray) ++ nt), .string ⟨#[118]⟩]) → ((Value.slice o n c').ownBlock = some g ∨ g = W3.heap.size + 1) → W4.cell? ⟨q, 2, none⟩ = some (.slice o n c') ∧ W4.frozen? ⟨q, 2, none⟩ = false ∧ Hid (DaSt w R q m p (.slice (some ⟨g, 0, none⟩) (n + 1) cap) b st (.slice go gs.length gc) d (P ++ [(((⟨#[110]⟩ : ByteArray) ++ nt), ⟨#[118]⟩)]) gs (W4.setCell ⟨q, 2, none⟩ (.slice (some ⟨g, 0, none⟩) (n + 1) cap)))) := by
          intro W3 W4 g cap h3 hg ho hat
          have hs := h3.out.size
          have hge := h3.out.ge
          have hB : ∀ j, j < W3.heap.size → (Value.slice o n c').ownBlock ≠ some j → W4.heap[j]? = W3.heap[j]? := fun j hj hn => by
            rw [hg.block j (by simp; omega) (fun e => hn e.symm), Below.heap_alloc _ _ _ hj]
          have hz := hB R (by omega) (own_apart h3.out.own h3.out.z0 (by decide))
          have h0 := hB q (by omega) (own_apart h3.out.own h3.out.q0 (by decide))
          have h1 := hB (q + 1) (by omega) (own_apart h3.out.own h3.out.q1 (by decide))
          have hbl : Below R w W4 := (h3.out.low.alloc (by omega) _).grown hg (by simp; omega) (fun k hk => by have := owns_ge h3.out.own hk; omega)
          have h0' := h0.trans h3.out.q0
          refine ⟨(four_facts h0').1.2.2.1, (four_facts h0').2.2.2.1, h3.out.put hz h0 h1 (fun j hj => hB j (owns_lt h3.out.own2 hj) (fun e => h3.out.ne j e hj)) (by rw [flatF_append, flatF_one, List.length_append, HPP.out.1]; exact ho) (fun j hj e => ?_) hbl⟩
          have hjg : g = j := Option.some.inj hj
          rw [← hjg] at e
          rcases hat with hat | hat
          · exact h3.out.ne g hat e
          · have := owns_lt h3.out.own2 e
            omega
        have h63 : n + 1 ≤ maxLen := by unfold maxLen; omega
        have h47 : (n + 1) * 32 ≤ 140737488355328 := by omega
        clear HS HOW
        go_upto_region 5 with fail
        go_region_law (first | (go_simp; go_at_call 43; refine (specNumText_any n _ (by omega)).mono ?_; rintro e w3 ⟨rfl, bb3⟩; rw [HNT.out]; obtain ⟨HS3, HO3, hc3, hca3, HBA3⟩ := HA.out w3 bb3; clear bb3) | ((refine step_append_lies _ (by rfl) _ _ _ (by rfl) (R + 1) 68 i0 (.agg #[.string ⟨#[]⟩, .string ⟨#[]⟩]) 2 32 Try.underlying24 hi hz0 hz1 hz2 rfl (by omega) (.slice o n c') n (flatF P) (by rfl) (HO3.out.alloc _) ⟨w3.heap.size, 0, none⟩ 1 1 [.string ((⟨#[110]⟩ : ByteArray) ++ nt), .string ⟨#[118]⟩] (by rfl) (by rfl) (World.news_of_block (cs := #[.string ((⟨#[110]⟩ : ByteArray) ++ nt), .string ⟨#[118]⟩]) (t := 68) (fr := (0, 0)) (heap_alloc_new w3 _)) (by simp [Value.oneCell']) (by omega) h63 h47 (HBA3.out _) (w3.heap.size + 1) (by simp) ?_; intro g4 cap4 w4 hown4 hgrow4 hat4 hlt4; obtain ⟨hc4, hf4, HS4⟩ := HM.out w3 w4 g4 cap4 HS3 hgrow4 hown4 hat4; clear hown4 hgrow4 hat4 hlt4)))
        all_goals
          go_wp2_with fail
          go_roundw
          case rel => exact ⟨_, _, n + 1, P ++ [((⟨#[110]⟩ : ByteArray) ++ nt, ⟨#[118]⟩)], HS4, ⟨by rw [List.length_append, HPP.out.1]; rfl, by omega, HPP.out.2.2.snoc HXS.out (by decide)⟩⟩
          case measure =>
            have hl4 := lenAt_is (four_facts HS4.out.q0).1.2.2.1
            rw [hl4, HLA.out]
            omega
      · have hvd : FieldsV wr (R + 1) (.slice o n c') n P := by
          have h := FieldsV.of_owns HS.out.own
          rw [HPP.out.1] at h
          exact h
        have hn40 : n ≤ 40 := HPP.out.2.1
        clear HLA
        go_wp2_with fail
        refine (specDrop_any _ n _ P inmName _ hvd (by omega)).mono ?_
        rintro e w5 ⟨zv, rfl, ownd, b5⟩
        obtain ⟨o8, c8, rfl⟩ := slice_of_owns ownd
        obtain ⟨Q, hQ⟩ : ∃ x, x = dropF P inmName := ⟨_, rfl⟩
        rw [← hQ] at ownd ⊢
        have HPL : Hid (Q.length ≤ 40) := by show _ ≤ _; rw [hQ]; have h1 := drop_len P inmName; have h2 := HPP.out.1; omega
        have HPS : Hid (ShortF Q) := by show ShortF _; rw [hQ]; exact HPP.out.2.2.drop inmName
        have HS5 : Hid (DaSt w R q m p (.slice o n c') b st (.slice go gs.length gc) d P gs w5) := HS.out.below b5
        obtain ⟨⟨_, _, f2, _⟩, _, _, y2, _⟩ := four_facts HS5.out.q0
        have HST6 : Hid (DaSt w R q m p (.slice o8 Q.length c8) b st (.slice go gs.length gc) d Q gs (w5.setCell ⟨q, 2, none⟩ (.slice o8 Q.length c8))) := by
          have hs := HS.out.size
          have hge := HS.out.ge
          exact HS5.out.put rfl rfl rfl (fun _ _ => rfl) (owns_wide ownd (by omega)) (fun j hj e => by have h1 := owns_ge ownd hj; have h2 := owns_lt HS.out.own2 e; omega) HS5.out.low
        clear hQ ownd b5 hvd e2 HS HS5 HPP
        go_upto_region 7 with fail
        obtain ⟨w6, hw6⟩ : ∃ W, W = w5.setCell ⟨q, 2, none⟩ (.slice o8 Q.length c8) := ⟨_, rfl⟩
        rw [← hw6] at HST6 ⊢
        clear hw6 f2 y2
        have HSX : Hid (DaSt w R q m p (.slice o8 Q.length c8) b st (.slice go gs.length gc) d Q gs w6.drew) := HST6.out.below ((Below.refl _ _).drew)
        refine wp_region_held_drew (S := fun W => (W.cell? ⟨q, 0, none⟩ = some (.int .i64 m) ∧ W.cell? ⟨q, 1, none⟩ = some (.string p) ∧ W.cell? ⟨q, 2, none⟩ = some (.slice o8 Q.length c8) ∧ W.cell? ⟨q, 3, none⟩ = some (.string b)) ∧ W.cell? ⟨q + 1, 1, none⟩ = some (.slice go gs.length gc)) (by kernel_rfl) ⟨(four_facts HSX.out.q0).1, (three_facts HSX.out.q1).1.2.1⟩ (fun _ => ?_)
        obtain ⟨X0, hX0⟩ : ∃ X, X = w6.drew := ⟨_, rfl⟩
        rw [← hX0] at HSX ⊢
        clear hX0 HST6
        have hS0 : (X0.cell? ⟨q, 0, none⟩ = some (.int .i64 m) ∧ X0.cell? ⟨q, 1, none⟩ = some (.string p) ∧ X0.cell? ⟨q, 2, none⟩ = some (.slice o8 Q.length c8) ∧ X0.cell? ⟨q, 3, none⟩ = some (.string b)) ∧ X0.cell? ⟨q + 1, 1, none⟩ = some (.slice go gs.length gc) := ⟨(four_facts HSX.out.q0).1, (three_facts HSX.out.q1).1.2.1⟩
        obtain ⟨Y, hY⟩ : ∃ Y, Y = fourSet X0 R (.int .i64 m) (.string p) (.slice o8 Q.length c8) (.string b) := ⟨_, rfl⟩
        have HY : Hid (((((X0.setCell ⟨R, 0, none⟩ (.int .i64 m)).setCell ⟨R, 1, none⟩ (.string p)).setCell ⟨R, 2, none⟩ (.slice o8 Q.length c8)).setCell ⟨R, 3, none⟩ (.string b)) = Y) := hY.symm
        have HYR : Hid (Y.heap[R]? = some (.cells #[.int .i64 m, .string p, .slice o8 Q.length c8, .string b] 26)) := by show _ = _; rw [hY]; exact four_set HSX.out.z0 _ _ _ _
        have HYO : Hid (∀ j, j ≠ R → Y.heap[j]? = X0.heap[j]?) := fun j h => by rw [hY]; exact four_other _ _ _ _ _ _ _ h
        have HYB : Hid (Below R w Y) := by show Below _ _ _; rw [hY]; exact below_four HSX.out.low (Nat.le_refl _)
        have HFIN : Hid (DrawnQF w (.returned (.tuple #[.agg #[.int .i64 m, .string p, .slice o8 Q.length c8, .string b], .slice go gs.length gc])) Y) := by
          refine ⟨m, p, _, Q, b, _, gs, rfl, HSZ.out.1, ?_, HPL.out, HPS.out, HSZ.out.2, ?_, hgl, hgsh, by rw [HRE.out]; exact HYB.out⟩
          · rw [HRE.out]
            refine owns_same (owns_wide HSX.out.own (by omega)) (fun j hj => ?_)
            have := owns_ge HSX.out.own hj
            exact HYO.out j (by omega)
          · rw [HRE.out]
            refine owns_same (owns_wide HSX.out.own2 (by omega)) (fun j hj => ?_)
            have := owns_ge HSX.out.own2 hj
            exact HYO.out j (by omega)
        have hSY : (Y.cell? ⟨q, 0, none⟩ = some (.int .i64 m) ∧ Y.cell? ⟨q, 1, none⟩ = some (.string p) ∧ Y.cell? ⟨q, 2, none⟩ = some (.slice o8 Q.length c8) ∧ Y.cell? ⟨q, 3, none⟩ = some (.string b)) ∧ Y.cell? ⟨q + 1, 1, none⟩ = some (.slice go gs.length gc) := by
          have hg := HSX.out.ge
          have k0 := HYO.out q (by omega)
          have k1 := HYO.out (q + 1) (by omega)
          exact ⟨(four_facts (k0.trans HSX.out.q0)).1, (three_facts (k1.trans HSX.out.q1)).1.2.1⟩
        have HZ0 : Hid (X0.heap[R]? = some (.cells #[.int .i64 0, .string ⟨#[]⟩, .slice none 0 0, .string ⟨#[]⟩] 26)) := HSX.out.z0
        clear hY HSX HYO HYB
        refine wpAnyH_takeD (i := 0) (v := .agg #[.int .i64 m, .string p, .slice o8 Q.length c8, .string b]) (some 35) rfl rfl (by kernel_rfl) (by kernel_rfl) (by kernel_rfl) (fun _ _ _ h => h) (Or.inl ⟨by rfl, by intro W hW; obtain ⟨⟨s0, s1, s2, s3⟩, s4⟩ := hW; go_simp⟩) hS0 ?_
        simp only [Act.put, List.setIfInBounds_toArray, List.set_cons_zero, List.set_cons_succ]
        refine wpAnyH_takeD (i := 1) (v := .pointer (some ⟨q + 1, 1, none⟩)) (some 36) rfl rfl (by kernel_rfl) (by kernel_rfl) (by kernel_rfl) (fun _ _ _ h => h) (Or.inl ⟨by rfl, by intro W _; go_simp⟩) hS0 ?_
        simp only [Act.put, List.setIfInBounds_toArray, List.set_cons_zero, List.set_cons_succ]
        refine wpAnyH_takeD (i := 2) (v := .slice go gs.length gc) (some 37) rfl rfl (by kernel_rfl) (by kernel_rfl) (by kernel_rfl) (fun _ _ _ h => h) (Or.inl ⟨by rfl, by intro W hW; obtain ⟨⟨s0, s1, s2, s3⟩, s4⟩ := hW; go_simp⟩) hS0 ?_
        simp only [Act.put, List.setIfInBounds_toArray, List.set_cons_zero, List.set_cons_succ]
        refine wpAnyH_ready (rs := [3]) (by kernel_rfl) (by simp) ?_
        refine AllReadyH.cons rfl (fun K hK => ?_) AllReadyH.nil
        obtain ⟨⟨x0, x1, x2, x3⟩, y0, y1, y2, y3⟩ := four_facts HZ0.out
        go_simp
        rw [HY.out]
        refine hK.out _ _ hSY (fun _ => ?_)
        clear hK K x0 x1 x2 x3 y0 y1 y2 y3 HZ0 HY hS0
        refine wpAnyH_takeD (i := 4) (v := .slice go gs.length gc) (some 3) rfl rfl (by kernel_rfl) (by kernel_rfl) (by kernel_rfl) (fun _ _ _ h => h) (Or.inl ⟨by rfl, by intro W _; go_simp⟩) hSY ?_
        simp only [Act.put, List.setIfInBounds_toArray, List.set_cons_zero, List.set_cons_succ]
        refine wpAnyH_done (by kernel_rfl) ?_ _
        obtain ⟨⟨k0, k1, k2, k3⟩, _⟩ := four_facts HYR.out
        go_wp2_with fail
        exact bodyPost_ret (v := .tuple #[.agg #[.int .i64 m, .string p, .slice o8 Q.length c8, .string b], .slice go gs.length gc]) (by simp [results, Try.results10, go_sem, k0, k1, k2, k3]) rfl HFIN.out

end Go.Proofs.Ythlmnmbhgkmbfaa

namespace Go.Proofs.Ythlmnmbhgkmbfaa
open Go.RowKit
open Go.Lib hiding intOf

/-- A block's content behind a call. -/
theorem blk_below {W W' : World} {r : Nat} {o : Obj} (h : W.heap[r]? = some o) (b : Below W.heap.size W W') : W'.heap[r]? = some o := by
  rw [b.block r (Array.getElem?_eq_some_iff.1 h).1]; exact h
/-- The list of a request, of an answer, that a call handed out. -/
theorem field_req2 (m : Int) (p : ByteArray) (o : Option Addr) (n c : Nat) (b : ByteArray) (W : World) : (Instr.field 26 (.agg #[.int .i64 m, .string p, .slice o n c, .string b]) 2).run Try.prog W = .ok (.slice o n c) W := by kernel_rfl
theorem field_resp1 (m : Int) (o : Option Addr) (n c : Nat) (b : ByteArray) (W : World) : (Instr.field 32 (.agg #[.int .i64 m, .slice o n c, .string b]) 1).run Try.prog W = .ok (.slice o n c) W := by kernel_rfl

end Go.Proofs.Ythlmnmbhgkmbfaa
