/- What the proof of FnHits leans on: contracts of the program's and the specification's functions, and plain facts (part 2 of 9). -/
import Derived.Test.YtlmenolcgaakeaaGreatFnHitsA
namespace Go.Proofs.YtlmenolcgaakeaaGreat
open Go.RowKit
open Go.Lib hiding intOf

/-- Fields of short texts. -/
def ShortF (fs : List (ByteArray × ByteArray)) : Prop := ∀ f ∈ fs, f.1.size ≤ 64 ∧ f.2.size ≤ 64
theorem ShortF.snoc {fs : List (ByteArray × ByteArray)} {nm vl : ByteArray} (h : ShortF fs) (h1 : nm.size ≤ 64) (h2 : vl.size ≤ 64) : ShortF (fs ++ [(nm, vl)]) := by
  intro f hf
  rcases List.mem_append.1 hf with hf | hf
  · exact h f hf
  · simp at hf; subst hf; exact ⟨h1, h2⟩
/-- A call on the cursor answers a list of at most m fields of short texts, in memory of its own, and turns the cursor alone of what was there. -/
def FieldsDrawn (m : Nat) (w : World) (c : Nat) (a : Option Addr) (len cap : Nat) (e : Ending) (w' : World) : Prop :=
  ∃ (v : Value) (fs : List (ByteArray × ByteArray)), e = .returned v ∧ w'.ownsRow w.heap.size 75 2 v fs.length (flatF fs) ∧ fs.length ≤ m ∧ ShortF fs ∧ CurAt w' c a len cap ∧ w.grownBy w' (some c)

set_option maxHeartbeats 2000000 in
set_option maxRecDepth 100000 in
theorem l2DrawRight_any (c B : Nat) (a : Option Addr) (len cap : Nat) (zs : List Int) (w : World) (hcur : CurAt w c a len cap) (hcode : CodeAt w B a len zs) (hB : B ≤ c) :
    Calls Tryz.prog 72 #[.pointer (some ⟨c, 0, none⟩)] w fun e w' => FieldsDrawn 5 w c a len cap e w' := by
  obtain ⟨i0, hi, hz0, hz1, hz2⟩ := info_parts info33
  have hcw := hcur.lt
  go_enter Tryz.func72, Tryz.ntmps72
  go_wp2
  go_loopw [3, 4] (fun v i wr => ∃ (k : Nat) (fs : List (ByteArray × ByteArray)), k ≤ 5 ∧ i = .int .i64 (k : Int) ∧ wr.ownsRow w.heap.size 75 2 v fs.length (flatF fs) ∧ fs.length ≤ k ∧ Hid (ShortF fs) ∧ CurAt wr c a len cap ∧ w.grownBy wr (some c)) (fun _ i _ => 5 - (intOf i).toNat)
  case atStart => exact ⟨0, [], Nat.zero_le _, rfl, ⟨rfl, .inr ⟨w.heap.size, 0, #[], rfl, Nat.le_refl _, heap_alloc_new w _, Nat.le_refl _, Nat.zero_le _, rfl, rfl⟩⟩, Nat.le_refl _, (fun f hf => by simp at hf), hcur.below ((Below.refl _ _).alloc (Nat.le_refl _) _) hcw, World.grownBy_alloc w _ _⟩
  case round =>
    obtain ⟨k, fs, hk, rfl, hown, hfl, hsh, hcu, hgw⟩ := hrel
    go_wp2_with fail
    refine (l1Below_any c B 5 a len cap zs _ hcu (hcode.grown hgw hB) hB (by omega) (by omega)).mono ?_
    rintro e w1 ⟨x, rfl, hx0, hx1, hcu1, hg1⟩
    have hown1 := owns_grown hown hg1 hcw
    have hgw1 := grownBy_trans hgw hg1
    clear hcu hown hg1 hgw
    by_cases hkx : (k : Int) < x
    · go_wp2_with fail
      refine (l2DrawField_any c B a len cap zs _ hcu1 (hcode.grown hgw1 hB) hB).mono ?_
      rintro e w2 ⟨nm, vl, rfl, hnm, hvl, hcu2, hg2⟩
      have hown2 := owns_grown hown1 hg2 hcw
      have hgw2 := grownBy_trans hgw1 hg2
      clear hcu1 hown1 hg2 hgw1
      go_wp2_with fail
      have hown3 := hown2.alloc (.cells #[.string nm, .string vl] 75)
      have hgw3 := grownBy_allocR hgw2 (.cells #[.string nm, .string vl] 75)
      have hcl2 := hcu2.lt
      have hcu3 := hcu2.below ((Below.refl _ _).alloc (Nat.le_refl _) (.cells #[.string nm, .string vl] 75)) hcl2
      have hc0 : (w2.alloc (.cells #[.string nm, .string vl] 75)).cell? ⟨w2.heap.size, 0, none⟩ = some (.string nm) := by rw [World.cell?_alloc_new]; rfl
      have hc1 : (w2.alloc (.cells #[.string nm, .string vl] 75)).cell? ⟨w2.heap.size, 1, none⟩ = some (.string vl) := by rw [World.cell?_alloc_new]; rfl
      have hs3 : w2.heap.size < (w2.alloc (.cells #[.string nm, .string vl] 75)).heap.size := by simp
      obtain ⟨r, hr⟩ : ∃ r, r = w2.heap.size := ⟨_, rfl⟩
      refine (l2At_any u3 fs.length w.heap.size fs nm _ (FieldsV.of_owns hown3) (by omega)).mono ?_
      rintro e w3 ⟨rfl, hw3⟩
      rw [← hw3] at hown3 hgw3 hcu3 hc0 hc1 hs3
      rw [← hr] at hc0 hc1 hs3
      rw [← hr]
      clear hown2 hgw2 hcu2 hw3 hr hcl2
      by_cases hin : atF fs nm < fs.length
      · have hI : Hid (atI fs nm = (atF fs nm : Int)) := by show _ = _; unfold atI; rw [if_pos hin]
        rw [hI.out]
        obtain ⟨p, hp⟩ : ∃ p, p = atF fs nm := ⟨_, rfl⟩
        rw [← hp]
        have hp0 : ¬ (p : Int) < 0 := by omega
        clear hI hin hp
        go_wp2
        go_roundw
        case rel => exact ⟨k + 1, fs, by omega, by go_num, hown3, by omega, hsh, hcu3, hgw3⟩
        case measure => simp [intOf]; omega
      · have hI : Hid (atI fs nm = -1) := by show _ = _; unfold atI; rw [if_neg hin]
        rw [hI.out]
        clear hI hin
        have h63 : fs.length + 1 ≤ maxLen := by unfold maxLen; omega
        have h47 : (fs.length + 1) * 32 ≤ 140737488355328 := by omega
        have hsw3 := hgw3.size
        have hcl3 := hcu3.lt
        have HBS : ∀ o, w.heap.size ≤ (w3.alloc o).heap.size := fun o => by simp; omega
        go_wp2_with (at_builtin; refine wpList_append_own _ rfl _ _ 27 rfl w.heap.size 75 i0 (.agg #[.string ⟨#[]⟩, .string ⟨#[]⟩]) 2 32 Tryz.underlying27 hi hz0 hz1 hz2 rfl (by decide) _ _ _ rfl (hown3.alloc _) ⟨w3.heap.size, 0, none⟩ 1 1 [.string nm, .string vl] rfl rfl (cell_two_new _ _ _ _) (two_text _ _) h63 h47 (HBS _) ?_)
        intro v1 w5 hown5 hgrow _
        have hgw5 : w.grownBy w5 (some c) := grown_later (grownBy_allocR hgw3 _) hgrow (fun g hg => owns_ge hown3 hg)
        have hcu5 : CurAt w5 c a len cap := (hcu3.below ((Below.refl _ _).alloc (Nat.le_refl _) _) hcl3).grown hgrow (fun e => by have := owns_ge hown3 e; omega)
        have hsh5 : Hid (ShortF (fs ++ [(nm, vl)])) := hsh.out.snoc hnm hvl
        clear hgrow hown3 hcu3 hgw3 HBS hc0 hc1
        go_wp2
        go_roundw
        case rel => exact ⟨k + 1, fs ++ [(nm, vl)], by omega, by go_num, by rw [flatF_append, flatF_one]; simpa using hown5, by simp; omega, hsh5, hcu5, hgw5⟩
        case measure => simp [intOf]; omega
    · go_wp2
      go_ret
      exact ⟨_, fs, rfl, hown1, by omega, hsh.out, hcu1, hgw1⟩

theorem owns_slice {w : World} {base : Nat} {t : TypeId} {size : Nat} {v : Value} {n : Nat} {xs : List Value} (h : w.ownsRow base t size v n xs) : ∃ oa cp, v = .slice oa n cp := by
  rcases h.2 with ⟨rfl, rfl⟩ | ⟨g, cap, cur, rfl, _⟩
  · exact ⟨none, 0, rfl⟩
  · exact ⟨_, _, rfl⟩
theorem grown_of_below {w w' : World} (hb : Below w.heap.size w w') : w.grownBy w' none := ⟨hb.os, hb.tape, hb.output, hb.size, fun k hk _ => hb.block k hk⟩
theorem numText_short : ∀ k, k ≤ 9 → (numText k).size ≤ 20 := by decide
def lenOf : Value → Nat
  | .slice _ n _ => n
  | _ => 0
theorem cell_four_new (w : World) (a b c d : Value) (t : TypeId) : ∀ j u, [a, b, c, d][j]? = some u → (w.alloc (.cells #[a, b, c, d] t)).cell? ((⟨w.heap.size, 0, none⟩ : Addr).add j) = some u := by
  intro j u h
  have e : (⟨w.heap.size, 0, none⟩ : Addr).add j = ⟨w.heap.size, j, none⟩ := by
    unfold Addr.add; split <;> simp_all
  rw [e, World.cell?_alloc_new]
  match j, h with
  | 0, h => simpa using h
  | 1, h => simpa using h
  | 2, h => simpa using h
  | 3, h => simpa using h
  | k + 4, h => simp at h
theorem four_text (a b c d : ByteArray) : ∀ u ∈ [Value.string a, Value.string b, Value.string c, Value.string d], u.oneCell' = true := by
  intro u hu
  simp at hu
  rcases hu with rfl | rfl | rfl | rfl <;> rfl

set_option maxHeartbeats 2000000 in
set_option maxRecDepth 100000 in
theorem l2Draw_any (c B : Nat) (a : Option Addr) (len cap : Nat) (zs : List Int) (w : World) (hcur : CurAt w c a len cap) (hcode : CodeAt w B a len zs) (hB : B ≤ c) :
    Calls Tryz.prog 60 #[.pointer (some ⟨c, 0, none⟩)] w fun e w' => FieldsDrawn 40 w c a len cap e w' := by
  obtain ⟨i0, hi, hz0, hz1, hz2⟩ := info_parts info33
  have hcw := hcur.lt
  go_enter Tryz.func60, Tryz.ntmps60
  go_wp2_with fail
  refine (l2DrawRight_any c B a len cap zs _ hcur hcode hB).mono ?_
  rintro e w1 ⟨v, fs, rfl, hown1, hfl, hsh, hcu1, hgw1⟩
  have HSH : Hid (ShortF fs) := hsh
  clear hsh
  go_wp2_with fail
  refine (l1Below_any c B 15 a len cap zs _ hcu1 (hcode.grown hgw1 hB) hB (by omega) (by omega)).mono ?_
  rintro e w2 ⟨x, rfl, hx0, hx1, hcu2, hg2⟩
  have hown2 := owns_grown hown1 hg2 hcw
  have hgw2 := grownBy_trans hgw1 hg2
  clear hcu1 hown1 hg2 hgw1
  by_cases h0 : x = 0
  · subst h0
    go_wp2_with fail
    refine (l2DrawField_any c B a len cap zs _ hcu2 (hcode.grown hgw2 hB) hB).mono ?_
    rintro e w3 ⟨nm, vl, rfl, hnm, hvl, hcu3, hg3⟩
    have hown3 := owns_grown hown2 hg3 hcw
    have hgw3 := grownBy_trans hgw2 hg3
    clear hcu2 hown2 hg3 hgw2
    go_wp2_with fail
    refine (l2DrawField_any c B a len cap zs _ hcu3 (hcode.grown hgw3 hB) hB).mono ?_
    rintro e w4 ⟨nm2, vl2, rfl, hnm2, hvl2, hcu4, hg4⟩
    have hown4 := owns_grown hown3 hg4 hcw
    have hgw4 := grownBy_trans hgw3 hg4
    clear hcu3 hown3 hg4 hgw3
    have h63 : fs.length + 2 ≤ maxLen := by unfold maxLen; omega
    have h47 : (fs.length + 2) * 32 ≤ 140737488355328 := by omega
    have hsw4 := hgw4.size
    have hcl4 := hcu4.lt
    have HBS : ∀ o, w.heap.size ≤ (w4.alloc o).heap.size := fun o => by simp; omega
    go_wp2_with (at_builtin; refine wpList_append_own _ rfl _ _ 27 rfl w.heap.size 75 i0 (.agg #[.string ⟨#[]⟩, .string ⟨#[]⟩]) 2 32 Tryz.underlying27 hi hz0 hz1 hz2 rfl (by decide) _ _ _ rfl (hown4.alloc _) ⟨w4.heap.size, 0, none⟩ 2 2 [.string nm, .string vl, .string nm2, .string vl2] rfl rfl (cell_four_new _ _ _ _ _ _) (four_text _ _ _ _) h63 h47 (HBS _) ?_)
    intro v1 w5 hown5 hgrow _
    have hgw5 : w.grownBy w5 (some c) := grown_later (grownBy_allocR hgw4 _) hgrow (fun g hg => owns_ge hown4 hg)
    have hcu5 : CurAt w5 c a len cap := (hcu4.below ((Below.refl _ _).alloc (Nat.le_refl _) _) hcl4).grown hgrow (fun e => by have := owns_ge hown4 e; omega)
    clear hgrow hown4 hcu4 hgw4 HBS
    go_wp2
    go_ret
    exact ⟨_, (fs ++ [(nm, vl)]) ++ [(nm2, vl2)], rfl, by rw [flatF_append, flatF_append, flatF_one, flatF_one]; simpa using hown5, by simp; omega, (HSH.out.snoc hnm hvl).snoc hnm2 hvl2, hcu5, hgw5⟩
  by_cases h1 : x = 1
  · subst h1
    go_wp2_with fail
    refine (pick_new c B [⟨#[]⟩, ⟨#[65]⟩, ⟨#[99, 111, 110, 116, 101, 110, 116, 45, 108, 101, 110, 103, 116, 104]⟩] 64 (by decide) a len cap zs w2 hcu2 (hcode.grown hgw2 hB) hB (by decide) (by decide)).mono ?_
    rintro e w3 ⟨nm, rfl, hnm, hcu3, hg3⟩
    have hown3 := owns_grown hown2 hg3 hcw
    have hgw3 := grownBy_trans hgw2 hg3
    clear hcu2 hown2 hg3 hgw2
    go_wp2_with fail
    refine (pick_new c B [⟨#[]⟩, ⟨#[32, 97]⟩, ⟨#[49]⟩] 64 (by decide) a len cap zs w3 hcu3 (hcode.grown hgw3 hB) hB (by decide) (by decide)).mono ?_
    rintro e w4 ⟨vl, rfl, hvl, hcu4, hg4⟩
    have hown4 := owns_grown hown3 hg4 hcw
    have hgw4 := grownBy_trans hgw3 hg4
    clear hcu3 hown3 hg4 hgw3
    have h63 : fs.length + 1 ≤ maxLen := by unfold maxLen; omega
    have h47 : (fs.length + 1) * 32 ≤ 140737488355328 := by omega
    have hsw4 := hgw4.size
    have hcl4 := hcu4.lt
    have HBS : ∀ o, w.heap.size ≤ (w4.alloc o).heap.size := fun o => by simp; omega
    go_wp2_with (at_builtin; refine wpList_append_own _ rfl _ _ 27 rfl w.heap.size 75 i0 (.agg #[.string ⟨#[]⟩, .string ⟨#[]⟩]) 2 32 Tryz.underlying27 hi hz0 hz1 hz2 rfl (by decide) _ _ _ rfl (hown4.alloc _) ⟨w4.heap.size, 0, none⟩ 1 1 [.string nm, .string vl] rfl rfl (cell_two_new _ _ _ _) (two_text _ _) h63 h47 (HBS _) ?_)
    intro v1 w5 hown5 hgrow _
    have hgw5 : w.grownBy w5 (some c) := grown_later (grownBy_allocR hgw4 _) hgrow (fun g hg => owns_ge hown4 hg)
    have hcu5 : CurAt w5 c a len cap := (hcu4.below ((Below.refl _ _).alloc (Nat.le_refl _) _) hcl4).grown hgrow (fun e => by have := owns_ge hown4 e; omega)
    clear hgrow hown4 hcu4 hgw4 HBS
    go_wp2
    go_ret
    exact ⟨_, fs ++ [(nm, vl)], rfl, by rw [flatF_append, flatF_one]; simpa using hown5, by simp; omega, HSH.out.snoc hnm hvl, hcu5, hgw5⟩
  by_cases h2 : x = 2
  · subst h2
    clear h0 h1
    go_wp2
    obtain ⟨oa, cp, rfl⟩ := owns_slice hown2
    go_loopw [3] (fun v wr => ∃ (oa : Option Addr) (cp : Nat) (fs : List (ByteArray × ByteArray)), v = .slice oa fs.length cp ∧ wr.ownsRow w.heap.size 75 2 (.slice oa fs.length cp) fs.length (flatF fs) ∧ fs.length ≤ 9 ∧ Hid (ShortF fs) ∧ CurAt wr c a len cap ∧ w.grownBy wr (some c)) (fun v _ => 9 - lenOf v)
    case atStart => exact ⟨oa, cp, fs, rfl, hown2, by omega, HSH, hcu2, hgw2⟩
    case round =>
      obtain ⟨oa, cp, fs, rfl, hown, hfl, hsh, hcu, hgw⟩ := hrel
      go_wp2_with fail
      refine (l1Below_any c B 2 a len cap zs _ hcu (hcode.grown hgw hB) hB (by omega) (by omega)).mono ?_
      rintro e w3 ⟨x, rfl, hx0, hx1, hcu3, hg3⟩
      have hown3 := owns_grown hown hg3 hcw
      have hgw3 := grownBy_trans hgw hg3
      clear hcu hown hg3 hgw
      by_cases hlt : (fs.length : Int) < 8 + x
      · go_wp2_with fail
        refine (specNumText_any fs.length _ (by omega)).mono ?_
        rintro e w4 ⟨rfl, hb4⟩
        obtain ⟨nt, hnt⟩ : ∃ nt, nt = numText fs.length := ⟨_, rfl⟩
        have hns : nt.size ≤ 20 := by rw [hnt]; exact numText_short _ (by omega)
        rw [← hnt]
        clear hnt
        have hown4 := owns_below hown3 hb4 (fun g hg => owns_lt hown3 hg)
        have hgw4 : w.grownBy w4 (some c) := grown_later hgw3 (grown_of_below hb4) (fun g e => by cases e)
        have hcu4 := hcu3.below hb4 hcu3.lt
        clear hown3 hgw3 hcu3 hb4
        obtain ⟨nm, hnm⟩ : ∃ nm, nm = (⟨#[110]⟩ : ByteArray) ++ nt := ⟨_, rfl⟩
        have hnz : nm.size ≤ 64 := by rw [hnm, ByteArray.size_append]; show 1 + nt.size ≤ 64; omega
        have hbig : ¬ 9223372036854775807 < 1 + nt.size := by omega
        have h63 : fs.length + 1 ≤ maxLen := by unfold maxLen; omega
        have h47 : (fs.length + 1) * 32 ≤ 140737488355328 := by omega
        have hsw4 := hgw4.size
        have hcl4 := hcu4.lt
        have HBS : ∀ o, w.heap.size ≤ (w4.alloc o).heap.size := fun o => by simp; omega
        have HNM : Hid (nm = (⟨#[110]⟩ : ByteArray) ++ nt) := hnm
        clear hnm
        go_wp2_with (at_builtin; rw [← HNM.out]; refine wpList_append_own _ rfl _ _ 27 rfl w.heap.size 75 i0 (.agg #[.string ⟨#[]⟩, .string ⟨#[]⟩]) 2 32 Tryz.underlying27 hi hz0 hz1 hz2 rfl (by decide) _ _ _ rfl (hown4.alloc _) ⟨w4.heap.size, 0, none⟩ 1 1 [.string nm, .string ⟨#[118]⟩] rfl rfl (cell_two_new _ _ _ _) (two_text _ _) h63 h47 (HBS _) ?_)
        intro v1 w5 hown5 hgrow _
        have hgw5 : w.grownBy w5 (some c) := grown_later (grownBy_allocR hgw4 _) hgrow (fun g hg => owns_ge hown4 hg)
        have hcu5 : CurAt w5 c a len cap := (hcu4.below ((Below.refl _ _).alloc (Nat.le_refl _) _) hcl4).grown hgrow (fun e => by have := owns_ge hown4 e; omega)
        clear hgrow hown4 hcu4 hgw4 HBS
        obtain ⟨oa1, cp1, rfl⟩ := owns_slice hown5
        go_wp2
        go_roundw
        case rel => exact ⟨oa1, cp1, fs ++ [(nm, ⟨#[118]⟩)], by simp, by rw [flatF_append, flatF_one]; simpa using hown5, by simp; omega, hsh.out.snoc hnz (by decide), hcu5, hgw5⟩
        case measure => simp [lenOf]; omega
      · go_wp2
        go_ret
        exact ⟨_, fs, rfl, hown3, by omega, hsh.out, hcu3, hgw3⟩
  · have e0 : (x == 0) = false := by simpa using h0
    have e1 : (x == 1) = false := by simpa using h1
    have e2 : (x == 2) = false := by simpa using h2
    clear h0 h1 h2
    go_wp2
    go_ret
    exact ⟨_, fs, rfl, hown2, by omega, HSH.out, hcu2, hgw2⟩

end Go.Proofs.YtlmenolcgaakeaaGreat

namespace Go.Proofs.YtlmenolcgaakeaaGreat
open Go.RowKit
open Go.Lib hiding intOf

def bodyL : List ByteArray := [⟨#[]⟩, ⟨#[104, 101, 108, 108, 111]⟩, ⟨#[13, 10, 13, 10]⟩, ⟨#[97, 0, 98]⟩, ⟨#[111, 110, 101, 32, 116, 119, 111]⟩]
set_option maxHeartbeats 1000000 in
set_option maxRecDepth 100000 in
theorem l3DrawBody_any (c B : Nat) (a : Option Addr) (len cap : Nat) (zs : List Int) (w : World) (hcur : CurAt w c a len cap) (hcode : CodeAt w B a len zs) (hB : B ≤ c) :
    Calls Tryz.prog 73 #[.pointer (some ⟨c, 0, none⟩)] w fun e w' => TextDrawn 14 w c a len cap e w' := by
  go_enter Tryz.func73, Tryz.ntmps73
  go_wp2_with fail
  refine (l1Once_any c B 2 a len cap zs _ hcur hcode hB (by omega) (by omega)).mono ?_
  rintro e w1 ⟨⟨b, rfl⟩, hcu1, hg1⟩
  have hco1 := hcode.grown hg1 hB
  clear hcur hcode
  cases b
  · go_wp2_with fail
    refine (l1DrawText_any c B a len cap zs _ hcu1 hco1 hB).mono ?_
    rintro e w2 ⟨t, rfl, ht, hcu2, hg2⟩
    have hg3 := grownBy_trans hg1 hg2
    clear hg1 hg2 hcu1 hco1
    go_wp2
    go_ret
    exact ⟨t, rfl, ht, hcu2, hg3⟩
  · go_wp2_with fail
    refine (pick_new c B bodyL 14 (by decide) a len cap zs w1 hcu1 hco1 hB (by decide) (by decide)).mono ?_
    rintro e w2 ⟨t, rfl, ht, hcu2, hg2⟩
    have hg3 := grownBy_trans hg1 hg2
    clear hg1 hg2 hcu1 hco1
    go_wp2
    go_ret
    exact ⟨t, rfl, ht, hcu2, hg3⟩

theorem ints_at (w : World) (xs : List Int) (j : Nat) (hj : j < xs.length) : (w.alloc (.cells (xs.map (Value.int .i64)).toArray 3)).cell? ⟨w.heap.size, j, none⟩ = some (.int .i64 (xs.getD j 0)) := by
  rw [World.cell?_alloc_new]
  simp [List.getD_eq_getElem?_getD, hj]
set_option maxHeartbeats 1000000 in
theorem pickInt_new (c B : Nat) (xs : List Int) (lo hi : Int) (hm : ∀ j, j < xs.length → lo ≤ xs.getD j 0 ∧ xs.getD j 0 ≤ hi) (a : Option Addr) (len cap : Nat) (zs : List Int) (w : World) (hcur : CurAt w c a len cap) (hcode : CodeAt w B a len zs) (hB : B ≤ c) (hn : 1 ≤ xs.length) (hn2 : xs.length ≤ 256) :
    Calls Tryz.prog 54 #[.pointer (some ⟨c, 0, none⟩), .slice (some ⟨w.heap.size, 0, none⟩) xs.length xs.length] (w.alloc (.cells (xs.map (Value.int .i64)).toArray 3)) fun e w' => ∃ n : Int, e = .returned (.int .i64 n) ∧ lo ≤ n ∧ n ≤ hi ∧ CurAt w' c a len cap ∧ w.grownBy w' (some c) := by
  have hc := hcur.lt
  have HL : Hid (∀ j, j < xs.length → (w.alloc (.cells (xs.map (Value.int .i64)).toArray 3)).cell? ⟨w.heap.size, j, none⟩ = some (.int .i64 (xs.getD j 0))) := ints_at w xs
  have HM : Hid (∀ j, j < xs.length → lo ≤ xs.getD j 0 ∧ xs.getD j 0 ≤ hi) := hm
  have hcu0 := hcur.below ((Below.refl _ w).alloc (Nat.le_refl _) (.cells (xs.map (Value.int .i64)).toArray 3)) hc
  have hg0 : w.grownBy (w.alloc (.cells (xs.map (Value.int .i64)).toArray 3)) (some c) := World.grownBy_alloc w _ _
  have hco0 := hcode.grown hg0 hB
  clear hm hcur hcode
  obtain ⟨w0, hw0⟩ : ∃ W, W = w.alloc (.cells (xs.map (Value.int .i64)).toArray 3) := ⟨_, rfl⟩
  rw [← hw0] at HL hcu0 hg0 hco0 ⊢
  obtain ⟨n, hnn⟩ : ∃ n, n = xs.length := ⟨_, rfl⟩
  rw [← hnn] at HL HM hn hn2 ⊢
  obtain ⟨g, hg⟩ : ∃ g, g = w.heap.size := ⟨_, rfl⟩
  have hgc : g ≠ c := by omega
  rw [← hg] at HL ⊢
  clear hw0 hnn hg
  go_enter Tryz.func54, Tryz.ntmps54
  go_wp2_with fail
  refine (l1Below_any c B n a len cap zs _ hcu0 hco0 hB (by omega) (by omega)).mono ?_
  rintro e w1 ⟨x, rfl, hx0, hx1, hcur1, hg1⟩
  obtain ⟨j, rfl⟩ := Int.eq_ofNat_of_zero_le hx0
  have hj : j < n := by omega
  have hcell : w1.cell? ⟨g, j, none⟩ = some (.int .i64 (xs.getD j 0)) := grown_cell hg1 (HL.out j hj) hgc
  have hjr := HM.out j hj
  have hg2 := grownBy_trans hg0 hg1
  clear hg0 hg1 hcu0 hco0
  go_wp2
  go_ret
  exact ⟨_, rfl, hjr.1, hjr.2, hcur1, hg2⟩

/-- A call on the cursor answers a request of short texts, in memory of its own, and turns the cursor alone of what was there. -/
def ReqDrawn (bmax : Nat) (w : World) (c : Nat) (a : Option Addr) (len cap : Nat) (e : Ending) (w' : World) : Prop :=
  ∃ (m : Int) (p : ByteArray) (v : Value) (fs : List (ByteArray × ByteArray)) (b : ByteArray), e = .returned (.agg #[.int .i64 m, .string p, v, .string b]) ∧ (-1000 ≤ m ∧ m ≤ 1000) ∧ p.size ≤ 64 ∧ w'.ownsRow w.heap.size 75 2 v fs.length (flatF fs) ∧ fs.length ≤ 40 ∧ ShortF fs ∧ b.size ≤ bmax ∧ CurAt w' c a len cap ∧ w.grownBy w' (some c)

theorem kind_list : (⟨#[107, 105, 110, 100]⟩ : ByteArray).toList = [107, 105, 110, 100] := by rw [ByteArray.toList_eq]
theorem cacheC_list : (⟨#[99, 97, 99, 104, 101, 45, 99, 111, 110, 116, 114, 111, 108]⟩ : ByteArray).toList = [99, 97, 99, 104, 101, 45, 99, 111, 110, 116, 114, 111, 108] := by rw [ByteArray.toList_eq]
theorem ifNone_list : (⟨#[105, 102, 45, 110, 111, 110, 101, 45, 109, 97, 116, 99, 104]⟩ : ByteArray).toList = [105, 102, 45, 110, 111, 110, 101, 45, 109, 97, 116, 99, 104] := by rw [ByteArray.toList_eq]
/-- A request that is being drawn: its memory, its fields, the cursor. -/
structure DReq (w : World) (c R r : Nat) (m : Int) (p : ByteArray) (fv : Value) (fs : List (ByteArray × ByteArray)) (b : ByteArray) (a : Option Addr) (len cap : Nat) (W : World) : Prop where
  hR : W.heap[R]? = some (.cells #[.int .i64 0, .string ⟨#[]⟩, .slice none 0 0, .string ⟨#[]⟩] 92)
  hr : W.heap[r]? = some (.cells #[.int .i64 m, .string p, fv, .string b] 92)
  own : W.ownsRow w.heap.size 75 2 fv fs.length (flatF fs)
  cur : CurAt W c a len cap
  grow : w.grownBy W (some c)
  apart : ∀ j, fv.ownBlock = some j → j ≠ R ∧ j ≠ r
theorem DReq.later {w : World} {c R r : Nat} {m : Int} {p : ByteArray} {fv : Value} {fs : List (ByteArray × ByteArray)} {b : ByteArray} {a : Option Addr} {len cap : Nat} {W W' : World} (h : DReq w c R r m p fv fs b a len cap W) (hcw : c < w.heap.size) (hRw : w.heap.size ≤ R) (hrw : w.heap.size ≤ r) (hcu : CurAt W' c a len cap) (hg : W.grownBy W' (some c)) : DReq w c R r m p fv fs b a len cap W' := by
  refine ⟨?_, ?_, ?_, hcu, grownBy_trans h.grow hg, h.apart⟩
  · rw [hg.block R ((Array.getElem?_eq_some_iff.1 h.hR).1) (fun e => by have := Option.some.inj e; omega)]; exact h.hR
  · rw [hg.block r ((Array.getElem?_eq_some_iff.1 h.hr).1) (fun e => by have := Option.some.inj e; omega)]; exact h.hr
  · exact h.own.kept hg (by cases h2 : fv.ownBlock <;> simp; exact fun e => by have h7 := owns_ge h.own h2; omega)

theorem owns_heap {w : World} {base : Nat} {t : TypeId} {size : Nat} {v : Value} {n : Nat} {xs : List Value} {j : Nat} (h : w.ownsRow base t size v n xs) (hj : v.ownBlock = some j) : ∃ cur, w.heap[j]? = some (.cells cur t (0, 0)) := by
  rcases h.2 with ⟨rfl, rfl⟩ | ⟨g, cap, cur, rfl, _, h1, _⟩
  · cases hj
  · cases hj; exact ⟨cur, h1⟩
/-- One field more. -/
theorem DReq.more {w : World} {c R r : Nat} {m : Int} {p : ByteArray} {fv : Value} {fs : List (ByteArray × ByteArray)} {b f v : ByteArray} {a : Option Addr} {len cap : Nat} {W W5 : World} {o : Obj} {v1 : Value} (h : DReq w c R r m p fv fs b a len cap W) (hcw : c < w.heap.size) (hRw : w.heap.size ≤ R) (hrw : w.heap.size ≤ r) (hrR : R ≠ r) (hg : (W.alloc o).grownBy W5 fv.ownBlock) (hown : W5.ownsRow w.heap.size 75 2 v1 (fs.length + 1) (flatF fs ++ [.string f, .string v])) :
    (W5.heap[r]? = some (.cells #[.int .i64 m, .string p, fv, .string b] 92)) ∧ DReq w c R r m p v1 (fs ++ [(f, v)]) b a len cap (W5.setCell ⟨r, 2, none⟩ v1) := by
  have hs : (W.alloc o).heap.size = W.heap.size + 1 := by simp
  have hRl := (Array.getElem?_eq_some_iff.1 h.hR).1
  have hrl := (Array.getElem?_eq_some_iff.1 h.hr).1
  have hcl := h.cur.lt
  have hR5 : W5.heap[R]? = some (.cells #[.int .i64 0, .string ⟨#[]⟩, .slice none 0 0, .string ⟨#[]⟩] 92) := by
    rw [hg.block R (by omega) (fun e => (h.apart R e.symm).1 rfl), heap_alloc_old _ _ hRl]; exact h.hR
  have hr5 : W5.heap[r]? = some (.cells #[.int .i64 m, .string p, fv, .string b] 92) := by
    rw [hg.block r (by omega) (fun e => (h.apart r e.symm).2 rfl), heap_alloc_old _ _ hrl]; exact h.hr
  have hap : ∀ j, v1.ownBlock = some j → j ≠ R ∧ j ≠ r := fun j hj => by
    obtain ⟨cur, hcj⟩ := owns_heap hown hj
    refine ⟨fun e => ?_, fun e => ?_⟩
    · rw [e, hR5] at hcj
      simp at hcj
    · rw [e, hr5] at hcj
      simp at hcj
  have hg5 : w.grownBy W5 (some c) := by
    have h1 := grownBy_trans h.grow (World.grownBy_alloc W o (some c))
    refine ⟨hg.os.trans h1.os, hg.tape.trans h1.tape, hg.output.trans h1.output, Nat.le_trans h1.size hg.size, fun i hi hne => ?_⟩
    rw [hg.block i (by have := h1.size; omega) (fun e => by have := owns_ge h.own e.symm; omega)]
    exact h1.block i hi hne
  refine ⟨hr5, ?_, ?_, ?_, ?_, grown_later hg5 (grown_set W5 r 2 v1) (fun g e => by cases e; exact hrw), hap⟩
  · rw [heap_setCell_other _ _ R _ (fun e => hrR e)]; exact hR5
  · have := heap_set W5 r 2 _ _ _ v1 hr5
    simpa using this
  · have h2 : (W5.setCell ⟨r, 2, none⟩ v1).ownsRow w.heap.size 75 2 v1 (fs.length + 1) (flatF fs ++ [.string f, .string v]) := hown.kept (grown_set W5 r 2 v1) (by cases h3 : v1.ownBlock <;> simp; exact (hap _ h3).2)
    rw [flatF_append, flatF_one]; simpa using h2
  · obtain ⟨i, hh, hi, h4⟩ := h.cur
    refine ⟨i, hh, hi, ?_⟩
    rw [heap_setCell_other _ _ c _ (fun e => by have e2 : c = r := e; omega), hg.block c (by omega) (fun e => by have := owns_ge h.own e.symm; omega), heap_alloc_old _ _ hcl]
    exact h4

/-- The body set. -/
theorem DReq.setBody {w : World} {c R r : Nat} {m : Int} {p : ByteArray} {fv : Value} {fs : List (ByteArray × ByteArray)} {b : ByteArray} {a : Option Addr} {len cap : Nat} {W : World} (h : DReq w c R r m p fv fs b a len cap W) (hcw : c < w.heap.size) (hrw : w.heap.size ≤ r) (hrR : R ≠ r) (b' : ByteArray) : DReq w c R r m p fv fs b' a len cap (W.setCell ⟨r, 3, none⟩ (.string b')) := by
  refine ⟨?_, ?_, ?_, ?_, grown_later h.grow (grown_set W r 3 _) (fun g e => by cases e; exact hrw), h.apart⟩
  · rw [heap_setCell_other _ _ R _ (fun e => hrR e)]; exact h.hR
  · have := heap_set W r 3 _ _ _ (.string b') h.hr
    simpa using this
  · exact h.own.kept (grown_set W r 3 _) (by cases h3 : fv.ownBlock <;> simp; exact (h.apart _ h3).2)
  · obtain ⟨i, hh, hi, h4⟩ := h.cur
    refine ⟨i, hh, hi, ?_⟩
    rw [heap_setCell_other _ _ c _ (fun e => by have e2 : c = r := e; omega)]
    exact h4
/-- The request handed back. -/
theorem DReq.fin {w : World} {c R r : Nat} {m : Int} {p : ByteArray} {fv : Value} {fs : List (ByteArray × ByteArray)} {b : ByteArray} {a : Option Addr} {len cap : Nat} {W : World} (h : DReq w c R r m p fv fs b a len cap W) (hcw : c < w.heap.size) (hRw : w.heap.size ≤ R) (hm : -1000 ≤ m ∧ m ≤ 1000) (hp : p.size ≤ 64) (hf : fs.length ≤ 40) (hsh : ShortF fs) {bmax : Nat} (hb : b.size ≤ bmax) :
    (fourSet W R (.int .i64 m) (.string p) fv (.string b)).heap[R]? = some (.cells #[.int .i64 m, .string p, fv, .string b] 92) ∧ ReqDrawn bmax w c a len cap (.returned (.agg #[.int .i64 m, .string p, fv, .string b])) (fourSet W R (.int .i64 m) (.string p) fv (.string b)) := by
  have hg : W.grownBy (fourSet W R (.int .i64 m) (.string p) fv (.string b)) (some R) := by
    unfold fourSet
    exact grown_then (grown_then (grown_then (grown_set _ _ _ _) (grown_set _ _ _ _)) (grown_set _ _ _ _)) (grown_set _ _ _ _)
  refine ⟨four_set h.hR _ _ _ _, m, p, fv, fs, b, rfl, hm, hp, ?_, hf, hsh, hb, ?_, grown_later h.grow hg (fun g e => by cases e; exact hRw)⟩
  · exact h.own.kept hg (by cases h3 : fv.ownBlock <;> simp; exact (h.apart _ h3).1)
  · obtain ⟨i, hh, hi, h4⟩ := h.cur
    refine ⟨i, hh, hi, ?_⟩
    rw [hg.block c (Array.getElem?_eq_some_iff.1 h4).1 (fun e => by have := Option.some.inj e; omega)]
    exact h4

set_option maxHeartbeats 1000000 in
set_option maxRecDepth 100000 in
theorem l3DrawReq_any (c B : Nat) (a : Option Addr) (len cap : Nat) (zs : List Int) (w : World) (hcur : CurAt w c a len cap) (hcode : CodeAt w B a len zs) (hB : B ≤ c) :
    Calls Tryz.prog 58 #[.pointer (some ⟨c, 0, none⟩)] w fun e w' => ReqDrawn 14 w c a len cap e w' := by
  obtain ⟨i0, hi, hz0, hz1, hz2⟩ := info_parts info33
  have hcw := hcur.lt
  have HCO : Hid (∀ W, w.grownBy W (some c) → CodeAt W B a len zs) := fun W h => hcode.grown h hB
  obtain ⟨R, hR⟩ : ∃ R, R = w.heap.size := ⟨_, rfl⟩
  have hg0 : w.grownBy (w.alloc (.cells #[.int .i64 0, .string ⟨#[]⟩, .slice none 0 0, .string ⟨#[]⟩] 92)) (some c) := World.grownBy_alloc w _ _
  have hcu0 := hcur.below ((Below.refl _ w).alloc (Nat.le_refl _) (.cells #[.int .i64 0, .string ⟨#[]⟩, .slice none 0 0, .string ⟨#[]⟩] 92)) hcw
  have hco0 := HCO.out _ hg0
  have hz0' : (w.alloc (.cells #[.int .i64 0, .string ⟨#[]⟩, .slice none 0 0, .string ⟨#[]⟩] 92)).heap[R]? = some (.cells #[.int .i64 0, .string ⟨#[]⟩, .slice none 0 0, .string ⟨#[]⟩] 92) := by rw [hR]; exact heap_alloc_new w _
  have hRlt : R < (w.alloc (.cells #[.int .i64 0, .string ⟨#[]⟩, .slice none 0 0, .string ⟨#[]⟩] 92)).heap.size := by rw [hR]; simp
  have hRc : R ≠ c := by omega
  have hRw : w.heap.size ≤ R := by omega
  have HRE : Hid (R = w.heap.size) := hR
  obtain ⟨w0, hw0⟩ : ∃ W, W = w.alloc (.cells #[.int .i64 0, .string ⟨#[]⟩, .slice none 0 0, .string ⟨#[]⟩] 92) := ⟨_, rfl⟩
  have HS0 : Hid (w0.heap.size = w.heap.size + 1) := by show _ = _; rw [hw0]; simp
  have HW0 : Hid (w0 = w.alloc (.cells #[.int .i64 0, .string ⟨#[]⟩, .slice none 0 0, .string ⟨#[]⟩] 92)) := hw0
  rw [← hw0] at hg0 hcu0 hco0 hz0' hRlt
  clear hcur hcode hR hw0
  go_enter Tryz.func58, Tryz.ntmps58
  go_wp2_with fail
  rw [← HW0.out, ← HS0.out]
  refine (pickInt_new c B [1, 1, 1, 1, 2, 3, 4] 1 4 (by decide) a len cap zs w0 hcu0 hco0 hB (by decide) (by decide)).mono ?_
  rintro e w1 ⟨m, rfl, hm1, hm2, hcu1, hg1⟩
  have hga1 := grownBy_trans hg0 hg1
  have hz1' : w1.heap[R]? = some (.cells #[.int .i64 0, .string ⟨#[]⟩, .slice none 0 0, .string ⟨#[]⟩] 92) := by rw [hg1.block R hRlt (fun e => hRc (Option.some.inj e))]; exact hz0'
  have hR1 : R < w1.heap.size := (Array.getElem?_eq_some_iff.1 hz1').1
  clear hg0 hg1 hcu0 hco0 hz0' hRlt
  go_wp2_with fail
  refine (pick_new c B [⟨#[47]⟩, ⟨#[47, 97]⟩, ⟨#[47, 97, 47, 98]⟩, ⟨#[47, 98]⟩] 64 (by decide) a len cap zs w1 hcu1 (HCO.out _ hga1) hB (by decide) (by decide)).mono ?_
  rintro e w2 ⟨p, rfl, hp, hcu2, hg2⟩
  have hga2 := grownBy_trans hga1 hg2
  have hz2' : w2.heap[R]? = some (.cells #[.int .i64 0, .string ⟨#[]⟩, .slice none 0 0, .string ⟨#[]⟩] 92) := by rw [hg2.block R hR1 (fun e => hRc (Option.some.inj e))]; exact hz1'
  have hR2 : R < w2.heap.size := (Array.getElem?_eq_some_iff.1 hz2').1
  rw [← HRE.out]
  clear hg2 hga1 hcu1 hz1' hR1
  obtain ⟨r, hr⟩ : ∃ r, r = w2.heap.size := ⟨_, rfl⟩
  have hrw : w.heap.size ≤ r := by rw [hr]; exact hga2.size
  have hrR : R ≠ r := by omega
  have HD0 : Hid (DReq w c R r m p (.slice none 0 0) [] ⟨#[]⟩ a len cap (w2.alloc (.cells #[.int .i64 m, .string p, .slice none 0 0, .string ⟨#[]⟩] 92))) := by
    have hgal : w2.grownBy (w2.alloc (.cells #[.int .i64 m, .string p, .slice none 0 0, .string ⟨#[]⟩] 92)) (some c) := World.grownBy_alloc w2 _ _
    refine ⟨?_, by rw [hr]; exact heap_alloc_new w2 _, ⟨rfl, .inl ⟨rfl, rfl⟩⟩, hcu2.below ((Below.refl _ w2).alloc (Nat.le_refl _) _) hcu2.lt, grownBy_trans hga2 hgal, fun j h => by cases h⟩
    rw [hgal.block R hR2 (fun e => hRc (Option.some.inj e))]; exact hz2'
  have HR' : Hid (r = w2.heap.size) := hr
  clear hr hz2' hR2 hcu2 hga2
  go_wp2_with fail
  rw [← HR'.out]
  go_loopw [4] (fun i wr => ∃ (k : Nat) (fs : List (ByteArray × ByteArray)) (fv : Value), k ≤ 4 ∧ fs.length ≤ k ∧ i = .int .i64 (k : Int) ∧ Hid (ShortF fs) ∧ Hid (DReq w c R r m p fv fs ⟨#[]⟩ a len cap wr)) (fun i _ => 4 - (intOf i).toNat)
  case atStart => exact ⟨0, [], _, by omega, Nat.le_refl _, rfl, (fun f hf => by cases hf), HD0⟩
  case round =>
    obtain ⟨k, fs, fv, hk, hfl, rfl, hsh, hd⟩ := hrel
    obtain ⟨fo, fc, rfl⟩ := slice_of_owns hd.out.own
    go_wp2_with fail
    refine (l1Below_any c B 4 a len cap zs _ hd.out.cur (HCO.out _ hd.out.grow) hB (by omega) (by omega)).mono ?_
    rintro e wa ⟨x, rfl, hx0, hx1, hcua, hgaa⟩
    have hda : Hid (DReq w c R r m p (.slice fo fs.length fc) fs ⟨#[]⟩ a len cap wa) := hd.out.later hcw hRw hrw hcua hgaa
    clear hcua hgaa hd
    by_cases hkx : (k : Int) < x
    · go_wp2_with fail
      refine (pick_new c B [⟨#[108, 97, 110, 103]⟩, ⟨#[107, 105, 110, 100]⟩, ⟨#[99, 97, 99, 104, 101, 45, 99, 111, 110, 116, 114, 111, 108]⟩, ⟨#[105, 102, 45, 110, 111, 110, 101, 45, 109, 97, 116, 99, 104]⟩, ⟨#[120, 45, 97]⟩] 64 (by decide) a len cap zs wa hda.out.cur (HCO.out _ hda.out.grow) hB (by decide) (by decide)).mono ?_
      rintro e wb ⟨f, rfl, hf, hcub, hgb⟩
      have hdb : Hid (DReq w c R r m p (.slice fo fs.length fc) fs ⟨#[]⟩ a len cap wb) := hda.out.later hcw hRw hrw hcub hgb
      obtain ⟨⟨c0, c1, c2, c3⟩, f0, f1, f2, f3⟩ := four_facts hdb.out.hr
      clear hcub hgb hda
      go_wp2_with fail
      refine (l2At_any _ fs.length _ fs f _ (FieldsV.of_owns hdb.out.own) (by omega)).mono ?_
      rintro e wc ⟨rfl, rfl⟩
      by_cases hat : atI fs f < 0
      · skip
        go_wp2_with fail
        refine (pick_new c B [⟨#[100, 101]⟩, ⟨#[101, 110]⟩] 64 (by decide) a len cap zs wc hdb.out.cur (HCO.out _ hdb.out.grow) hB (by decide) (by decide)).mono ?_
        rintro e wd ⟨v, rfl, hv, hcud, hgd⟩
        have hdd : Hid (DReq w c R r m p (.slice fo fs.length fc) fs ⟨#[]⟩ a len cap wd) := hdb.out.later hcw hRw hrw hcud hgd
        clear hcud hgd
        clear c0 c1 c2 c3 f0 f1 f2 f3
        by_cases e1 : f = ⟨#[107, 105, 110, 100]⟩
        · have ht := (text_beq _ _).2 e1
          rw [kind_list] at ht
          clear e1
          go_wp2_with fail
          refine (pick_new c B [⟨#[120]⟩, ⟨#[121]⟩] 64 (by decide) a len cap zs wd hdd.out.cur (HCO.out _ hdd.out.grow) hB (by decide) (by decide)).mono ?_
          rintro e we ⟨v2, rfl, hv2, hcue, hge⟩
          have hde : Hid (DReq w c R r m p (.slice fo fs.length fc) fs ⟨#[]⟩ a len cap we) := hdd.out.later hcw hRw hrw hcue hge
          clear hcue hge
          have h63 : fs.length + 1 ≤ maxLen := by unfold maxLen; omega
          have h47 : (fs.length + 1) * 32 ≤ 140737488355328 := by omega
          have HBS : ∀ o, w.heap.size ≤ (we.alloc o).heap.size := fun o => by have := hde.out.grow.size; simp; omega
          obtain ⟨⟨c0, c1, c2, c3⟩, f0, f1, f2, f3⟩ := four_facts hde.out.hr
          go_wp2_with (at_builtin; refine wpList_append_own _ rfl _ _ 27 rfl w.heap.size 75 i0 (.agg #[.string ⟨#[]⟩, .string ⟨#[]⟩]) 2 32 Tryz.underlying27 hi hz0 hz1 hz2 rfl (by decide) _ _ _ rfl (hde.out.own.alloc _) ⟨we.heap.size, 0, none⟩ 1 1 [.string f, .string v2] rfl rfl (cell_two_new _ _ _ _) (two_text _ _) h63 h47 (HBS _) ?_)
          intro v1 w5 hown5 hgrow _
          obtain ⟨fo1, fc1, rfl⟩ := slice_of_owns hown5
          obtain ⟨hr5, hd5⟩ := hde.out.more hcw hRw hrw hrR hgrow hown5
          have HD5 : Hid (DReq w c R r m p (.slice fo1 (fs.length + 1) fc1) (fs ++ [(f, v2)]) ⟨#[]⟩ a len cap (w5.setCell ⟨r, 2, none⟩ (.slice fo1 (fs.length + 1) fc1))) := hd5
          have HSH : Hid (ShortF (fs ++ [(f, v2)])) := hsh.out.snoc hf hv2
          clear c0 c1 c2 c3 f0 f1 f2 f3
          obtain ⟨⟨c0, c1, c2, c3⟩, f0, f1, f2, f3⟩ := four_facts hr5
          clear hr5 hd5 hgrow hown5 HBS
          go_wp2
          go_roundw
          case rel => exact ⟨k + 1, _, _, by omega, by simp; omega, by go_num, HSH, HD5⟩
          case measure => simp [intOf]; omega
        · have ht := text_beq_no e1
          rw [kind_list] at ht
          by_cases e2 : f = ⟨#[99, 97, 99, 104, 101, 45, 99, 111, 110, 116, 114, 111, 108]⟩
          · have ht2 := (text_beq _ _).2 e2
            rw [cacheC_list] at ht2
            clear e1 e2
            go_wp2_with fail
            refine (pick_new c B [⟨#[110, 111, 45, 99, 97, 99, 104, 101]⟩, ⟨#[110, 111, 45, 115, 116, 111, 114, 101]⟩, ⟨#[109, 97, 120, 45, 97, 103, 101, 61, 51]⟩] 64 (by decide) a len cap zs wd hdd.out.cur (HCO.out _ hdd.out.grow) hB (by decide) (by decide)).mono ?_
            rintro e we ⟨v2, rfl, hv2, hcue, hge⟩
            have hde : Hid (DReq w c R r m p (.slice fo fs.length fc) fs ⟨#[]⟩ a len cap we) := hdd.out.later hcw hRw hrw hcue hge
            clear hcue hge
            have h63 : fs.length + 1 ≤ maxLen := by unfold maxLen; omega
            have h47 : (fs.length + 1) * 32 ≤ 140737488355328 := by omega
            have HBS : ∀ o, w.heap.size ≤ (we.alloc o).heap.size := fun o => by have := hde.out.grow.size; simp; omega
            obtain ⟨⟨c0, c1, c2, c3⟩, f0, f1, f2, f3⟩ := four_facts hde.out.hr
            go_wp2_with (at_builtin; refine wpList_append_own _ rfl _ _ 27 rfl w.heap.size 75 i0 (.agg #[.string ⟨#[]⟩, .string ⟨#[]⟩]) 2 32 Tryz.underlying27 hi hz0 hz1 hz2 rfl (by decide) _ _ _ rfl (hde.out.own.alloc _) ⟨we.heap.size, 0, none⟩ 1 1 [.string f, .string v2] rfl rfl (cell_two_new _ _ _ _) (two_text _ _) h63 h47 (HBS _) ?_)
            intro v1 w5 hown5 hgrow _
            obtain ⟨fo1, fc1, rfl⟩ := slice_of_owns hown5
            obtain ⟨hr5, hd5⟩ := hde.out.more hcw hRw hrw hrR hgrow hown5
            have HD5 : Hid (DReq w c R r m p (.slice fo1 (fs.length + 1) fc1) (fs ++ [(f, v2)]) ⟨#[]⟩ a len cap (w5.setCell ⟨r, 2, none⟩ (.slice fo1 (fs.length + 1) fc1))) := hd5
            have HSH : Hid (ShortF (fs ++ [(f, v2)])) := hsh.out.snoc hf hv2
            clear c0 c1 c2 c3 f0 f1 f2 f3
            obtain ⟨⟨c0, c1, c2, c3⟩, f0, f1, f2, f3⟩ := four_facts hr5
            clear hr5 hd5 hgrow hown5 HBS
            go_wp2
            go_roundw
            case rel => exact ⟨k + 1, _, _, by omega, by simp; omega, by go_num, HSH, HD5⟩
            case measure => simp [intOf]; omega
          · have ht2 := text_beq_no e2
            rw [cacheC_list] at ht2
            by_cases e3 : f = ⟨#[105, 102, 45, 110, 111, 110, 101, 45, 109, 97, 116, 99, 104]⟩
            · have ht3 := (text_beq _ _).2 e3
              rw [ifNone_list] at ht3
              clear e1 e2 e3
              go_wp2_with fail
              refine (pick_new c B [⟨#[97]⟩, ⟨#[98]⟩] 64 (by decide) a len cap zs wd hdd.out.cur (HCO.out _ hdd.out.grow) hB (by decide) (by decide)).mono ?_
              rintro e we ⟨v2, rfl, hv2, hcue, hge⟩
              have hde : Hid (DReq w c R r m p (.slice fo fs.length fc) fs ⟨#[]⟩ a len cap we) := hdd.out.later hcw hRw hrw hcue hge
              clear hcue hge
              have h63 : fs.length + 1 ≤ maxLen := by unfold maxLen; omega
              have h47 : (fs.length + 1) * 32 ≤ 140737488355328 := by omega
              have HBS : ∀ o, w.heap.size ≤ (we.alloc o).heap.size := fun o => by have := hde.out.grow.size; simp; omega
              obtain ⟨⟨c0, c1, c2, c3⟩, f0, f1, f2, f3⟩ := four_facts hde.out.hr
              go_wp2_with (at_builtin; refine wpList_append_own _ rfl _ _ 27 rfl w.heap.size 75 i0 (.agg #[.string ⟨#[]⟩, .string ⟨#[]⟩]) 2 32 Tryz.underlying27 hi hz0 hz1 hz2 rfl (by decide) _ _ _ rfl (hde.out.own.alloc _) ⟨we.heap.size, 0, none⟩ 1 1 [.string f, .string v2] rfl rfl (cell_two_new _ _ _ _) (two_text _ _) h63 h47 (HBS _) ?_)
              intro v1 w5 hown5 hgrow _
              obtain ⟨fo1, fc1, rfl⟩ := slice_of_owns hown5
              obtain ⟨hr5, hd5⟩ := hde.out.more hcw hRw hrw hrR hgrow hown5
              have HD5 : Hid (DReq w c R r m p (.slice fo1 (fs.length + 1) fc1) (fs ++ [(f, v2)]) ⟨#[]⟩ a len cap (w5.setCell ⟨r, 2, none⟩ (.slice fo1 (fs.length + 1) fc1))) := hd5
              have HSH : Hid (ShortF (fs ++ [(f, v2)])) := hsh.out.snoc hf hv2
              clear c0 c1 c2 c3 f0 f1 f2 f3
              obtain ⟨⟨c0, c1, c2, c3⟩, f0, f1, f2, f3⟩ := four_facts hr5
              clear hr5 hd5 hgrow hown5 HBS
              go_wp2
              go_roundw
              case rel => exact ⟨k + 1, _, _, by omega, by simp; omega, by go_num, HSH, HD5⟩
              case measure => simp [intOf]; omega
            · have ht3 := text_beq_no e3
              rw [ifNone_list] at ht3
              clear e1 e2 e3
              have h63 : fs.length + 1 ≤ maxLen := by unfold maxLen; omega
              have h47 : (fs.length + 1) * 32 ≤ 140737488355328 := by omega
              have HBS : ∀ o, w.heap.size ≤ (wd.alloc o).heap.size := fun o => by have := hdd.out.grow.size; simp; omega
              obtain ⟨⟨c0, c1, c2, c3⟩, f0, f1, f2, f3⟩ := four_facts hdd.out.hr
              go_wp2_with (at_builtin; refine wpList_append_own _ rfl _ _ 27 rfl w.heap.size 75 i0 (.agg #[.string ⟨#[]⟩, .string ⟨#[]⟩]) 2 32 Tryz.underlying27 hi hz0 hz1 hz2 rfl (by decide) _ _ _ rfl (hdd.out.own.alloc _) ⟨wd.heap.size, 0, none⟩ 1 1 [.string f, .string v] rfl rfl (cell_two_new _ _ _ _) (two_text _ _) h63 h47 (HBS _) ?_)
              intro v1 w5 hown5 hgrow _
              obtain ⟨fo1, fc1, rfl⟩ := slice_of_owns hown5
              obtain ⟨hr5, hd5⟩ := hdd.out.more hcw hRw hrw hrR hgrow hown5
              have HD5 : Hid (DReq w c R r m p (.slice fo1 (fs.length + 1) fc1) (fs ++ [(f, v)]) ⟨#[]⟩ a len cap (w5.setCell ⟨r, 2, none⟩ (.slice fo1 (fs.length + 1) fc1))) := hd5
              have HSH : Hid (ShortF (fs ++ [(f, v)])) := hsh.out.snoc hf hv
              clear c0 c1 c2 c3 f0 f1 f2 f3
              obtain ⟨⟨c0, c1, c2, c3⟩, f0, f1, f2, f3⟩ := four_facts hr5
              clear hr5 hd5 hgrow hown5 HBS
              go_wp2
              go_roundw
              case rel => exact ⟨k + 1, _, _, by omega, by simp; omega, by go_num, HSH, HD5⟩
              case measure => simp [intOf]; omega
      · go_wp2
        go_roundw
        case rel => exact ⟨k + 1, fs, _, by omega, by omega, by go_num, hsh, hdb⟩
        case measure => simp [intOf]; omega
    · skip
      obtain ⟨⟨c0, c1, c2, c3⟩, f0, f1, f2, f3⟩ := four_facts hda.out.hr
      obtain ⟨⟨d0, d1, d2, d3⟩, g0, g1, g2, g3⟩ := four_facts hda.out.hR
      by_cases hm3 : m = 3
      · have hme : (m == 3) = true := by rw [beq_iff_eq]; exact hm3
        clear hm3
        go_wp2_with fail
        refine (l3DrawBody_any c B a len cap zs _ hda.out.cur (HCO.out _ hda.out.grow) hB).mono ?_
        rintro e wb ⟨b, rfl, hb, hcub, hgb⟩
        have hdb : Hid (DReq w c R r m p (.slice fo fs.length fc) fs ⟨#[]⟩ a len cap wb) := hda.out.later hcw hRw hrw hcub hgb
        clear c0 c1 c2 c3 f0 f1 f2 f3 d0 d1 d2 d3 g0 g1 g2 g3 hcub hgb hda
        obtain ⟨⟨c0, c1, c2, c3⟩, f0, f1, f2, f3⟩ := four_facts hdb.out.hr
        have hdc : Hid (DReq w c R r m p (.slice fo fs.length fc) fs b a len cap (wb.setCell ⟨r, 3, none⟩ (.string b))) := hdb.out.setBody hcw hrw hrR b
        obtain ⟨⟨i0', i1, i2, i3⟩, j0, j1, j2, j3⟩ := four_facts hdc.out.hr
        obtain ⟨⟨d0, d1, d2, d3⟩, g0, g1, g2, g3⟩ := four_facts hdc.out.hR
        obtain ⟨hh, hfin⟩ := hdc.out.fin (bmax := 14) hcw hRw ⟨by omega, by omega⟩ hp (by omega) hsh.out hb
        obtain ⟨⟨k0, k1, k2, k3⟩, _⟩ := four_facts hh
        have HFIN : Hid _ := hfin
        unfold fourSet at k0 k1 k2 k3
        clear hh hfin
        go_wp2_with fail
        exact bodyPost_ret (v := .agg #[.int .i64 m, .string p, .slice fo fs.length fc, .string b]) (by simp [results, Tryz.results58, go_sem, k0, k1, k2, k3]) rfl HFIN.out
      · have hme : (m == 3) = false := by rw [beq_eq_false_iff_ne]; exact hm3
        obtain ⟨hh, hfin⟩ := hda.out.fin (bmax := 14) hcw hRw ⟨by omega, by omega⟩ hp (by omega) hsh.out (by decide)
        obtain ⟨⟨k0, k1, k2, k3⟩, _⟩ := four_facts hh
        have HFIN : Hid _ := hfin
        unfold fourSet at k0 k1 k2 k3
        clear hh hfin
        go_wp2_with fail
        exact bodyPost_ret (v := .agg #[.int .i64 m, .string p, .slice fo fs.length fc, .string ⟨#[]⟩]) (by simp [results, Tryz.results58, go_sem, k0, k1, k2, k3]) rfl HFIN.out

end Go.Proofs.YtlmenolcgaakeaaGreat

namespace Go.Proofs.YtlmenolcgaakeaaGreat
open Go.RowKit
open Go.Lib hiding intOf

theorem DReq.setFields {w : World} {c R r : Nat} {m : Int} {p : ByteArray} {fv : Value} {fs : List (ByteArray × ByteArray)} {b : ByteArray} {a : Option Addr} {len cap : Nat} {W : World} {gv : Value} {gs : List (ByteArray × ByteArray)} (h : DReq w c R r m p fv fs b a len cap W) (hcw : c < w.heap.size) (hrw : w.heap.size ≤ r) (hrR : R ≠ r) (hown : W.ownsRow w.heap.size 75 2 gv gs.length (flatF gs)) : DReq w c R r m p gv gs b a len cap (W.setCell ⟨r, 2, none⟩ gv) := by
  have hap : ∀ j, gv.ownBlock = some j → j ≠ R ∧ j ≠ r := fun j hj => by
    obtain ⟨cur, hcj⟩ := owns_heap hown hj
    refine ⟨fun e => ?_, fun e => ?_⟩
    · rw [e, h.hR] at hcj
      simp at hcj
    · rw [e, h.hr] at hcj
      simp at hcj
  refine ⟨?_, ?_, ?_, ?_, grown_later h.grow (grown_set W r 2 _) (fun g e => by cases e; exact hrw), hap⟩
  · rw [heap_setCell_other _ _ R _ (fun e => hrR e)]; exact h.hR
  · have := heap_set W r 2 _ _ _ gv h.hr
    simpa using this
  · exact hown.kept (grown_set W r 2 _) (by cases h3 : gv.ownBlock <;> simp; exact (hap _ h3).2)
  · obtain ⟨i, hh, hi, h4⟩ := h.cur
    refine ⟨i, hh, hi, ?_⟩
    rw [heap_setCell_other _ _ c _ (fun e => by have e2 : c = r := e; omega)]
    exact h4

end Go.Proofs.YtlmenolcgaakeaaGreat

namespace Go.Proofs.YtlmenolcgaakeaaGreat
open Go.RowKit
open Go.Lib hiding intOf

theorem three_facts {W : World} {R : Nat} {a b c : Value} {t : TypeId} (h : W.heap[R]? = some (.cells #[a, b, c] t)) :
    (W.cell? ⟨R, 0, none⟩ = some a ∧ W.cell? ⟨R, 1, none⟩ = some b ∧ W.cell? ⟨R, 2, none⟩ = some c) ∧ W.frozen? ⟨R, 0, none⟩ = false ∧ W.frozen? ⟨R, 1, none⟩ = false ∧ W.frozen? ⟨R, 2, none⟩ = false := by
  refine ⟨⟨?_, ?_, ?_⟩, ?_, ?_, ?_⟩ <;> simp [World.cell?, World.frozen?, h]
/-- The three cells of an answer's memory, written. -/
def threeSet (w : World) (r : Nat) (a b c : Value) : World := ((w.setCell ⟨r, 0, none⟩ a).setCell ⟨r, 1, none⟩ b).setCell ⟨r, 2, none⟩ c
theorem three_set {W : World} {R : Nat} {a b c : Value} {t : TypeId} (h : W.heap[R]? = some (.cells #[a, b, c] t)) (a' b' c' : Value) : (threeSet W R a' b' c').heap[R]? = some (.cells #[a', b', c'] t) := by
  have := heap_set _ R 2 _ _ _ c' (heap_set _ R 1 _ _ _ b' (heap_set W R 0 _ _ _ a' h))
  simpa [threeSet] using this
theorem below_three {w W : World} {B R : Nat} {a b c : Value} (h : Below B w W) (hR : B ≤ R) : Below B w (threeSet W R a b c) :=
  ((h.setCell (p := ⟨R, 0, none⟩) hR _).setCell (p := ⟨R, 1, none⟩) hR _).setCell (p := ⟨R, 2, none⟩) hR _

end Go.Proofs.YtlmenolcgaakeaaGreat

namespace Go.Proofs.YtlmenolcgaakeaaGreat
open Go.RowKit

/-- A part of a split text. -/
def partL (cur : List UInt8) : List ByteArray := if trimL cur = [] then [] else [⟨(trimL cur).toArray⟩]
/-- Split, byte by byte: 'cur': what stands of this part. -/
def spA (cur : List UInt8) : List UInt8 → List ByteArray
  | [] => partL cur
  | c :: r => if c = 44 then partL cur ++ spA [] r else spA (cur ++ [c]) r
theorem add_part (l : List ByteArray) (s : ByteArray) : addPart l (trimOf s) = l ++ partL (bs s) := by
  have hs : (trimOf s).size = (trimL (bs s)).length := by
    show (trimL s.data.toList).toArray.size = _
    simp [bs]
  unfold addPart partL
  rw [hs]
  by_cases h : trimL (bs s) = []
  · rw [if_pos h, if_pos (by rw [h]; rfl), List.append_nil]
  · rw [if_neg h, if_neg (fun e => h (List.length_eq_zero_iff.1 e))]
    rfl
theorem ext_part (s : ByteArray) (a k : Nat) : bs (s.extract a k) = ((bs s).take k).drop a := by rw [bs_extract]
theorem split_from (s : ByteArray) : ∀ k, k ≤ s.size → (splitTo s k).1 ++ spA (((bs s).take k).drop (splitTo s k).2) ((bs s).drop k) = spA [] (bs s) := by
  intro k
  induction k with
  | zero => intro _; simp [splitTo]
  | succ k ih =>
    intro hk
    have hlt : k < s.size := by omega
    have h := ih (by omega)
    have hle := (splitTo_le s k).1
    have hd : (bs s).drop k = s[k]'hlt :: (bs s).drop (k + 1) := by
      have hl : k < (bs s).length := by rw [bs_len]; exact hlt
      rw [List.drop_eq_getElem_cons hl]
      congr 1
    have ht : (bs s).take (k + 1) = (bs s).take k ++ [s[k]'hlt] := by
      have hl : k < (bs s).length := by rw [bs_len]; exact hlt
      rw [List.take_succ_eq_append_getElem hl]
      congr 1
    rw [hd] at h
    by_cases hc : (s[k]'hlt).toNat = 44
    · have hc8 : s[k]'hlt = 44 := UInt8.toNat_inj.1 hc
      rw [splitTo_comma s k hlt hc]
      dsimp only
      rw [add_part, ext_part]
      rw [spA, if_pos hc8] at h
      have hn : ((bs s).take (k + 1)).drop (k + 1) = [] := List.drop_of_length_le (by rw [List.length_take]; omega)
      rw [hn, List.append_assoc]
      exact h
    · have hc8 : s[k]'hlt ≠ 44 := fun e => hc (by rw [e]; rfl)
      rw [splitTo_other s k hlt hc]
      rw [spA, if_neg hc8] at h
      have hn : ((bs s).take (k + 1)).drop (splitTo s k).2 = ((bs s).take k).drop (splitTo s k).2 ++ [s[k]'hlt] := by
        rw [ht, List.drop_append_of_le_length (by rw [List.length_take, bs_len]; omega)]
      rw [hn]
      exact h
theorem splitL_sp (s : ByteArray) : splitL s = spA [] (bs s) := by
  have h := split_from s s.size (Nat.le_refl _)
  have hd : (bs s).drop s.size = [] := List.drop_of_length_le (by rw [bs_len]; exact Nat.le_refl _)
  rw [hd] at h
  unfold splitL
  rw [add_part, ext_part]
  exact h

theorem dropB_len : ∀ l : List UInt8, (dropB l).length ≤ l.length := by
  intro l
  induction l with
  | nil => simp [dropB]
  | cons c l ih =>
    unfold dropB
    split
    · simp; omega
    · exact Nat.le_refl _
theorem trimL_len (l : List UInt8) : (trimL l).length ≤ l.length := by
  have h1 := dropB_len l
  have h2 := dropB_len (dropB l).reverse
  unfold trimL
  rw [List.length_reverse]
  rw [List.length_reverse] at h2
  omega
theorem partL_le (cur : List UInt8) : (partL cur).length ≤ 1 ∧ ∀ x ∈ partL cur, x.size ≤ cur.length := by
  unfold partL
  split
  · exact ⟨by simp, fun x hx => nomatch hx⟩
  · refine ⟨by simp, fun x hx => ?_⟩
    obtain rfl := List.mem_singleton.1 hx
    exact trimL_len cur
theorem spA_le : ∀ (l cur : List UInt8), (spA cur l).length ≤ l.length + 1 ∧ ∀ x ∈ spA cur l, x.size ≤ cur.length + l.length := by
  intro l
  induction l with
  | nil => intro cur; exact ⟨(partL_le cur).1, fun x hx => (partL_le cur).2 x hx⟩
  | cons c l ih =>
    intro cur
    unfold spA
    split
    · have h1 := partL_le cur
      have h2 := ih []
      refine ⟨by rw [List.length_append, List.length_cons]; omega, fun x hx => ?_⟩
      rw [List.mem_append] at hx
      rw [List.length_cons]
      rcases hx with hx | hx
      · have := h1.2 x hx; omega
      · have := h2.2 x hx; rw [List.length_nil] at this; omega
    · have h2 := ih (cur ++ [c])
      refine ⟨by rw [List.length_cons]; omega, fun x hx => ?_⟩
      have := h2.2 x hx
      rw [List.length_append, List.length_singleton] at this
      rw [List.length_cons]
      omega
theorem splitL_le (s : ByteArray) : (splitL s).length ≤ s.size + 1 ∧ ∀ x ∈ splitL s, x.size ≤ s.size := by
  have h := spA_le (bs s) []
  rw [← splitL_sp, bs_len, List.length_nil, Nat.zero_add] at h
  exact h

/-- What is said of keeping. -/
structure CcD where
  ns : Bool
  nc : Bool
  pr : Bool
  mu : Bool
  ha : Bool
  age : Int
def cc0 : CcD := ⟨false, false, false, false, false, 0⟩
def CcD.v (c : CcD) : Value := .agg #[.bool c.ns, .bool c.nc, .bool c.pr, .bool c.mu, .bool c.ha, .int .i64 c.age]
def nsW : ByteArray := ⟨#[110, 111, 45, 115, 116, 111, 114, 101]⟩
def ncW : ByteArray := ⟨#[110, 111, 45, 99, 97, 99, 104, 101]⟩
def prW : ByteArray := ⟨#[112, 114, 105, 118, 97, 116, 101]⟩
def muW : ByteArray := ⟨#[109, 117, 115, 116, 45, 114, 101, 118, 97, 108, 105, 100, 97, 116, 101]⟩
def maW : ByteArray := ⟨#[109, 97, 120, 45, 97, 103, 101, 61]⟩
open Classical in
/-- The number that a text is; 0: it is none. -/
noncomputable def numV (s : ByteArray) : Int := if NumOk s then (valL s.data.toList : Int) else 0
open Classical in
/-- What stands behind the word of ages; none: it is another word. -/
noncomputable def ageOf (w : ByteArray) : Option Int := if (bs w).take 8 = bs maW then some (numV ⟨((bs w).drop 8).toArray⟩) else none
/-- One word more. -/
noncomputable def ccStep (c : CcD) (w : ByteArray) : CcD :=
  if w = nsW then { c with ns := true } else if w = ncW then { c with nc := true } else if w = prW then { c with pr := true } else if w = muW then { c with mu := true }
  else match ageOf w with
    | none => c
    | some n => if c.ha = true then { c with age := min c.age n } else { c with ha := true, age := n }
/-- So many of the words. -/
noncomputable def ccTo (l : List ByteArray) : CcD := l.foldl (fun c x => ccStep c (lowerOf x)) cc0
noncomputable def ccR (s : ByteArray) : CcD := ccTo (splitL s)
theorem ccTo_snoc (l : List ByteArray) (x : ByteArray) : ccTo (l ++ [x]) = ccStep (ccTo l) (lowerOf x) := by simp [ccTo]

theorem text_bs (x : ByteArray) : (⟨(bs x).toArray⟩ : ByteArray) = x := by
  apply ByteArray.ext
  simp [bs]
end Go.Proofs.YtlmenolcgaakeaaGreat

namespace Go.Proofs.YtlmenolcgaakeaaGreat
open Go.RowKit
open Go.Lib hiding intOf

set_option maxHeartbeats 400000 in
theorem l1Min_any (a b : Int) (w : World) :
    Calls Tryz.prog 97 #[.int .i64 a, .int .i64 b] w fun e w' => e = .returned (.int .i64 (min a b)) ∧ w' = w := by
  by_cases h : a < b
  · have HE : Hid (min a b = a) := by show _ = _; omega
    go_enter Tryz.func97, Tryz.ntmps97
    go_wp2
    go_ret
    exact ⟨by rw [HE.out]; rfl, rfl⟩
  · have HE : Hid (min a b = b) := by show _ = _; omega
    go_enter Tryz.func97, Tryz.ntmps97
    go_wp2
    go_ret
    exact ⟨by rw [HE.out]; rfl, rfl⟩
end Go.Proofs.YtlmenolcgaakeaaGreat

namespace Go.Proofs.YtlmenolcgaakeaaGreat
open Go.RowKit
open Go.Lib hiding intOf

theorem owns_wide {w : World} {B base : Nat} {e : TypeId} {size : Nat} {v : Value} {n : Nat} {xs : List Value} (h : w.ownsRow base e size v n xs) (hB : B ≤ base) : w.ownsRow B e size v n xs := by
  obtain ⟨hl, hv⟩ := h
  refine ⟨hl, ?_⟩
  rcases hv with h0 | ⟨g, cap, cur, h1, h2, h3⟩
  · exact .inl h0
  · exact .inr ⟨g, cap, cur, h1, Nat.le_trans hB h2, h3⟩
theorem owns_same {w w' : World} {base : Nat} {e : TypeId} {size : Nat} {v : Value} {n : Nat} {xs : List Value} (h : w.ownsRow base e size v n xs) (hs : ∀ j, v.ownBlock = some j → w'.heap[j]? = w.heap[j]?) : w'.ownsRow base e size v n xs := by
  obtain ⟨hl, hv⟩ := h
  refine ⟨hl, ?_⟩
  rcases hv with h0 | ⟨g, cap, cur, rfl, h2, h3, h4⟩
  · exact .inl h0
  · exact .inr ⟨g, cap, cur, rfl, h2, by rw [hs g rfl]; exact h3, h4⟩

end Go.Proofs.YtlmenolcgaakeaaGreat

namespace Go.Proofs.YtlmenolcgaakeaaGreat
open Go.RowKit
open Go.Lib hiding intOf

theorem owns_cellC {w : World} {base : Nat} {t : TypeId} {size g n cap : Nat} {xs : List Value} (h : w.ownsRow base t size (.slice (some ⟨g, 0, none⟩) n cap) n xs) (o : Nat) (u : Value) (ho : xs[o]? = some u) : w.cell? ⟨g, o, none⟩ = some u ∧ w.frozen? ⟨g, o, none⟩ = false := by
  obtain ⟨hl, hv⟩ := h
  rcases hv with ⟨e, _⟩ | ⟨g', cap', cur, e, h1, h2, h3, h4, h5, h6⟩
  · cases e
  · cases e
    refine ⟨?_, by simp [World.frozen?, h2]⟩
    rw [← h6, List.getElem?_take] at ho
    split at ho
    · simpa [World.cell?, h2] using ho
    · cases ho
theorem own_ltR {w : World} {base : Nat} {t : TypeId} {size : Nat} {v : Value} {n : Nat} {xs : List Value} {j : Nat} (h : w.ownsRow base t size v n xs) (hj : v.ownBlock = some j) : base ≤ j ∧ j < w.heap.size := by
  rcases h.2 with ⟨rfl, _⟩ | ⟨g, cap, cur, rfl, h0, h1, _⟩
  · cases hj
  · cases hj
    exact ⟨h0, (Array.getElem?_eq_some_iff.1 h1).1⟩
end Go.Proofs.YtlmenolcgaakeaaGreat

namespace Go.Proofs.YtlmenolcgaakeaaGreat
open Go.RowKit
open Go.Lib hiding intOf

theorem maW_list : maW.toList = [109, 97, 120, 45, 97, 103, 101, 61] := by rw [ByteArray.toList_eq]; rfl
theorem nsW_list : nsW.toList = [110, 111, 45, 115, 116, 111, 114, 101] := by rw [ByteArray.toList_eq]; rfl
theorem ncW_list : ncW.toList = [110, 111, 45, 99, 97, 99, 104, 101] := by rw [ByteArray.toList_eq]; rfl
theorem prW_list : prW.toList = [112, 114, 105, 118, 97, 116, 101] := by rw [ByteArray.toList_eq]; rfl
theorem muW_list : muW.toList = [109, 117, 115, 116, 45, 114, 101, 118, 97, 108, 105, 100, 97, 116, 101] := by rw [ByteArray.toList_eq]; rfl
theorem ageOf_short {s : ByteArray} (h : s.size < 8) : ageOf s = none := by
  unfold ageOf
  rw [if_neg]
  intro e
  have := congrArg List.length e
  rw [List.length_take, bs_len] at this
  have h8 : (bs maW).length = 8 := rfl
  omega
theorem ageOf_yes {s : ByteArray} (h : s.extract 0 8 = maW) : ageOf s = some (numV (s.extract 8 s.size)) := by
  have e : (bs s).take 8 = bs maW := by rw [← h, bs_extract, List.drop_zero]
  have d : (⟨((bs s).drop 8).toArray⟩ : ByteArray) = s.extract 8 s.size := by
    rw [← text_bs (s.extract 8 s.size), bs_extract, List.take_of_length_le (by rw [bs_len]; exact Nat.le_refl _)]
  unfold ageOf
  rw [if_pos e, d]
theorem ageOf_no {s : ByteArray} (h : s.extract 0 8 ≠ maW) : ageOf s = none := by
  unfold ageOf
  rw [if_neg]
  intro e
  apply h
  rw [← text_bs (s.extract 0 8), bs_extract, List.drop_zero, e, text_bs]

/-- What l6Age answers. -/
def AgeIs (s : ByteArray) (w : World) (e : Ending) (w' : World) : Prop :=
  ∃ (n : Int) (b : Bool), e = .returned (.tuple #[.int .i64 n, .bool b]) ∧ (b = true → ageOf s = some n) ∧ (b = false → ageOf s = none) ∧ Below w.heap.size w w'
set_option maxHeartbeats 1000000 in
theorem l6Age_any (s : ByteArray) (w : World) (hs : s.size ≤ 4000000) :
    Calls Tryz.prog 96 #[.string s] w fun e w' => AgeIs s w e w' := by
  by_cases h8 : s.size < 8
  · have HN : Hid (ageOf s = none) := ageOf_short h8
    have h8' : (s.size : Int) < 8 := by omega
    clear h8
    go_enter Tryz.func96, Tryz.ntmps96
    go_wp2_with fail
    refine bodyPost_ret (v := .tuple #[.int .i64 0, .bool false]) (by simp [results, Tryz.results96, go_sem]) rfl ?_
    exact ⟨0, false, rfl, nofun, fun _ => HN.out, Below.refl _ _⟩
  · have h8' : ¬ (s.size : Int) < 8 := by omega
    have h8'' : (8 : Int) ≤ (s.size : Int) := by omega
    by_cases hp : s.extract 0 8 = maW
    · have ht : ((s.extract 0 8).toList == maW.toList) = true := (text_beq _ _).2 hp
      rw [maW_list] at ht
      have HY : Hid (ageOf s = some (numV (s.extract 8 s.size))) := ageOf_yes hp
      have hes : (s.extract 8 s.size).size ≤ maxLen := by rw [ByteArray.size_extract]; unfold maxLen; omega
      clear hp h8
      go_enter Tryz.func96, Tryz.ntmps96
      go_wp2_with fail
      refine (specNumRead_any (s.extract 8 s.size) _ hes).mono ?_
      rintro e w1 ⟨b, n, rfl, hb1, hb2, hb3, b1⟩
      have HV : Hid (numV (s.extract 8 s.size) = n) := by
        show _ = _
        unfold numV
        cases b with
        | true => rw [if_pos (hb1.1 rfl), hb2 rfl]
        | false => rw [if_neg (fun h => nomatch hb1.2 h), hb3 rfl]
      clear hb1 hb2 hb3
      go_wp2_with fail
      refine bodyPost_ret (v := .tuple #[.int .i64 n, .bool true]) (by simp [results, Tryz.results96, go_sem]) rfl ?_
      exact ⟨n, true, rfl, fun _ => by rw [HY.out, HV.out], nofun, b1⟩
    · have ht : ((s.extract 0 8).toList == maW.toList) = false := text_beq_no hp
      rw [maW_list] at ht
      have HN : Hid (ageOf s = none) := ageOf_no hp
      clear hp h8
      go_enter Tryz.func96, Tryz.ntmps96
      go_wp2_with fail
      refine bodyPost_ret (v := .tuple #[.int .i64 0, .bool false]) (by simp [results, Tryz.results96, go_sem]) rfl ?_
      exact ⟨0, false, rfl, nofun, fun _ => HN.out, Below.refl _ _⟩

theorem ccLow_size (s : ByteArray) : (lowerOf s).size = s.size := by unfold lowerOf; rw [strOfNums_size, lowXs_len]
/-- The cells of it. -/
def CcD.cs (c : CcD) : Array Value := #[.bool c.ns, .bool c.nc, .bool c.pr, .bool c.mu, .bool c.ha, .int .i64 c.age]
/-- A block that holds it. -/
def CcAt (w : World) (g : Nat) (c : CcD) : Prop := w.heap[g]? = some (.cells c.cs 113)
theorem CcAt.cells {w : World} {g : Nat} {c : CcD} (h : CcAt w g c) : w.cell? ⟨g, 0, none⟩ = some (.bool c.ns) ∧ w.cell? ⟨g, 1, none⟩ = some (.bool c.nc) ∧ w.cell? ⟨g, 2, none⟩ = some (.bool c.pr) ∧ w.cell? ⟨g, 3, none⟩ = some (.bool c.mu) ∧ w.cell? ⟨g, 4, none⟩ = some (.bool c.ha) ∧ w.cell? ⟨g, 5, none⟩ = some (.int .i64 c.age) := by
  unfold CcAt CcD.cs at h
  refine ⟨?_, ?_, ?_, ?_, ?_, ?_⟩ <;> simp [World.cell?, h]
theorem CcAt.frozen {w : World} {g : Nat} {c : CcD} (h : CcAt w g c) (o : Nat) : w.frozen? ⟨g, o, none⟩ = false := by
  unfold CcAt at h
  simp [World.frozen?, h]
theorem CcAt.lt {w : World} {g : Nat} {c : CcD} (h : CcAt w g c) : g < w.heap.size := (Array.getElem?_eq_some_iff.1 h).1
theorem CcAt.same {w w' : World} {g : Nat} {c : CcD} (h : CcAt w g c) (hs : w'.heap[g]? = w.heap[g]?) : CcAt w' g c := by unfold CcAt; rw [hs]; exact h
theorem CcAt.put0 {w : World} {g : Nat} {c : CcD} (h : CcAt w g c) (x : Bool) : CcAt (w.setCell ⟨g, 0, none⟩ (.bool x)) g { c with ns := x } := by unfold CcAt at *; rw [heap_set _ _ _ _ _ _ _ h]; rfl
theorem CcAt.put1 {w : World} {g : Nat} {c : CcD} (h : CcAt w g c) (x : Bool) : CcAt (w.setCell ⟨g, 1, none⟩ (.bool x)) g { c with nc := x } := by unfold CcAt at *; rw [heap_set _ _ _ _ _ _ _ h]; rfl
theorem CcAt.put2 {w : World} {g : Nat} {c : CcD} (h : CcAt w g c) (x : Bool) : CcAt (w.setCell ⟨g, 2, none⟩ (.bool x)) g { c with pr := x } := by unfold CcAt at *; rw [heap_set _ _ _ _ _ _ _ h]; rfl
theorem CcAt.put3 {w : World} {g : Nat} {c : CcD} (h : CcAt w g c) (x : Bool) : CcAt (w.setCell ⟨g, 3, none⟩ (.bool x)) g { c with mu := x } := by unfold CcAt at *; rw [heap_set _ _ _ _ _ _ _ h]; rfl
theorem CcAt.put4 {w : World} {g : Nat} {c : CcD} (h : CcAt w g c) (x : Bool) : CcAt (w.setCell ⟨g, 4, none⟩ (.bool x)) g { c with ha := x } := by unfold CcAt at *; rw [heap_set _ _ _ _ _ _ _ h]; rfl
theorem CcAt.put5 {w : World} {g : Nat} {c : CcD} (h : CcAt w g c) (x : Int) : CcAt (w.setCell ⟨g, 5, none⟩ (.int .i64 x)) g { c with age := x } := by unfold CcAt at *; rw [heap_set _ _ _ _ _ _ _ h]; rfl
/-- All six cells of a block are stored. -/
def putCc (w : World) (g : Nat) (d : CcD) : World := (((((w.setCell ⟨g, 0, none⟩ (.bool d.ns)).setCell ⟨g, 1, none⟩ (.bool d.nc)).setCell ⟨g, 2, none⟩ (.bool d.pr)).setCell ⟨g, 3, none⟩ (.bool d.mu)).setCell ⟨g, 4, none⟩ (.bool d.ha)).setCell ⟨g, 5, none⟩ (.int .i64 d.age)
theorem CcAt.putAll {w : World} {g : Nat} {c : CcD} (h : CcAt w g c) (d : CcD) : CcAt (putCc w g d) g d :=
  (((((h.put0 d.ns).put1 d.nc).put2 d.pr).put3 d.mu).put4 d.ha).put5 d.age
theorem below_putCc {B : Nat} {a w : World} (h : Below B a w) {g : Nat} (hg : B ≤ g) (d : CcD) : Below B a (putCc w g d) :=
  (((((h.setCell hg _).setCell hg _).setCell hg _).setCell hg _).setCell hg _).setCell hg _

/-- The name of the field that says it. -/
def ccName : ByteArray := ⟨#[99, 97, 99, 104, 101, 45, 99, 111, 110, 116, 114, 111, 108]⟩

/-- While words are read. -/
structure CcSt (w : World) (H : Nat) (c : CcD) (v : Value) (l : List ByteArray) (wr : World) : Prop where
  res : CcAt wr H cc0
  cur : CcAt wr (H + 1) c
  row : wr.ownsRow (H + 1 + 1) 9 1 v l.length (l.map Value.string)
  low : Below H w wr
theorem CcSt.later {w : World} {H : Nat} {c : CcD} {v : Value} {l : List ByteArray} {wr w' : World} (h : CcSt w H c v l wr) (hb : Below wr.heap.size wr w') : CcSt w H c v l w' :=
  ⟨h.res.same (hb.block _ h.res.lt), h.cur.same (hb.block _ h.cur.lt), owns_below h.row hb (fun _ hg => owns_lt h.row hg), h.low.trans (hb.mono (Nat.le_of_lt h.res.lt))⟩
theorem CcSt.put {w : World} {H : Nat} {c d : CcD} {v : Value} {l : List ByteArray} {wr : World} (h : CcSt w H c v l wr) {o : Nat} {x : Value} (hd : CcAt (wr.setCell ⟨H + 1, o, none⟩ x) (H + 1) d) : CcSt w H d v l (wr.setCell ⟨H + 1, o, none⟩ x) :=
  ⟨h.res.same (heap_setCell_other _ _ H _ (by show H ≠ H + 1; omega)), hd, owns_same h.row (fun j hj => heap_setCell_other _ _ j _ (by show j ≠ H + 1; have := (own_ltR h.row hj).1; omega)), h.low.setCell (by show H ≤ H + 1; omega) _⟩

set_option maxHeartbeats 4000000 in
set_option maxRecDepth 100000 in
theorem specCcRead_any (s : ByteArray) (w : World) (hs : s.size ≤ 1048576) :
    Calls Tryz.prog 95 #[.string s] w fun e w' => e = .returned (ccR s).v ∧ Below w.heap.size w w' := by
  obtain ⟨H, hH⟩ : ∃ H, H = w.heap.size := ⟨_, rfl⟩
  have HW : Hid (w.heap.size = H) := hH.symm
  obtain ⟨W0, hW0⟩ : ∃ W, W = (w.alloc (.cells cc0.cs 113)).alloc (.cells cc0.cs 113) := ⟨_, rfl⟩
  have HA : Hid (CcAt W0 H cc0 ∧ CcAt W0 (H + 1) cc0 ∧ Below H w W0 ∧ W0.heap.size = H + 1 + 1) := by
    have e1 := heap_alloc_new w (.cells cc0.cs 113)
    have e2 := heap_alloc_new (w.alloc (.cells cc0.cs 113)) (.cells cc0.cs 113)
    rw [World.size_alloc] at e2
    refine ⟨?_, ?_, ?_, ?_⟩
    · unfold CcAt; rw [hW0, hH, heap_alloc_old _ _ (by simp)]; exact e1
    · unfold CcAt; rw [hW0, hH]; exact e2
    · rw [hW0, hH]; exact ((Below.refl _ w).alloc (Nat.le_refl _) _).alloc (by simp) _
    · rw [hW0, hH]; simp
  have HW0 : Hid ((w.alloc (.cells #[.bool false, .bool false, .bool false, .bool false, .bool false, .int .i64 0] 113)).alloc (.cells #[.bool false, .bool false, .bool false, .bool false, .bool false, .int .i64 0] 113) = W0) := hW0.symm
  clear hW0
  go_enter Tryz.func95, Tryz.ntmps95
  go_wp2_with fail
  rw [HW0.out, ← hH]
  clear hH
  refine (specSplit_any s _ hs).mono ?_
  rintro e w1 ⟨v, rfl, hown, b1⟩
  rw [HA.out.2.2.2] at hown b1
  obtain ⟨l, hl⟩ : ∃ l, l = splitL s := ⟨_, rfl⟩
  rw [← hl] at hown
  have HLS : Hid (splitL s = l) := hl.symm
  have HLB : Hid (∀ x ∈ l, x.size ≤ 1048576) := fun x hx => by rw [hl] at hx; have := (splitL_le s).2 x hx; omega
  have hll : l.length ≤ 1048577 := by rw [hl]; have := (splitL_le s).1; omega
  have HS1 : Hid (CcSt w H (ccTo (l.take 0)) v l w1) := ⟨HA.out.1.same (b1.block _ (by omega)), HA.out.2.1.same (b1.block _ (by omega)), hown, HA.out.2.2.1.trans (b1.mono (by omega))⟩
  obtain ⟨oa, cp, rfl⟩ := slice_of_owns hown
  obtain ⟨n, hn⟩ : ∃ n, n = l.length := ⟨_, rfl⟩
  have HN : Hid (l.length = n) := hn.symm
  rw [← hn] at hll HS1
  rw [← hn]
  clear hown b1 hl hn
  go_wp2_with fail
  go_loopw [5] (fun i wr => ∃ k : Nat, k ≤ n ∧ i = .int .i64 (k : Int) ∧ Hid (CcSt w H (ccTo (l.take k)) (.slice oa n cp) l wr)) (fun i _ => n - (intOf i).toNat)
  case atStart => exact ⟨0, Nat.zero_le _, rfl, HS1⟩
  case round =>
    obtain ⟨k, hk, rfl, HS⟩ := hrel
    by_cases hlt : (k : Int) < (n : Int)
    · have hkl : k < l.length := by have := HN.out; omega
      obtain ⟨g, rfl⟩ : ∃ g, oa = some ⟨g, 0, none⟩ := by
        rcases HS.out.row.2 with ⟨e, _⟩ | ⟨g, _, _, e, _⟩
        · injection e with _ e2 _; omega
        · injection e with e1 _ _; exact ⟨g, e1⟩
      obtain ⟨x, hx⟩ : ∃ x, x = l[k]'hkl := ⟨_, rfl⟩
      have hc0 : wr.cell? ⟨g, k, none⟩ = some (.string x) := by
        have hr := HS.out.row
        rw [HN.out] at hr
        exact (owns_cellC hr k (.string x) (by rw [List.getElem?_map, List.getElem?_eq_getElem hkl, hx]; rfl)).1
      have hxs : x.size ≤ 1048576 := by rw [hx]; exact HLB.out _ (List.getElem_mem hkl)
      obtain ⟨y, hy⟩ : ∃ y, y = lowerOf x := ⟨_, rfl⟩
      have hys : y.size ≤ 4000000 := by rw [hy, ccLow_size]; omega
      have HY : Hid (lowerOf x = y) := hy.symm
      have HST : Hid (ccTo (l.take (k + 1)) = ccStep (ccTo (l.take k)) y) := by
        show _ = _
        rw [List.take_succ_eq_append_getElem hkl, ccTo_snoc, ← hx, hy]
      clear hx hy hkl
      obtain ⟨c, hc⟩ : ∃ c, c = ccTo (l.take k) := ⟨_, rfl⟩
      rw [← hc] at HS HST
      obtain ⟨d, hd⟩ : ∃ d, d = ccTo (l.take (k + 1)) := ⟨_, rfl⟩
      rw [← hd] at HST
      have HD : Hid (ccTo (l.take (k + 1)) = d) := hd.symm
      clear hc hd
      go_wp2_with fail
      refine (specLower_any x _ hxs).mono ?_
      rintro e w2 ⟨rfl, b2⟩
      rw [HY.out]
      have HS2 : Hid (CcSt w H c (.slice (some ⟨g, 0, none⟩) n cp) l w2) := HS.out.later b2
      clear b2 hc0
      go_wp2_with fail
      refine (l6Age_any y _ hys).mono ?_
      rintro e w3 ⟨na, ba, rfl, hb1, hb2, b3⟩
      have HS3 : Hid (CcSt w H c (.slice (some ⟨g, 0, none⟩) n cp) l w3) := HS2.out.later b3
      obtain ⟨q0, q1, q2, q3, q4, q5⟩ := HS3.out.cur.cells
      have f0 := HS3.out.cur.frozen 0
      have f1 := HS3.out.cur.frozen 1
      have f2 := HS3.out.cur.frozen 2
      have f3 := HS3.out.cur.frozen 3
      have f4 := HS3.out.cur.frozen 4
      have f5 := HS3.out.cur.frozen 5
      clear b3 HS HS2
      by_cases h0 : y = nsW
      · have t0 : (y.toList == nsW.toList) = true := (text_beq _ _).2 h0
        rw [nsW_list] at t0
        have HS4 : Hid (CcSt w H d (.slice (some ⟨g, 0, none⟩) n cp) l (w3.setCell ⟨H + 1, 0, none⟩ (.bool true))) := by
          show CcSt _ _ _ _ _ _
          have e : d = { c with ns := true } := by rw [HST.out]; unfold ccStep; rw [if_pos h0]
          rw [e]
          exact HS3.out.put (HS3.out.cur.put0 true)
        clear h0 hb1 hb2
        go_wp2_with fail
        go_roundw
        case rel => exact ⟨k + 1, by omega, by go_num, by rw [HD.out]; exact HS4⟩
        case measure => simp [intOf]; omega
      have t0 : (y.toList == nsW.toList) = false := text_beq_no h0
      rw [nsW_list] at t0
      by_cases h1 : y = ncW
      · have t1 : (y.toList == ncW.toList) = true := (text_beq _ _).2 h1
        rw [ncW_list] at t1
        have HS4 : Hid (CcSt w H d (.slice (some ⟨g, 0, none⟩) n cp) l (w3.setCell ⟨H + 1, 1, none⟩ (.bool true))) := by
          show CcSt _ _ _ _ _ _
          have e : d = { c with nc := true } := by rw [HST.out]; unfold ccStep; rw [if_neg h0, if_pos h1]
          rw [e]
          exact HS3.out.put (HS3.out.cur.put1 true)
        clear h0 h1 hb1 hb2
        go_wp2_with fail
        go_roundw
        case rel => exact ⟨k + 1, by omega, by go_num, by rw [HD.out]; exact HS4⟩
        case measure => simp [intOf]; omega
      have t1 : (y.toList == ncW.toList) = false := text_beq_no h1
      rw [ncW_list] at t1
      by_cases h2 : y = prW
      · have t2 : (y.toList == prW.toList) = true := (text_beq _ _).2 h2
        rw [prW_list] at t2
        have HS4 : Hid (CcSt w H d (.slice (some ⟨g, 0, none⟩) n cp) l (w3.setCell ⟨H + 1, 2, none⟩ (.bool true))) := by
          show CcSt _ _ _ _ _ _
          have e : d = { c with pr := true } := by rw [HST.out]; unfold ccStep; rw [if_neg h0, if_neg h1, if_pos h2]
          rw [e]
          exact HS3.out.put (HS3.out.cur.put2 true)
        clear h0 h1 h2 hb1 hb2
        go_wp2_with fail
        go_roundw
        case rel => exact ⟨k + 1, by omega, by go_num, by rw [HD.out]; exact HS4⟩
        case measure => simp [intOf]; omega
      have t2 : (y.toList == prW.toList) = false := text_beq_no h2
      rw [prW_list] at t2
      by_cases h3 : y = muW
      · have t3 : (y.toList == muW.toList) = true := (text_beq _ _).2 h3
        rw [muW_list] at t3
        have HS4 : Hid (CcSt w H d (.slice (some ⟨g, 0, none⟩) n cp) l (w3.setCell ⟨H + 1, 3, none⟩ (.bool true))) := by
          show CcSt _ _ _ _ _ _
          have e : d = { c with mu := true } := by rw [HST.out]; unfold ccStep; rw [if_neg h0, if_neg h1, if_neg h2, if_pos h3]
          rw [e]
          exact HS3.out.put (HS3.out.cur.put3 true)
        clear h0 h1 h2 h3 hb1 hb2
        go_wp2_with fail
        go_roundw
        case rel => exact ⟨k + 1, by omega, by go_num, by rw [HD.out]; exact HS4⟩
        case measure => simp [intOf]; omega
      have t3 : (y.toList == muW.toList) = false := text_beq_no h3
      rw [muW_list] at t3
      have HRE : Hid (ccStep c y = match ageOf y with | none => c | some n => if c.ha = true then { c with age := min c.age n } else { c with ha := true, age := n }) := by
        show _ = _
        unfold ccStep
        rw [if_neg h0, if_neg h1, if_neg h2, if_neg h3] <;> rfl
      clear h0 h1 h2 h3
      cases ba with
      | false =>
        have HS4 : Hid (CcSt w H d (.slice (some ⟨g, 0, none⟩) n cp) l w3) := by
          show CcSt _ _ _ _ _ _
          have e : d = c := by rw [HST.out, HRE.out, hb2 rfl]
          rw [e]
          exact HS3.out
        clear hb1 hb2
        go_wp2_with fail
        go_roundw
        case rel => exact ⟨k + 1, by omega, by go_num, by rw [HD.out]; exact HS4⟩
        case measure => simp [intOf]; omega
      | true =>
        cases hha : c.ha with
        | true =>
          have HS4 : Hid (CcSt w H d (.slice (some ⟨g, 0, none⟩) n cp) l (w3.setCell ⟨H + 1, 5, none⟩ (.int .i64 (min c.age na)))) := by
            show CcSt _ _ _ _ _ _
            have e : d = { c with age := min c.age na } := by rw [HST.out, HRE.out, hb1 rfl]; dsimp only; rw [if_pos hha]
            rw [e]
            exact HS3.out.put (HS3.out.cur.put5 _)
          rw [hha] at q4
          clear hb1 hb2 hha
          go_wp2_with fail
          refine (l1Min_any _ _ _).mono ?_
          rintro e w4 ⟨rfl, rfl⟩
          go_wp2_with fail
          go_roundw
          case rel => exact ⟨k + 1, by omega, by go_num, by rw [HD.out]; exact HS4⟩
          case measure => simp [intOf]; omega
        | false =>
          have HS4a : CcSt w H { c with ha := true } (.slice (some ⟨g, 0, none⟩) n cp) l (w3.setCell ⟨H + 1, 4, none⟩ (.bool true)) := HS3.out.put (HS3.out.cur.put4 true)
          have HS4 : Hid (CcSt w H d (.slice (some ⟨g, 0, none⟩) n cp) l ((w3.setCell ⟨H + 1, 4, none⟩ (.bool true)).setCell ⟨H + 1, 5, none⟩ (.int .i64 na))) := by
            show CcSt _ _ _ _ _ _
            have e : d = { c with ha := true, age := na } := by rw [HST.out, HRE.out, hb1 rfl]; dsimp only; rw [if_neg (by rw [hha]; decide)]
            rw [e]
            exact HS4a.put (HS4a.cur.put5 _)
          have q5a := HS4a.cur.cells.2.2.2.2.2
          have f5a := HS4a.cur.frozen 5
          rw [hha] at q4
          clear hb1 hb2 hha HS4a
          go_wp2_with fail
          go_roundw
          case rel => exact ⟨k + 1, by omega, by go_num, by rw [HD.out]; exact HS4⟩
          case measure => simp [intOf]; omega
    · obtain rfl : k = n := by omega
      have HE : Hid (ccTo (l.take k) = ccR s) := by
        show _ = _
        rw [List.take_of_length_le (by rw [HN.out]; exact Nat.le_refl _)]
        unfold ccR
        rw [HLS.out]
      rw [HE.out] at HS
      obtain ⟨c, hc⟩ : ∃ c, c = ccR s := ⟨_, rfl⟩
      rw [← hc] at HS
      have HC : Hid (c = ccR s) := hc
      obtain ⟨q0, q1, q2, q3, q4, q5⟩ := HS.out.cur.cells
      obtain ⟨r0, r1, r2, r3, r4, r5⟩ := HS.out.res.cells
      have f0 := HS.out.res.frozen 0
      have f1 := HS.out.res.frozen 1
      have f2 := HS.out.res.frozen 2
      have f3 := HS.out.res.frozen 3
      have f4 := HS.out.res.frozen 4
      have f5 := HS.out.res.frozen 5
      obtain ⟨m0, m1, m2, m3, m4, m5⟩ := (HS.out.res.putAll c).cells
      have HB : Hid (Below H w (putCc wr H c)) := below_putCc HS.out.low (Nat.le_refl _) c
      clear hc HE
      unfold putCc at m0 m1 m2 m3 m4 m5 HB
      go_wp2_with fail
      refine bodyPost_ret (v := c.v) (by simp [results, Tryz.results95, go_sem, m0, m1, m2, m3, m4, m5, CcD.v]) rfl ?_
      exact ⟨by rw [HC.out], by rw [HW.out]; exact HB.out⟩

set_option maxHeartbeats 1000000 in
theorem specCcOf_any (v : Value) (n base : Nat) (fs : List (ByteArray × ByteArray)) (w : World) (hv : FieldsV w base v n fs) (hn : n ≤ 1073741824) (hsz : (getV fs ccName).size ≤ 1048576) :
    Calls Tryz.prog 85 #[v] w fun e w' => e = .returned (ccR (getV fs ccName)).v ∧ Below w.heap.size w w' := by
  have hv1 : FieldsV (w.alloc (.cells cc0.cs 113)) base v n fs := hv.below ((Below.refl _ _).alloc (Nat.le_refl _) _)
  have HR0 : Hid (CcAt (w.alloc (.cells cc0.cs 113)) w.heap.size cc0) := heap_alloc_new w _
  obtain ⟨t, ht⟩ : ∃ t, t = getV fs ccName := ⟨_, rfl⟩
  have HT : Hid (getV fs ccName = t) := ht.symm
  rw [← ht] at hsz
  obtain ⟨c, hc⟩ : ∃ c, c = ccR t := ⟨_, rfl⟩
  have HC : Hid (ccR t = c) := hc.symm
  rw [← ht, ← hc]
  clear ht hc hv
  go_enter Tryz.func85, Tryz.ntmps85
  go_wp2_with fail
  refine (specGet_any v n base fs ccName _ hv1 hn).mono ?_
  rintro e w1 ⟨rfl, rfl⟩
  rw [HT.out]
  clear hv1
  go_wp2_with fail
  refine (specCcRead_any t _ hsz).mono ?_
  rintro e w2 ⟨rfl, b2⟩
  rw [HC.out]
  have hR := HR0.out.same (b2.block _ HR0.out.lt)
  obtain ⟨r0, r1, r2, r3, r4, r5⟩ := hR.cells
  have f0 := hR.frozen 0
  have f1 := hR.frozen 1
  have f2 := hR.frozen 2
  have f3 := hR.frozen 3
  have f4 := hR.frozen 4
  have f5 := hR.frozen 5
  obtain ⟨m0, m1, m2, m3, m4, m5⟩ := (hR.putAll c).cells
  have HB : Hid (Below w.heap.size w (putCc w2 w.heap.size c)) := below_putCc (((Below.refl _ w).alloc (Nat.le_refl _) _).trans (b2.mono (by simp))) (Nat.le_refl _) c
  unfold putCc at m0 m1 m2 m3 m4 m5 HB
  clear hR b2 HR0
  unfold CcD.v
  go_wp2_with fail
  refine bodyPost_ret (v := c.v) (by simp [results, Tryz.results85, go_sem, m0, m1, m2, m3, m4, m5, CcD.v]) rfl ?_
  exact ⟨rfl, HB.out⟩

end Go.Proofs.YtlmenolcgaakeaaGreat

namespace Go.Proofs.YtlmenolcgaakeaaGreat
open Go.RowKit
open Go.Lib hiding intOf

set_option maxHeartbeats 1000000 in
theorem ccPickInt_any (c B g n : Nat) (f : Nat → Int) (a : Option Addr) (len cap : Nat) (zs : List Int) (w : World) (hcur : CurAt w c a len cap) (hcode : CodeAt w B a len zs) (hB : B ≤ c) (hn : 1 ≤ n) (hn2 : n ≤ 256) (hl : ∀ j, j < n → w.cell? ⟨g, j, none⟩ = some (.int .i64 (f j))) (hgc : g ≠ c) :
    Calls Tryz.prog 54 #[.pointer (some ⟨c, 0, none⟩), .slice (some ⟨g, 0, none⟩) n n] w fun e w' => ∃ j, j < n ∧ e = .returned (.int .i64 (f j)) ∧ CurAt w' c a len cap ∧ w.grownBy w' (some c) := by
  go_enter Tryz.func54, Tryz.ntmps54
  go_wp2_with fail
  refine (l1Below_any c B n a len cap zs _ hcur hcode hB (by omega) (by omega)).mono ?_
  rintro e w1 ⟨x, rfl, hx0, hx1, hcur1, hg1⟩
  obtain ⟨j, rfl⟩ := Int.eq_ofNat_of_zero_le hx0
  have hj : j < n := by omega
  have hcell : w1.cell? ⟨g, j, none⟩ = some (.int .i64 (f j)) := grown_cell hg1 (hl j hj) hgc
  go_wp2
  go_ret
  exact ⟨j, hj, rfl, hcur1, hg1⟩

end Go.Proofs.YtlmenolcgaakeaaGreat

namespace Go.Proofs.YtlmenolcgaakeaaGreat
open Go.RowKit
open Go.Lib hiding intOf

theorem putL_len (fs : List (ByteArray × ByteArray)) (name value : ByteArray) : (putF fs name value).length ≤ fs.length + 1 := by
  unfold putF
  split
  · rw [List.length_set]; omega
  · rw [List.length_append]; simp
theorem putL_short {fs : List (ByteArray × ByteArray)} (h : ShortF fs) {name value : ByteArray} (h1 : name.size ≤ 64) (h2 : value.size ≤ 64) : ShortF (putF fs name value) := by
  by_cases hin : atF fs name < fs.length
  · unfold putF
    rw [if_pos hin]
    intro f hf
    rcases List.mem_or_eq_of_mem_set hf with hf | hf
    · exact h f hf
    · subst hf
      refine ⟨?_, h2⟩
      first
        | exact h1
        | (unfold nameAt
           rw [List.getD_eq_getElem?_getD, List.getElem?_eq_getElem hin]
           exact (h _ (List.getElem_mem hin)).1)
  · unfold putF
    rw [if_neg hin]
    exact h.snoc h1 h2

/-- A call on the cursor answers a number. -/
def TimeDrawn (w : World) (c : Nat) (a : Option Addr) (len cap : Nat) (e : Ending) (w' : World) : Prop :=
  ∃ n : Int, e = .returned (.int .i64 n) ∧ -9223372036854775808 ≤ n ∧ n ≤ 9223372036854775807 ∧ CurAt w' c a len cap ∧ w.grownBy w' (some c)
def tmL : List Int := [-1, 1000000, 1000001, 9223372036854775807, -9223372036854775808]
theorem tmL_in : ∀ j, j < 5 → -9223372036854775808 ≤ tmL.getD j 0 ∧ tmL.getD j 0 ≤ 9223372036854775807 := by decide
set_option maxHeartbeats 1000000 in
set_option maxRecDepth 100000 in
theorem l7DrawTime_any (c B : Nat) (a : Option Addr) (len cap : Nat) (zs : List Int) (w : World) (hcur : CurAt w c a len cap) (hcode : CodeAt w B a len zs) (hB : B ≤ c) :
    Calls Tryz.prog 30 #[.pointer (some ⟨c, 0, none⟩)] w fun e w' => TimeDrawn w c a len cap e w' := by
  have HCO : Hid (∀ W, w.grownBy W (some c) → CodeAt W B a len zs) := fun W h => hcode.grown h hB
  go_enter Tryz.func30, Tryz.ntmps30
  go_wp2_with fail
  refine (l1Once_any c B 15 a len cap zs _ hcur hcode hB (by omega) (by omega)).mono ?_
  rintro e w1 ⟨hb, hcu1, hg1⟩
  obtain ⟨b, rfl⟩ := hb.out
  have HG1 : Hid (w.grownBy w1 (some c)) := hg1
  have hcl1 := hcu1.lt
  clear hb hcur hcode hg1
  cases b with
  | true =>
    have hla : ∀ j, j < 5 → (w1.alloc (.cells #[.int .i64 (-1), .int .i64 1000000, .int .i64 1000001, .int .i64 9223372036854775807, .int .i64 (-9223372036854775808)] 3)).cell? ⟨w1.heap.size, j, none⟩ = some (.int .i64 (tmL.getD j 0)) := by
      intro j hj
      rw [World.cell?_alloc_new]
      match j, hj with
      | 0, _ => rfl
      | 1, _ => rfl
      | 2, _ => rfl
      | 3, _ => rfl
      | 4, _ => rfl
    have HGA : Hid (∀ o, w.grownBy (w1.alloc o) (some c)) := fun o => grownBy_trans HG1.out (World.grownBy_alloc w1 o _)
    go_wp2_with fail
    refine (ccPickInt_any c B w1.heap.size 5 (fun j => tmL.getD j 0) a len cap zs _ (hcu1.below ((Below.refl _ _).alloc (Nat.le_refl _) _) hcl1) (HCO.out _ (HGA.out _)) hB (by omega) (by omega) (by exact hla) (by omega)).mono ?_
    rintro e w2 ⟨j, hj, rfl, hcu2, hg2⟩
    have hz := tmL_in j hj
    obtain ⟨z, hzz⟩ : ∃ z, z = tmL.getD j 0 := ⟨_, rfl⟩
    rw [← hzz] at hz ⊢
    have HG2 : Hid (w.grownBy w2 (some c)) := grownBy_trans (HGA.out _) hg2
    clear hzz hla hg2 hcu1
    go_wp2_with fail
    go_ret
    exact ⟨z, rfl, hz.1, hz.2, hcu2, HG2.out⟩
  | false =>
    go_wp2_with fail
    refine (l1Below_any c B 40 a len cap zs _ hcu1 (HCO.out _ HG1.out) hB (by omega) (by omega)).mono ?_
    rintro e w2 ⟨x, rfl, hx0, hx1, hcu2, hg2⟩
    have HG2 : Hid (w.grownBy w2 (some c)) := grownBy_trans HG1.out hg2
    clear hcu1 hg2
    go_wp2_with fail
    go_ret
    exact ⟨x, rfl, by omega, by omega, hcu2, HG2.out⟩

end Go.Proofs.YtlmenolcgaakeaaGreat

namespace Go.Proofs.YtlmenolcgaakeaaGreat
open Go.RowKit
open Go.Lib hiding intOf

set_option maxHeartbeats 1000000 in
theorem place_any (v : Value) (n base : Nat) (fs : List (ByteArray × ByteArray)) (name : ByteArray) (w : World) (hv : FieldsV w base v n fs) (hn : n ≤ 1073741824) :
    Calls Tryz.prog 67 #[v, .string name] w fun e w' => e = .returned (.int .i64 (atF fs name : Int)) ∧ w' = w := by
  have hl := hv.len
  obtain ⟨oa, cap, rfl, hrow⟩ := hv.slice
  clear hv
  go_enter Tryz.func67, Tryz.ntmps67
  go_wp2
  go_loop [8] (fun i => ∃ k : Nat, k ≤ n ∧ i = .int .i64 (k : Int) ∧ Hid (∀ j, j < k → nameAt fs j ≠ name)) (fun i => n - (intOf i).toNat)
  case atStart => exact ⟨0, Nat.zero_le _, rfl, fun j h => absurd h (by omega)⟩
  case round =>
    obtain ⟨k, hk, rfl, hb⟩ := hrel
    by_cases hlt : k < n
    · obtain ⟨g, rfl, row⟩ := hrow k hlt
      have hc := row.name k hlt
      have hlt2 : (k : Int) < (n : Int) := by omega
      clear hrow row
      by_cases he : nameAt fs k = name
      · have hT : Hid (atF fs name = k) := atF_uniq (by omega) hb.out he
        have ht : ((nameAt fs k).toList == name.toList) = true := (text_beq _ _).2 he
        clear he
        go_wp2
        go_ret
        exact ⟨by rw [hT.out]; rfl, rfl⟩
      · have ht := text_beq_no he
        have HE : Hid (nameAt fs k ≠ name) := he
        clear he
        go_wp2
        go_round
        case rel =>
          refine ⟨k + 1, by omega, by go_num, ?_⟩
          intro j hj
          by_cases e : j = k
          · subst e; exact HE.out
          · exact hb.out j (by omega)
        case measure => simp [intOf]; omega
    · have hT : Hid (atF fs name = n) := by
        have := atF_none (fs := fs) (name := name) (fun j hj => hb.out j (by omega))
        show _ = _
        omega
      clear hrow
      go_wp2
      go_ret
      exact ⟨by rw [hT.out]; rfl, rfl⟩

/-- Every text of the fields is short enough to be copied. -/
def CopyF (fs : List (ByteArray × ByteArray)) : Prop := ∀ i, i < fs.length → (nameAt fs i).size ≤ 281474976710656 ∧ (valAt fs i).size ≤ 281474976710656

set_option maxHeartbeats 1000000 in
theorem implGet_any (v : Value) (n base : Nat) (fs : List (ByteArray × ByteArray)) (name : ByteArray) (w : World) (hv : FieldsV w base v n fs) (hn : n ≤ 1073741824) (hsz : CopyF fs) :
    Calls Tryz.prog 47 #[v, .string name] w fun e w' => e = .returned (.tuple #[.string (getV fs name), .bool (getB fs name)]) ∧ Below w.heap.size w w' := by
  have hl := hv.len
  have hv0 := hv
  obtain ⟨oa, cap, rfl, hrow⟩ := hv0.slice
  clear hv0
  obtain ⟨k, hk⟩ : ∃ k, k = atF fs name := ⟨_, rfl⟩
  have hle := atF_le fs name
  by_cases hin : atF fs name < fs.length
  · have hV : Hid (getV fs name = valAt fs k) := by show _ = _; unfold getV; rw [if_pos hin, hk]
    have hB : Hid (getB fs name = true) := by show _ = _; unfold getB; simpa using hin
    obtain ⟨g, rfl, row⟩ := hrow k (by omega)
    have hc := row.val k (by omega)
    have hlt : (k : Int) < (n : Int) := by omega
    have hne : ((k : Int) == (n : Int)) = false := by rw [beq_eq_false_iff_ne]; omega
    obtain ⟨_, hz⟩ := hsz k (by omega)
    obtain ⟨vl, hvl⟩ : ∃ y, y = valAt fs k := ⟨_, rfl⟩
    rw [← hvl] at hV hc hz
    go_enter Tryz.func47, Tryz.ntmps47
    go_wp2_with fail
    refine (place_any _ n base fs name _ hv hn).mono ?_
    rintro e w1 ⟨rfl, rfl⟩
    rw [← hk]
    clear hv hrow row hk hvl hle hin hsz
    go_wp2_with fail
    refine (clone_any vl _ hz).mono ?_
    rintro e w2 ⟨rfl, hb2⟩
    go_wp2
    go_ret2
    exact ⟨by rw [hV.out, hB.out]; rfl, hb2⟩
  · have hV : Hid (getV fs name = ⟨#[]⟩) := by show _ = _; unfold getV; rw [if_neg hin]
    have hB : Hid (getB fs name = false) := by show _ = _; unfold getB; simpa using hin
    have hkn : k = n := by omega
    go_enter Tryz.func47, Tryz.ntmps47
    go_wp2_with fail
    refine (place_any _ n base fs name _ hv hn).mono ?_
    rintro e w1 ⟨rfl, rfl⟩
    rw [← hk, hkn]
    clear hv hrow hk hle hin hsz hkn
    go_wp2
    go_ret2
    exact ⟨by rw [hV.out, hB.out]; rfl, Below.refl _ _⟩

end Go.Proofs.YtlmenolcgaakeaaGreat

namespace Go.Proofs.YtlmenolcgaakeaaGreat
open Go.RowKit
open Go.Lib hiding intOf

/-- 'wpAnyH_take', its place named. -/
theorem wpAnyH_takeD {P : Program} {ops : Array Oper} {Q : Exit → Act → World → Prop} {md : Region.Mode} {S : World → Prop} {i : Nat} {oi : Oper} {v : Value} {fuel : Nat} {listed : Array Bool} {a : Act} {w : World} (d : Option Tmp) (hi : ops[i]? = some oi) (hd : oi.dst = d)
    (hs : Region.noSelect ops = true) (hf : Region.free md ops listed i = true) (hr : (Region.ready md ops listed).contains i = true)
    (hQ : ∀ c a w, Q (.panic c) (a.put oi.dst v) w → Q (.panic c) a w) (hy : YieldsIf P ops S oi v a) (hS : S w)
    (h : wpAnyH P md ops Q S fuel (listed.setIfInBounds i true) (a.put d v) w) : wpAnyH P md ops Q S (fuel + 1) listed a w :=
  wpAnyH_take hi hs hf hr hQ hy hS (hd ▸ h)
end Go.Proofs.YtlmenolcgaakeaaGreat

namespace Go.Proofs.YtlmenolcgaakeaaGreat
open Go.RowKit
open Go.Lib hiding intOf

/-- A call on the cursor answers an answer. -/
def RespDrawn (bmax : Nat) (w : World) (c : Nat) (a : Option Addr) (len cap : Nat) (e : Ending) (w' : World) : Prop :=
  ∃ (m : Int) (v : Value) (fs : List (ByteArray × ByteArray)) (b : ByteArray), e = .returned (.agg #[.int .i64 m, v, .string b]) ∧ (-1000 ≤ m ∧ m ≤ 1000) ∧ w'.ownsRow w.heap.size 75 2 v fs.length (flatF fs) ∧ fs.length ≤ 40 ∧ ShortF fs ∧ b.size ≤ bmax ∧ CurAt w' c a len cap ∧ w.grownBy w' (some c)
/-- While it is drawn: the answer's memory R, the variable r. -/
structure DResp (w : World) (c R r : Nat) (m : Int) (fv : Value) (fs : List (ByteArray × ByteArray)) (b : ByteArray) (a : Option Addr) (len cap : Nat) (W : World) : Prop where
  hR : W.heap[R]? = some (.cells #[.int .i64 0, .slice none 0 0, .string ⟨#[]⟩] 29)
  hr : W.heap[r]? = some (.cells #[.int .i64 m, fv, .string b] 29)
  own : W.ownsRow w.heap.size 75 2 fv fs.length (flatF fs)
  cur : CurAt W c a len cap
  grow : w.grownBy W (some c)
  apart : ∀ j, fv.ownBlock = some j → j ≠ R ∧ j ≠ r
theorem DResp.later {w : World} {c R r : Nat} {m : Int} {fv : Value} {fs : List (ByteArray × ByteArray)} {b : ByteArray} {a : Option Addr} {len cap : Nat} {W : World} {W' : World} (h : DResp w c R r m fv fs b a len cap W) (hcw : c < w.heap.size) (hRw : w.heap.size ≤ R) (hrw : w.heap.size ≤ r) (hcu : CurAt W' c a len cap) (hg : W.grownBy W' (some c)) : DResp w c R r m fv fs b a len cap W' := by
  refine ⟨?_, ?_, ?_, hcu, grownBy_trans h.grow hg, h.apart⟩
  · rw [hg.block R ((Array.getElem?_eq_some_iff.1 h.hR).1) (fun e => by have := Option.some.inj e; omega)]; exact h.hR
  · rw [hg.block r ((Array.getElem?_eq_some_iff.1 h.hr).1) (fun e => by have := Option.some.inj e; omega)]; exact h.hr
  · exact h.own.kept hg (by cases h2 : fv.ownBlock <;> simp; exact fun e => by have h7 := owns_ge h.own h2; omega)
theorem DResp.setStatus {w : World} {c R r : Nat} {m : Int} {fv : Value} {fs : List (ByteArray × ByteArray)} {b : ByteArray} {a : Option Addr} {len cap : Nat} {W : World} {m' : Int} (h : DResp w c R r m fv fs b a len cap W) (hcw : c < w.heap.size) (hrw : w.heap.size ≤ r) (hrR : R ≠ r) : DResp w c R r m' fv fs b a len cap (W.setCell ⟨r, 0, none⟩ (.int .i64 m')) := by
  refine ⟨?_, ?_, ?_, ?_, grown_later h.grow (grown_set W r 0 _) (fun g e => by cases e; exact hrw), h.apart⟩
  · rw [heap_setCell_other _ _ R _ (fun e => hrR e)]; exact h.hR
  · have := heap_set W r 0 _ _ _ (.int .i64 m') h.hr
    simpa using this
  · exact h.own.kept (grown_set W r 0 _) (by cases h3 : fv.ownBlock <;> simp; exact (h.apart _ h3).2)
  · obtain ⟨i, hh, hi, h4⟩ := h.cur
    refine ⟨i, hh, hi, ?_⟩
    rw [heap_setCell_other _ _ c _ (fun e => by have e2 : c = r := e; omega)]
    exact h4
theorem DResp.setFields {w : World} {c R r : Nat} {m : Int} {fv : Value} {fs : List (ByteArray × ByteArray)} {b : ByteArray} {a : Option Addr} {len cap : Nat} {W : World} {gv : Value} {gs : List (ByteArray × ByteArray)} (h : DResp w c R r m fv fs b a len cap W) (hcw : c < w.heap.size) (hrw : w.heap.size ≤ r) (hrR : R ≠ r) (hown : W.ownsRow w.heap.size 75 2 gv gs.length (flatF gs)) : DResp w c R r m gv gs b a len cap (W.setCell ⟨r, 1, none⟩ (gv)) := by
  have hap : ∀ j, gv.ownBlock = some j → j ≠ R ∧ j ≠ r := fun j hj => by
    obtain ⟨cur, hcj⟩ := owns_heap hown hj
    refine ⟨fun e => ?_, fun e => ?_⟩
    · rw [e, h.hR] at hcj
      simp at hcj
    · rw [e, h.hr] at hcj
      simp at hcj
  refine ⟨?_, ?_, ?_, ?_, grown_later h.grow (grown_set W r 1 _) (fun g e => by cases e; exact hrw), hap⟩
  · rw [heap_setCell_other _ _ R _ (fun e => hrR e)]; exact h.hR
  · have := heap_set W r 1 _ _ _ (gv) h.hr
    simpa using this
  · exact hown.kept (grown_set W r 1 _) (by cases h3 : gv.ownBlock <;> simp; exact (hap _ h3).2)
  · obtain ⟨i, hh, hi, h4⟩ := h.cur
    refine ⟨i, hh, hi, ?_⟩
    rw [heap_setCell_other _ _ c _ (fun e => by have e2 : c = r := e; omega)]
    exact h4
theorem DResp.setBody {w : World} {c R r : Nat} {m : Int} {fv : Value} {fs : List (ByteArray × ByteArray)} {b : ByteArray} {a : Option Addr} {len cap : Nat} {W : World} {b' : ByteArray} (h : DResp w c R r m fv fs b a len cap W) (hcw : c < w.heap.size) (hrw : w.heap.size ≤ r) (hrR : R ≠ r) : DResp w c R r m fv fs b' a len cap (W.setCell ⟨r, 2, none⟩ (.string b')) := by
  refine ⟨?_, ?_, ?_, ?_, grown_later h.grow (grown_set W r 2 _) (fun g e => by cases e; exact hrw), h.apart⟩
  · rw [heap_setCell_other _ _ R _ (fun e => hrR e)]; exact h.hR
  · have := heap_set W r 2 _ _ _ (.string b') h.hr
    simpa using this
  · exact h.own.kept (grown_set W r 2 _) (by cases h3 : fv.ownBlock <;> simp; exact (h.apart _ h3).2)
  · obtain ⟨i, hh, hi, h4⟩ := h.cur
    refine ⟨i, hh, hi, ?_⟩
    rw [heap_setCell_other _ _ c _ (fun e => by have e2 : c = r := e; omega)]
    exact h4
/-- The answer handed back. -/
theorem DResp.fin {w : World} {c R r : Nat} {m : Int} {fv : Value} {fs : List (ByteArray × ByteArray)} {b : ByteArray} {a : Option Addr} {len cap : Nat} {W : World} (h : DResp w c R r m fv fs b a len cap W) (hcw : c < w.heap.size) (hRw : w.heap.size ≤ R) (hm : -1000 ≤ m ∧ m ≤ 1000) (hf : fs.length ≤ 40) (hsh : ShortF fs) {bmax : Nat} (hb : b.size ≤ bmax) :
    (threeSet W R (.int .i64 m) fv (.string b)).heap[R]? = some (.cells #[.int .i64 m, fv, .string b] 29) ∧ RespDrawn bmax w c a len cap (.returned (.agg #[.int .i64 m, fv, .string b])) (threeSet W R (.int .i64 m) fv (.string b)) := by
  have hg : W.grownBy (threeSet W R (.int .i64 m) fv (.string b)) (some R) := by
    unfold threeSet
    exact grown_then (grown_then (grown_set _ _ _ _) (grown_set _ _ _ _)) (grown_set _ _ _ _)
  refine ⟨three_set h.hR _ _ _, m, fv, fs, b, rfl, hm, ?_, hf, hsh, hb, ?_, grown_later h.grow hg (fun g e => by cases e; exact hRw)⟩
  · exact h.own.kept hg (by cases h3 : fv.ownBlock <;> simp; exact (h.apart _ h3).1)
  · obtain ⟨i, hh, hi, h4⟩ := h.cur
    refine ⟨i, hh, hi, ?_⟩
    rw [hg.block c (Array.getElem?_eq_some_iff.1 h4).1 (fun e => by have := Option.some.inj e; omega)]
    exact h4
/-- How long the body is that lies there. -/
def bodyLenP (r : Nat) (W : World) : Nat := match W.cell? ⟨r, 2, none⟩ with | some (.string t) => t.size | _ => 0

set_option maxHeartbeats 4000000 in
set_option maxRecDepth 100000 in
theorem l3DrawResp_any (c B : Nat) (a : Option Addr) (len cap : Nat) (zs : List Int) (w : World) (hcur : CurAt w c a len cap) (hcode : CodeAt w B a len zs) (hB : B ≤ c) :
    Calls Tryz.prog 55 #[.pointer (some ⟨c, 0, none⟩)] w fun e w' => RespDrawn 14 w c a len cap e w' := by
  have hcw := hcur.lt
  have HCO : Hid (∀ W, w.grownBy W (some c) → CodeAt W B a len zs) := fun W h => hcode.grown h hB
  obtain ⟨R, hR⟩ : ∃ R, R = w.heap.size := ⟨_, rfl⟩
  have hg0 : w.grownBy (w.alloc (.cells #[.int .i64 0, .slice none 0 0, .string ⟨#[]⟩] 29)) (some c) := World.grownBy_alloc w _ _
  have hcu0 := hcur.below ((Below.refl _ w).alloc (Nat.le_refl _) (.cells #[.int .i64 0, .slice none 0 0, .string ⟨#[]⟩] 29)) hcw
  have hco0 := HCO.out _ hg0
  have hz0' : (w.alloc (.cells #[.int .i64 0, .slice none 0 0, .string ⟨#[]⟩] 29)).heap[R]? = some (.cells #[.int .i64 0, .slice none 0 0, .string ⟨#[]⟩] 29) := by rw [hR]; exact heap_alloc_new w _
  have hRlt : R < (w.alloc (.cells #[.int .i64 0, .slice none 0 0, .string ⟨#[]⟩] 29)).heap.size := by rw [hR]; simp
  have hRc : R ≠ c := by omega
  have hRw : w.heap.size ≤ R := by omega
  have HRE : Hid (R = w.heap.size) := hR
  obtain ⟨w0, hw0⟩ : ∃ W, W = w.alloc (.cells #[.int .i64 0, .slice none 0 0, .string ⟨#[]⟩] 29) := ⟨_, rfl⟩
  have HW0 : Hid (w0 = w.alloc (.cells #[.int .i64 0, .slice none 0 0, .string ⟨#[]⟩] 29)) := hw0
  have HS0 : Hid (w0.heap.size = w.heap.size + 1) := by show _ = _; rw [hw0]; simp
  rw [← hw0] at hg0 hcu0 hco0 hz0' hRlt
  clear hcur hcode hR hw0
  go_enter Tryz.func55, Tryz.ntmps55
  go_wp2_with fail
  rw [← HW0.out, ← HS0.out]
  refine (pickInt_new c B [200, 200, 200, 200, 404, 500, 304] 200 500 (by decide) a len cap zs w0 hcu0 hco0 hB (by decide) (by decide)).mono ?_
  rintro e w1 ⟨m, rfl, hm1, hm2, hcu1, hg1⟩
  have hm : -1000 ≤ m ∧ m ≤ 1000 := by omega
  have hga1 := grownBy_trans hg0 hg1
  have hz1' : w1.heap[R]? = some (.cells #[.int .i64 0, .slice none 0 0, .string ⟨#[]⟩] 29) := by rw [hg1.block R hRlt (fun e => hRc (Option.some.inj e))]; exact hz0'
  have hR1 : R < w1.heap.size := (Array.getElem?_eq_some_iff.1 hz1').1
  clear hg0 hg1 hcu0 hco0 hz0' hRlt
  go_wp2_with fail
  refine (l2DrawRight_any c B a len cap zs _ hcu1 (HCO.out _ hga1) hB).mono ?_
  rintro e w2 ⟨fv, fs, rfl, hown, hfl, hsh, hcu2, hg2⟩
  obtain ⟨fo, fc, rfl⟩ := slice_of_owns hown
  have hga2 := grownBy_trans hga1 hg2
  have hz2' : w2.heap[R]? = some (.cells #[.int .i64 0, .slice none 0 0, .string ⟨#[]⟩] 29) := by rw [hg2.block R hR1 (fun e => hRc (Option.some.inj e))]; exact hz1'
  have hR2 : R < w2.heap.size := (Array.getElem?_eq_some_iff.1 hz2').1
  have HOWN : Hid (w2.ownsRow w1.heap.size 75 2 (.slice fo fs.length fc) fs.length (flatF fs)) := hown
  have HSZ1 : Hid (w.heap.size ≤ w1.heap.size ∧ R < w1.heap.size ∧ c < w1.heap.size) := ⟨hga1.size, hR1, hcu1.lt⟩
  clear hg2 hga1 hcu1 hz1' hR1 hown
  go_wp2_with fail
  refine (l3DrawBody_any c B a len cap zs _ hcu2 (HCO.out _ hga2) hB).mono ?_
  rintro e w3 ⟨b, rfl, hb, hcu3, hg3⟩
  have hga3 := grownBy_trans hga2 hg3
  have hz3' : w3.heap[R]? = some (.cells #[.int .i64 0, .slice none 0 0, .string ⟨#[]⟩] 29) := by rw [hg3.block R hR2 (fun e => hRc (Option.some.inj e))]; exact hz2'
  have hR3 : R < w3.heap.size := (Array.getElem?_eq_some_iff.1 hz3').1
  have HOWN3 : Hid (w3.ownsRow w1.heap.size 75 2 (.slice fo fs.length fc) fs.length (flatF fs)) := owns_grown HOWN.out hg3 HSZ1.out.2.2
  rw [← HRE.out]
  have hs1 := HSZ1.out
  clear hg3 hga2 hcu2 hz2' hR2 HOWN
  obtain ⟨r, hr⟩ : ∃ r, r = w3.heap.size := ⟨_, rfl⟩
  have hrw : w.heap.size ≤ r := by rw [hr]; exact hga3.size
  have hrR : R ≠ r := by omega
  have HD0 : Hid (DResp w c R r m (.slice fo fs.length fc) fs b a len cap (w3.alloc (.cells #[.int .i64 m, .slice fo fs.length fc, .string b] 29))) := by
    have hgal : w3.grownBy (w3.alloc (.cells #[.int .i64 m, .slice fo fs.length fc, .string b] 29)) (some c) := World.grownBy_alloc w3 _ _
    refine ⟨?_, by rw [hr]; exact heap_alloc_new w3 _, (owns_wide HOWN3.out (by omega)).alloc _, hcu3.below ((Below.refl _ w3).alloc (Nat.le_refl _) _) hcu3.lt, grownBy_trans hga3 hgal, fun j hj => ⟨by have := owns_ge HOWN3.out hj; omega, by have := owns_lt HOWN3.out hj; omega⟩⟩
    rw [hgal.block R hR3 (fun e => hRc (Option.some.inj e))]; exact hz3'
  have HR' : Hid (r = w3.heap.size) := hr
  obtain ⟨wv, hwv⟩ : ∃ W, W = w3.alloc (.cells #[.int .i64 m, .slice fo fs.length fc, .string b] 29) := ⟨_, rfl⟩
  have HWV : Hid (wv = w3.alloc (.cells #[.int .i64 m, .slice fo fs.length fc, .string b] 29)) := hwv
  rw [← hwv] at HD0
  clear hr hz3' hR3 hcu3 hga3 hwv HOWN3 HSZ1 hs1
  go_upto_region 2 with fail
  rw [← HR'.out, ← HWV.out]
  go_wp2_with fail
  refine (l1Once_any c B 2 a len cap zs _ HD0.out.cur (HCO.out _ HD0.out.grow) hB (by omega) (by omega)).mono ?_
  rintro e wx ⟨hbb, hcux, hgx⟩
  obtain ⟨bb, rfl⟩ := hbb.out
  have HDX0 : Hid (DResp w c R r m (.slice fo fs.length fc) fs b a len cap wx) := HD0.out.later hcw hRw hrw hcux hgx
  clear hbb hcux hgx HD0 HWV HR' HW0 HS0 HRE
  cases bb with
  | false =>
    obtain ⟨⟨c0, c1, c2⟩, f0, f1, f2⟩ := three_facts HDX0.out.hr
    obtain ⟨⟨d0, d1, d2⟩, g0, g1, g2⟩ := three_facts HDX0.out.hR
    obtain ⟨hh, hfin⟩ := HDX0.out.fin (bmax := 14) hcw hRw hm (by omega) hsh (by omega)
    obtain ⟨⟨k0, k1, k2⟩, _⟩ := three_facts hh
    have HFIN : Hid _ := hfin
    unfold threeSet at k0 k1 k2
    clear hh hfin
    go_wp2_with fail
    exact bodyPost_ret (v := .agg #[.int .i64 m, (.slice fo fs.length fc), .string b]) (by simp [results, Tryz.results55, go_sem, k0, k1, k2]) rfl HFIN.out
  | true =>
    have HDX : Hid (DResp w c R r m (.slice fo fs.length fc) fs b a len cap wx.drew) := HDX0.out.later hcw hRw hrw HDX0.out.cur (grown_below ((Below.refl _ wx).drew) _)
    clear HDX0
    go_upto_region 3 with fail
    obtain ⟨wy, hwy⟩ : ∃ W, W = wx.drew := ⟨_, rfl⟩
    refine wp_region_held_drew (S := fun _ => True) (by kernel_rfl) trivial (fun _ => ?_)
    rw [← hwy]
    rw [← hwy] at HDX
    clear hwy
    refine wpAnyH_takeD (i := 0) (v := .pointer (some ⟨r, 1, none⟩)) (some 14) rfl rfl (by kernel_rfl) (by kernel_rfl) (by kernel_rfl) (fun _ _ _ h => h) (Or.inl ⟨by rfl, by intro W _; go_simp⟩) trivial ?_
    simp only [Act.put, List.setIfInBounds_toArray, List.set_cons_zero, List.set_cons_succ]
    refine wpAnyH_takeD (i := 2) (v := .pointer (some ⟨c, 0, none⟩)) (some 16) rfl rfl (by kernel_rfl) (by kernel_rfl) (by kernel_rfl) (fun _ _ _ h => h) (Or.inl ⟨by rfl, by intro W _; go_simp⟩) trivial ?_
    simp only [Act.put, List.setIfInBounds_toArray, List.set_cons_zero, List.set_cons_succ]
    refine wpAnyH_ready (rs := [1, 3]) (by kernel_rfl) (by simp) ?_
    refine AllReadyH.cons rfl (fun K hK => ?_) (AllReadyH.cons rfl (fun K hK => ?_) AllReadyH.nil)
    · obtain ⟨⟨c0, c1, c2⟩, f0, f1, f2⟩ := three_facts HDX.out.hr
      go_simp
      refine hK.out _ _ trivial (fun _ => ?_)
      clear hK K c0 c1 c2 f0 f1 f2
      refine wpAnyH_ready (rs := [3]) (by kernel_rfl) (by simp) ?_
      refine AllReadyH.cons rfl (fun K hK => ?_) AllReadyH.nil
      go_simp
      refine hK.out _ _ trivial (fun _ => ?_)
      clear hK K
      refine wpAnyH_ready (rs := [4]) (by kernel_rfl) (by simp) ?_
      refine AllReadyH.cons rfl (fun K hK => ?_) AllReadyH.nil
      go_simp
      refine (pick_new c B [⟨#[109, 97, 120, 45, 97, 103, 101, 61, 53]⟩, ⟨#[109, 97, 120, 45, 97, 103, 101, 61, 50, 48]⟩, ⟨#[109, 97, 120, 45, 97, 103, 101, 61, 57]⟩] 10 (by decide) a len cap zs wy HDX.out.cur (HCO.out _ HDX.out.grow) hB (by decide) (by decide)).mono ?_
      rintro e wb ⟨t, rfl, hts, hcub, hgb⟩
      have HDB : Hid (DResp w c R r m (.slice fo fs.length fc) fs b a len cap wb) := HDX.out.later hcw hRw hrw hcub hgb
      refine hK.out _ _ trivial (fun _ => ?_)
      clear hK K hcub hgb
      obtain ⟨⟨c0, c1, c2⟩, f0, f1, f2⟩ := three_facts HDB.out.hr
      refine wpAnyH_ready (rs := [5]) (by kernel_rfl) (by simp) ?_
      refine AllReadyH.cons rfl (fun K hK => ?_) AllReadyH.nil
      go_simp
      refine (specPut_any _ fs.length w.heap.size fs ⟨#[99, 97, 99, 104, 101, 45, 99, 111, 110, 116, 114, 111, 108]⟩ t _ (FieldsV.of_owns HDB.out.own) (by omega)).mono ?_
      rintro e wd ⟨zv, rfl, ownz, bd⟩
      obtain ⟨oz, cz, rfl⟩ := slice_of_owns ownz
      have HDD : Hid (DResp w c R r m (.slice fo fs.length fc) fs b a len cap wd) := HDB.out.later hcw hRw hrw (HDB.out.cur.below bd HDB.out.cur.lt) (grown_below bd _)
      have HDE : Hid (DResp w c R r m (.slice oz (putF fs ⟨#[99, 97, 99, 104, 101, 45, 99, 111, 110, 116, 114, 111, 108]⟩ t).length cz) (putF fs ⟨#[99, 97, 99, 104, 101, 45, 99, 111, 110, 116, 114, 111, 108]⟩ t) b a len cap (wd.setCell ⟨r, 1, none⟩ (.slice oz (putF fs ⟨#[99, 97, 99, 104, 101, 45, 99, 111, 110, 116, 114, 111, 108]⟩ t).length cz))) := HDD.out.setFields hcw hrw hrR (owns_wide ownz (by have := HDB.out.grow.size; omega))
      refine hK.out _ _ trivial (fun _ => ?_)
      clear hK K c0 c1 c2 f0 f1 f2 ownz bd HDB
      obtain ⟨⟨c0, c1, c2⟩, f0, f1, f2⟩ := three_facts HDD.out.hr
      refine wpAnyH_takeD (i := 6) (v := .pointer (some ⟨r, 1, none⟩)) (some 20) rfl rfl (by kernel_rfl) (by kernel_rfl) (by kernel_rfl) (fun _ _ _ h => h) (Or.inl ⟨by rfl, by intro W _; go_simp⟩) trivial ?_
      simp only [Act.put, List.setIfInBounds_toArray, List.set_cons_zero, List.set_cons_succ]
      refine wpAnyH_ready (rs := [7]) (by kernel_rfl) (by simp) ?_
      refine AllReadyH.cons rfl (fun K hK => ?_) AllReadyH.nil
      go_simp
      refine hK.out _ _ trivial (fun _ => ?_)
      clear hK K c0 c1 c2 f0 f1 f2 HDD
      refine wpAnyH_done (by kernel_rfl) ?_ _
      have hpl : (putF fs ⟨#[99, 97, 99, 104, 101, 45, 99, 111, 110, 116, 114, 111, 108]⟩ t).length ≤ 40 := by have := putL_len fs ⟨#[99, 97, 99, 104, 101, 45, 99, 111, 110, 116, 114, 111, 108]⟩ t; omega
      have hps : ShortF (putF fs ⟨#[99, 97, 99, 104, 101, 45, 99, 111, 110, 116, 114, 111, 108]⟩ t) := putL_short hsh (by decide) (by omega)
      obtain ⟨PF, hPF⟩ : ∃ P, P = putF fs ⟨#[99, 97, 99, 104, 101, 45, 99, 111, 110, 116, 114, 111, 108]⟩ t := ⟨_, rfl⟩
      rw [← hPF] at hpl hps HDE ⊢
      obtain ⟨np, hnp⟩ : ∃ k, k = PF.length := ⟨_, rfl⟩
      rw [← hnp] at HDE ⊢
      clear hPF hnp
      obtain ⟨⟨c0, c1, c2⟩, f0, f1, f2⟩ := three_facts HDE.out.hr
      obtain ⟨⟨d0, d1, d2⟩, g0, g1, g2⟩ := three_facts HDE.out.hR
      obtain ⟨hh, hfin⟩ := HDE.out.fin (bmax := 14) hcw hRw hm hpl hps (by omega)
      obtain ⟨⟨k0, k1, k2⟩, _⟩ := three_facts hh
      have HFIN : Hid _ := hfin
      unfold threeSet at k0 k1 k2
      clear hh hfin
      go_wp2_with fail
      exact bodyPost_ret (v := .agg #[.int .i64 m, (.slice oz np cz), .string b]) (by simp [results, Tryz.results55, go_sem, k0, k1, k2]) rfl HFIN.out
    · go_simp
      refine hK.out _ _ trivial (fun _ => ?_)
      clear hK K
      refine wpAnyH_ready (rs := [1, 4]) (by kernel_rfl) (by simp) ?_
      refine AllReadyH.cons rfl (fun K hK => ?_) (AllReadyH.cons rfl (fun K hK => ?_) AllReadyH.nil)
      · have c1a : (wy.alloc (.cells #[.string ⟨#[109, 97, 120, 45, 97, 103, 101, 61, 53]⟩, .string ⟨#[109, 97, 120, 45, 97, 103, 101, 61, 50, 48]⟩, .string ⟨#[109, 97, 120, 45, 97, 103, 101, 61, 57]⟩] 9)).cell? ⟨r, 1, none⟩ = some (.slice fo fs.length fc) := (((Below.refl _ wy).alloc (Nat.le_refl _) (.cells #[.string ⟨#[109, 97, 120, 45, 97, 103, 101, 61, 53]⟩, .string ⟨#[109, 97, 120, 45, 97, 103, 101, 61, 50, 48]⟩, .string ⟨#[109, 97, 120, 45, 97, 103, 101, 61, 57]⟩] 9)).cell (p := ⟨r, 1, none⟩) (Array.getElem?_eq_some_iff.1 HDX.out.hr).1).trans (three_facts HDX.out.hr).1.2.1
        go_simp
        refine hK.out _ _ trivial (fun _ => ?_)
        clear hK K c1a
        refine wpAnyH_ready (rs := [4]) (by kernel_rfl) (by simp) ?_
        refine AllReadyH.cons rfl (fun K hK => ?_) AllReadyH.nil
        go_simp
        refine (pick_new c B [⟨#[109, 97, 120, 45, 97, 103, 101, 61, 53]⟩, ⟨#[109, 97, 120, 45, 97, 103, 101, 61, 50, 48]⟩, ⟨#[109, 97, 120, 45, 97, 103, 101, 61, 57]⟩] 10 (by decide) a len cap zs wy HDX.out.cur (HCO.out _ HDX.out.grow) hB (by decide) (by decide)).mono ?_
        rintro e wb ⟨t, rfl, hts, hcub, hgb⟩
        have HDB : Hid (DResp w c R r m (.slice fo fs.length fc) fs b a len cap wb) := HDX.out.later hcw hRw hrw hcub hgb
        refine hK.out _ _ trivial (fun _ => ?_)
        clear hK K hcub hgb
        obtain ⟨⟨c0, c1, c2⟩, f0, f1, f2⟩ := three_facts HDB.out.hr
        refine wpAnyH_ready (rs := [5]) (by kernel_rfl) (by simp) ?_
        refine AllReadyH.cons rfl (fun K hK => ?_) AllReadyH.nil
        go_simp
        refine (specPut_any _ fs.length w.heap.size fs ⟨#[99, 97, 99, 104, 101, 45, 99, 111, 110, 116, 114, 111, 108]⟩ t _ (FieldsV.of_owns HDB.out.own) (by omega)).mono ?_
        rintro e wd ⟨zv, rfl, ownz, bd⟩
        obtain ⟨oz, cz, rfl⟩ := slice_of_owns ownz
        have HDD : Hid (DResp w c R r m (.slice fo fs.length fc) fs b a len cap wd) := HDB.out.later hcw hRw hrw (HDB.out.cur.below bd HDB.out.cur.lt) (grown_below bd _)
        have HDE : Hid (DResp w c R r m (.slice oz (putF fs ⟨#[99, 97, 99, 104, 101, 45, 99, 111, 110, 116, 114, 111, 108]⟩ t).length cz) (putF fs ⟨#[99, 97, 99, 104, 101, 45, 99, 111, 110, 116, 114, 111, 108]⟩ t) b a len cap (wd.setCell ⟨r, 1, none⟩ (.slice oz (putF fs ⟨#[99, 97, 99, 104, 101, 45, 99, 111, 110, 116, 114, 111, 108]⟩ t).length cz))) := HDD.out.setFields hcw hrw hrR (owns_wide ownz (by have := HDB.out.grow.size; omega))
        refine hK.out _ _ trivial (fun _ => ?_)
        clear hK K c0 c1 c2 f0 f1 f2 ownz bd HDB
        obtain ⟨⟨c0, c1, c2⟩, f0, f1, f2⟩ := three_facts HDD.out.hr
        refine wpAnyH_takeD (i := 6) (v := .pointer (some ⟨r, 1, none⟩)) (some 20) rfl rfl (by kernel_rfl) (by kernel_rfl) (by kernel_rfl) (fun _ _ _ h => h) (Or.inl ⟨by rfl, by intro W _; go_simp⟩) trivial ?_
        simp only [Act.put, List.setIfInBounds_toArray, List.set_cons_zero, List.set_cons_succ]
        refine wpAnyH_ready (rs := [7]) (by kernel_rfl) (by simp) ?_
        refine AllReadyH.cons rfl (fun K hK => ?_) AllReadyH.nil
        go_simp
        refine hK.out _ _ trivial (fun _ => ?_)
        clear hK K c0 c1 c2 f0 f1 f2 HDD
        refine wpAnyH_done (by kernel_rfl) ?_ _
        have hpl : (putF fs ⟨#[99, 97, 99, 104, 101, 45, 99, 111, 110, 116, 114, 111, 108]⟩ t).length ≤ 40 := by have := putL_len fs ⟨#[99, 97, 99, 104, 101, 45, 99, 111, 110, 116, 114, 111, 108]⟩ t; omega
        have hps : ShortF (putF fs ⟨#[99, 97, 99, 104, 101, 45, 99, 111, 110, 116, 114, 111, 108]⟩ t) := putL_short hsh (by decide) (by omega)
        obtain ⟨PF, hPF⟩ : ∃ P, P = putF fs ⟨#[99, 97, 99, 104, 101, 45, 99, 111, 110, 116, 114, 111, 108]⟩ t := ⟨_, rfl⟩
        rw [← hPF] at hpl hps HDE ⊢
        obtain ⟨np, hnp⟩ : ∃ k, k = PF.length := ⟨_, rfl⟩
        rw [← hnp] at HDE ⊢
        clear hPF hnp
        obtain ⟨⟨c0, c1, c2⟩, f0, f1, f2⟩ := three_facts HDE.out.hr
        obtain ⟨⟨d0, d1, d2⟩, g0, g1, g2⟩ := three_facts HDE.out.hR
        obtain ⟨hh, hfin⟩ := HDE.out.fin (bmax := 14) hcw hRw hm hpl hps (by omega)
        obtain ⟨⟨k0, k1, k2⟩, _⟩ := three_facts hh
        have HFIN : Hid _ := hfin
        unfold threeSet at k0 k1 k2
        clear hh hfin
        go_wp2_with fail
        exact bodyPost_ret (v := .agg #[.int .i64 m, (.slice oz np cz), .string b]) (by simp [results, Tryz.results55, go_sem, k0, k1, k2]) rfl HFIN.out
      · go_simp
        refine (pick_new c B [⟨#[109, 97, 120, 45, 97, 103, 101, 61, 53]⟩, ⟨#[109, 97, 120, 45, 97, 103, 101, 61, 50, 48]⟩, ⟨#[109, 97, 120, 45, 97, 103, 101, 61, 57]⟩] 10 (by decide) a len cap zs wy HDX.out.cur (HCO.out _ HDX.out.grow) hB (by decide) (by decide)).mono ?_
        rintro e wb ⟨t, rfl, hts, hcub, hgb⟩
        have HDB : Hid (DResp w c R r m (.slice fo fs.length fc) fs b a len cap wb) := HDX.out.later hcw hRw hrw hcub hgb
        refine hK.out _ _ trivial (fun _ => ?_)
        clear hK K hcub hgb
        obtain ⟨⟨c0, c1, c2⟩, f0, f1, f2⟩ := three_facts HDB.out.hr
        refine wpAnyH_ready (rs := [1]) (by kernel_rfl) (by simp) ?_
        refine AllReadyH.cons rfl (fun K hK => ?_) AllReadyH.nil
        go_simp
        refine hK.out _ _ trivial (fun _ => ?_)
        clear hK K
        refine wpAnyH_ready (rs := [5]) (by kernel_rfl) (by simp) ?_
        refine AllReadyH.cons rfl (fun K hK => ?_) AllReadyH.nil
        go_simp
        refine (specPut_any _ fs.length w.heap.size fs ⟨#[99, 97, 99, 104, 101, 45, 99, 111, 110, 116, 114, 111, 108]⟩ t _ (FieldsV.of_owns HDB.out.own) (by omega)).mono ?_
        rintro e wd ⟨zv, rfl, ownz, bd⟩
        obtain ⟨oz, cz, rfl⟩ := slice_of_owns ownz
        have HDD : Hid (DResp w c R r m (.slice fo fs.length fc) fs b a len cap wd) := HDB.out.later hcw hRw hrw (HDB.out.cur.below bd HDB.out.cur.lt) (grown_below bd _)
        have HDE : Hid (DResp w c R r m (.slice oz (putF fs ⟨#[99, 97, 99, 104, 101, 45, 99, 111, 110, 116, 114, 111, 108]⟩ t).length cz) (putF fs ⟨#[99, 97, 99, 104, 101, 45, 99, 111, 110, 116, 114, 111, 108]⟩ t) b a len cap (wd.setCell ⟨r, 1, none⟩ (.slice oz (putF fs ⟨#[99, 97, 99, 104, 101, 45, 99, 111, 110, 116, 114, 111, 108]⟩ t).length cz))) := HDD.out.setFields hcw hrw hrR (owns_wide ownz (by have := HDB.out.grow.size; omega))
        refine hK.out _ _ trivial (fun _ => ?_)
        clear hK K c0 c1 c2 f0 f1 f2 ownz bd HDB
        obtain ⟨⟨c0, c1, c2⟩, f0, f1, f2⟩ := three_facts HDD.out.hr
        refine wpAnyH_takeD (i := 6) (v := .pointer (some ⟨r, 1, none⟩)) (some 20) rfl rfl (by kernel_rfl) (by kernel_rfl) (by kernel_rfl) (fun _ _ _ h => h) (Or.inl ⟨by rfl, by intro W _; go_simp⟩) trivial ?_
        simp only [Act.put, List.setIfInBounds_toArray, List.set_cons_zero, List.set_cons_succ]
        refine wpAnyH_ready (rs := [7]) (by kernel_rfl) (by simp) ?_
        refine AllReadyH.cons rfl (fun K hK => ?_) AllReadyH.nil
        go_simp
        refine hK.out _ _ trivial (fun _ => ?_)
        clear hK K c0 c1 c2 f0 f1 f2 HDD
        refine wpAnyH_done (by kernel_rfl) ?_ _
        have hpl : (putF fs ⟨#[99, 97, 99, 104, 101, 45, 99, 111, 110, 116, 114, 111, 108]⟩ t).length ≤ 40 := by have := putL_len fs ⟨#[99, 97, 99, 104, 101, 45, 99, 111, 110, 116, 114, 111, 108]⟩ t; omega
        have hps : ShortF (putF fs ⟨#[99, 97, 99, 104, 101, 45, 99, 111, 110, 116, 114, 111, 108]⟩ t) := putL_short hsh (by decide) (by omega)
        obtain ⟨PF, hPF⟩ : ∃ P, P = putF fs ⟨#[99, 97, 99, 104, 101, 45, 99, 111, 110, 116, 114, 111, 108]⟩ t := ⟨_, rfl⟩
        rw [← hPF] at hpl hps HDE ⊢
        obtain ⟨np, hnp⟩ : ∃ k, k = PF.length := ⟨_, rfl⟩
        rw [← hnp] at HDE ⊢
        clear hPF hnp
        obtain ⟨⟨c0, c1, c2⟩, f0, f1, f2⟩ := three_facts HDE.out.hr
        obtain ⟨⟨d0, d1, d2⟩, g0, g1, g2⟩ := three_facts HDE.out.hR
        obtain ⟨hh, hfin⟩ := HDE.out.fin (bmax := 14) hcw hRw hm hpl hps (by omega)
        obtain ⟨⟨k0, k1, k2⟩, _⟩ := three_facts hh
        have HFIN : Hid _ := hfin
        unfold threeSet at k0 k1 k2
        clear hh hfin
        go_wp2_with fail
        exact bodyPost_ret (v := .agg #[.int .i64 m, (.slice oz np cz), .string b]) (by simp [results, Tryz.results55, go_sem, k0, k1, k2]) rfl HFIN.out


set_option maxHeartbeats 4000000 in
set_option maxRecDepth 100000 in
theorem l3DrawBadResp_any (c B : Nat) (a : Option Addr) (len cap : Nat) (zs : List Int) (w : World) (hcur : CurAt w c a len cap) (hcode : CodeAt w B a len zs) (hB : B ≤ c) :
    Calls Tryz.prog 33 #[.pointer (some ⟨c, 0, none⟩)] w fun e w' => RespDrawn 140 w c a len cap e w' := by
  have hcw := hcur.lt
  have HCO : Hid (∀ W, w.grownBy W (some c) → CodeAt W B a len zs) := fun W h => hcode.grown h hB
  obtain ⟨R, hR⟩ : ∃ R, R = w.heap.size := ⟨_, rfl⟩
  have hg0 : w.grownBy (w.alloc (.cells #[.int .i64 0, .slice none 0 0, .string ⟨#[]⟩] 29)) (some c) := World.grownBy_alloc w _ _
  have hcu0 := hcur.below ((Below.refl _ w).alloc (Nat.le_refl _) (.cells #[.int .i64 0, .slice none 0 0, .string ⟨#[]⟩] 29)) hcw
  have hco0 := HCO.out _ hg0
  have hz0' : (w.alloc (.cells #[.int .i64 0, .slice none 0 0, .string ⟨#[]⟩] 29)).heap[R]? = some (.cells #[.int .i64 0, .slice none 0 0, .string ⟨#[]⟩] 29) := by rw [hR]; exact heap_alloc_new w _
  have hRlt : R < (w.alloc (.cells #[.int .i64 0, .slice none 0 0, .string ⟨#[]⟩] 29)).heap.size := by rw [hR]; simp
  have hRc : R ≠ c := by omega
  have hRw : w.heap.size ≤ R := by omega
  have HRE : Hid (R = w.heap.size) := hR
  obtain ⟨w0, hw0⟩ : ∃ W, W = w.alloc (.cells #[.int .i64 0, .slice none 0 0, .string ⟨#[]⟩] 29) := ⟨_, rfl⟩
  have HW0 : Hid (w0 = w.alloc (.cells #[.int .i64 0, .slice none 0 0, .string ⟨#[]⟩] 29)) := hw0
  have HS0 : Hid (w0.heap.size = w.heap.size + 1) := by show _ = _; rw [hw0]; simp
  rw [← hw0] at hg0 hcu0 hco0 hz0' hRlt
  clear hcur hcode hR hw0
  go_enter Tryz.func33, Tryz.ntmps33
  go_wp2_with fail
  rw [← HW0.out]
  refine (l3DrawResp_any c B a len cap zs _ hcu0 hco0 hB).mono ?_
  rintro e w1 ⟨m, fv, fs, b, rfl, hm, hown, hfl, hsh, hb, hcu1, hg1⟩
  obtain ⟨fo, fc, rfl⟩ := slice_of_owns hown
  have hz1' : w1.heap[R]? = some (.cells #[.int .i64 0, .slice none 0 0, .string ⟨#[]⟩] 29) := by rw [hg1.block R hRlt (fun e => hRc (Option.some.inj e))]; exact hz0'
  have hR1 : R < w1.heap.size := (Array.getElem?_eq_some_iff.1 hz1').1
  have hga1 := grownBy_trans hg0 hg1
  have hs0 := HS0.out
  obtain ⟨r, hr⟩ : ∃ r, r = w1.heap.size := ⟨_, rfl⟩
  have hrw : w.heap.size ≤ r := by rw [hr]; exact hga1.size
  have hrR : R ≠ r := by omega
  have HD0 : Hid (DResp w c R r m (.slice fo fs.length fc) fs b a len cap (w1.alloc (.cells #[.int .i64 m, .slice fo fs.length fc, .string b] 29))) := by
    have hgal : w1.grownBy (w1.alloc (.cells #[.int .i64 m, .slice fo fs.length fc, .string b] 29)) (some c) := World.grownBy_alloc w1 _ _
    refine ⟨?_, by rw [hr]; exact heap_alloc_new w1 _, (owns_wide hown (by omega)).alloc _, hcu1.below ((Below.refl _ w1).alloc (Nat.le_refl _) _) hcu1.lt, grownBy_trans hga1 hgal, fun j hj => ⟨by have := owns_ge hown hj; omega, by have := owns_lt hown hj; omega⟩⟩
    rw [hgal.block R hR1 (fun e => hRc (Option.some.inj e))]; exact hz1'
  have HR' : Hid (r = w1.heap.size) := hr
  obtain ⟨wv, hwv⟩ : ∃ W, W = w1.alloc (.cells #[.int .i64 m, .slice fo fs.length fc, .string b] 29) := ⟨_, rfl⟩
  have HWV : Hid (wv = w1.alloc (.cells #[.int .i64 m, .slice fo fs.length fc, .string b] 29)) := hwv
  rw [← hwv] at HD0
  rw [← HRE.out]
  clear hr hz1' hR1 hcu1 hga1 hwv hown hg1 hg0 hcu0 hco0 hz0' hRlt hs0
  go_wp2_with fail
  rw [← HR'.out, ← HWV.out]
  refine (l1Below_any c B 20 a len cap zs _ HD0.out.cur (HCO.out _ HD0.out.grow) hB (by omega) (by omega)).mono ?_
  rintro e wa ⟨x, rfl, hx0, hx1, hcua, hgaa⟩
  have hda : Hid (DResp w c R r m (.slice fo fs.length fc) fs b a len cap wa) := HD0.out.later hcw hRw hrw hcua hgaa
  clear hcua hgaa HD0 HWV HR' HW0 HS0 HRE
  obtain ⟨⟨c0, c1, c2⟩, f0, f1, f2⟩ := three_facts hda.out.hr
  obtain ⟨⟨d0, d1, d2⟩, g0, g1, g2⟩ := three_facts hda.out.hR
  by_cases x0 : x = 0
  · subst x0
    have hwas : wa.heap.size = wa.heap.size := rfl
    go_wp2_with fail
    refine (pickInt_new c B [99, 100, 599, 600, -1] (-1) 600 (by decide) a len cap zs wa hda.out.cur (HCO.out _ hda.out.grow) hB (by decide) (by decide)).mono ?_
    rintro e wb ⟨y, rfl, hy0, hy1, hcub, hgb⟩
    have hdb : Hid (DResp w c R r m (.slice fo fs.length fc) fs b a len cap wb) := hda.out.later hcw hRw hrw hcub hgb
    have hdc : Hid (DResp w c R r y (.slice fo fs.length fc) fs b a len cap (wb.setCell ⟨r, 0, none⟩ (.int .i64 y))) := hdb.out.setStatus (m' := y) hcw hrw hrR
    clear c0 c1 c2 f0 f1 f2 d0 d1 d2 g0 g1 g2 hcub hgb hda hwas
    obtain ⟨⟨c0, c1, c2⟩, f0, f1, f2⟩ := three_facts hdb.out.hr
    obtain ⟨⟨i0, i1, i2⟩, j0, j1, j2⟩ := three_facts hdc.out.hr
    obtain ⟨⟨d0, d1, d2⟩, g0, g1, g2⟩ := three_facts hdc.out.hR
    obtain ⟨hh, hfin⟩ := hdc.out.fin (bmax := 140) hcw hRw ⟨by omega, by omega⟩ hfl hsh (by omega)
    obtain ⟨⟨k0, k1, k2⟩, _⟩ := three_facts hh
    have HFIN : Hid _ := hfin
    unfold threeSet at k0 k1 k2
    clear hh hfin
    go_wp2_with fail
    exact bodyPost_ret (v := .agg #[.int .i64 y, (.slice fo fs.length fc), .string b]) (by simp [results, Tryz.results33, go_sem, k0, k1, k2]) rfl HFIN.out
  · by_cases x1 : x = 1
    · subst x1
      go_wp2_with fail
      refine (l2Draw_any c B a len cap zs _ hda.out.cur (HCO.out _ hda.out.grow) hB).mono ?_
      rintro e wb ⟨gv, gs, rfl, howng, hgl, hgsh, hcub, hgb⟩
      obtain ⟨go, gc, rfl⟩ := slice_of_owns howng
      have hdb : Hid (DResp w c R r m (.slice fo fs.length fc) fs b a len cap wb) := hda.out.later hcw hRw hrw hcub hgb
      have hdc : Hid (DResp w c R r m (.slice go gs.length gc) gs b a len cap (wb.setCell ⟨r, 1, none⟩ (.slice go gs.length gc))) := hdb.out.setFields hcw hrw hrR (owns_wide howng (by have := hda.out.grow.size; omega))
      clear c0 c1 c2 f0 f1 f2 d0 d1 d2 g0 g1 g2 hcub hgb hda howng
      obtain ⟨⟨c0, c1, c2⟩, f0, f1, f2⟩ := three_facts hdb.out.hr
      obtain ⟨⟨i0, i1, i2⟩, j0, j1, j2⟩ := three_facts hdc.out.hr
      obtain ⟨⟨d0, d1, d2⟩, g0, g1, g2⟩ := three_facts hdc.out.hR
      obtain ⟨hh, hfin⟩ := hdc.out.fin (bmax := 140) hcw hRw hm hgl hgsh (by omega)
      obtain ⟨⟨k0, k1, k2⟩, _⟩ := three_facts hh
      have HFIN : Hid _ := hfin
      unfold threeSet at k0 k1 k2
      clear hh hfin
      go_wp2_with fail
      exact bodyPost_ret (v := .agg #[.int .i64 m, (.slice go gs.length gc), .string b]) (by simp [results, Tryz.results33, go_sem, k0, k1, k2]) rfl HFIN.out
    · by_cases x2 : x = 2
      · subst x2
        clear c0 c1 c2 f0 f1 f2 d0 d1 d2 g0 g1 g2
        go_wp2_with fail
        go_loopw [] (fun wr => ∃ b2 : ByteArray, b2.size ≤ 121 ∧ Hid (DResp w c R r m (.slice fo fs.length fc) fs b2 a len cap wr)) (fun wr => 122 - bodyLenP r wr)
        case atStart => exact ⟨b, by omega, hda⟩
        case round =>
          obtain ⟨b2, hb2, hdr⟩ := hrel
          have hdw : Hid (DResp w c R r m (.slice fo fs.length fc) fs b2 a len cap wr.drew) := hdr.out.later hcw hRw hrw hdr.out.cur (grown_below ((Below.refl _ wr).drew) _)
          obtain ⟨⟨c0, c1, c2⟩, f0, f1, f2⟩ := three_facts hdr.out.hr
          have HL0 : Hid (bodyLenP r wr = b2.size) := by show _ = _; unfold bodyLenP; rw [c2]
          have HA : Hid (∀ wb, CurAt wb c a len cap → wr.drew.grownBy wb (some c) → wb.cell? ⟨r, 2, none⟩ = some (.string b2) ∧ Hid (DResp w c R r m (.slice fo fs.length fc) fs b2 a len cap wb)) := fun wb h1 h2 => by
            have h3 := hdw.out.later hcw hRw hrw h1 h2
            exact ⟨(three_facts h3.hr).1.2.2, h3⟩
          clear c0 c1 f0 f1 f2
          go_wp2_with fail
          go_region_held3 (fun W => W.cell? ⟨r, 2, none⟩ = some (.string b2)) (first | assumption | go_keep) (first | (go_at_call 28; refine (l1Below_any c B 2 a len cap zs _ hdw.out.cur (HCO.out _ hdw.out.grow) hB (by omega) (by omega)).mono ?_; rintro e wb ⟨y, rfl, hy0, hy1, hcub, hgb⟩; obtain ⟨hcb3, hdb⟩ := HA.out wb hcub hgb; have hwy : IntKind.i64.wrap (120 + y) = 120 + y := by rw [IntKind.wrap_i64]; omega))
          clear hcub hgb hdw HA c2
          have hdc : Hid (DResp w c R r m (.slice fo fs.length fc) fs (b2 ++ ⟨#[98]⟩) a len cap (wb.setCell ⟨r, 2, none⟩ (.string (b2 ++ ⟨#[98]⟩)))) := hdb.out.setBody (b' := b2 ++ (⟨#[98]⟩ : ByteArray)) hcw hrw hrR
          obtain ⟨⟨c0, c1, c2⟩, f0, f1, f2⟩ := three_facts hdb.out.hr
          obtain ⟨⟨d0, d1, d2⟩, g0, g1, g2⟩ := three_facts hdb.out.hR
          have e98 : (⟨#[98]⟩ : ByteArray).size = 1 := rfl
          by_cases hlt : (b2.size : Int) < 120 + y
          · have HL1 : Hid (bodyLenP r (wb.setCell ⟨r, 2, none⟩ (.string (b2 ++ ⟨#[98]⟩))) = b2.size + 1) := by
              show _ = _
              have := (three_facts hdc.out.hr).1.2.2
              unfold bodyLenP; rw [this]; simp only [ByteArray.size_append]; omega
            have q1 : ¬ 9223372036854775807 < b2.size + 1 := by omega
            clear d0 d1 d2 g0 g1 g2
            go_wp2
            go_roundw
            case rel => exact ⟨_, by simp only [ByteArray.size_append]; omega, hdc⟩
            case measure => rw [HL1.out, HL0.out]; omega
          · have hdec : decide ((b2.size : Int) < 120 + y) = false := by simpa using hlt
            clear hdc hdr hda HL0
            obtain ⟨hh, hfin⟩ := hdb.out.fin (bmax := 140) hcw hRw hm hfl hsh (by omega)
            obtain ⟨⟨k0, k1, k2⟩, _⟩ := three_facts hh
            have HFIN : Hid _ := hfin
            unfold threeSet at k0 k1 k2
            clear hh hfin
            go_wp2_with fail
            exact bodyPost_ret (v := .agg #[.int .i64 m, (.slice fo fs.length fc), .string b2]) (by simp [results, Tryz.results33, go_sem, k0, k1, k2]) rfl HFIN.out
      · have e0 : (x == 0) = false := by rw [beq_eq_false_iff_ne]; exact x0
        have e1 : (x == 1) = false := by rw [beq_eq_false_iff_ne]; exact x1
        have e2 : (x == 2) = false := by rw [beq_eq_false_iff_ne]; exact x2
        obtain ⟨hh, hfin⟩ := hda.out.fin (bmax := 140) hcw hRw hm hfl hsh (by omega)
        obtain ⟨⟨k0, k1, k2⟩, _⟩ := three_facts hh
        have HFIN : Hid _ := hfin
        unfold threeSet at k0 k1 k2
        clear hh hfin
        go_wp2_with fail
        exact bodyPost_ret (v := .agg #[.int .i64 m, (.slice fo fs.length fc), .string b]) (by simp [results, Tryz.results33, go_sem, k0, k1, k2]) rfl HFIN.out


end Go.Proofs.YtlmenolcgaakeaaGreat

namespace Go.Proofs.YtlmenolcgaakeaaGreat
open Go.RowKit
open Go.Lib hiding intOf

/-- A block's content behind a call. -/
theorem blk_below {W W' : World} {r : Nat} {o : Obj} (h : W.heap[r]? = some o) (b : Below W.heap.size W W') : W'.heap[r]? = some o := by
  rw [b.block r (Array.getElem?_eq_some_iff.1 h).1]; exact h
theorem own_ne {W : World} {r : Nat} {cs : Array Value} {T t : TypeId} {base size n : Nat} {v : Value} {xs : List Value} (ho : W.ownsRow base t size v n xs) (h : W.heap[r]? = some (.cells cs T)) (hT : T ≠ t) (j : Nat) (hj : v.ownBlock = some j) : j ≠ r := fun e => by
  subst e
  rcases ho.2 with ⟨rfl, _⟩ | ⟨g, cap, cur, rfl, _, h1, _⟩
  · cases hj
  · cases hj
    rw [h] at h1
    cases h1
    exact hT rfl
end Go.Proofs.YtlmenolcgaakeaaGreat

namespace Go.Proofs.YtlmenolcgaakeaaGreat
open Go.RowKit
open Go.Lib hiding intOf

def varyName : ByteArray := ⟨#[118, 97, 114, 121]⟩
def dashT : ByteArray := ⟨#[45]⟩
/-- The names that an answer hangs on. -/
def varyP (fs : List (ByteArray × ByteArray)) : List ByteArray := (splitL (getV fs varyName)).map lowerOf
/-- What fields tell of a name. -/
def valOf (fs : List (ByteArray × ByteArray)) (x : ByteArray) : ByteArray := if getB fs x = true then getV fs x else dashT
def valsP (xs : List ByteArray) (fs : List (ByteArray × ByteArray)) : List ByteArray := xs.map (valOf fs)
theorem valsP_len (xs : List ByteArray) (fs : List (ByteArray × ByteArray)) : (valsP xs fs).length = xs.length := by simp [valsP]
/-- A list of texts that is read. -/
def TextsA (w : World) (oa : Option Addr) (n : Nat) (xs : List ByteArray) : Prop :=
  xs.length = n ∧ ∀ i, i < n → ∃ g, oa = some ⟨g, 0, none⟩ ∧ g < w.heap.size ∧ w.cell? ⟨g, i, none⟩ = some (.string (textAt xs i))
theorem TextsA.below {w w' : World} {oa : Option Addr} {n : Nat} {xs : List ByteArray} (h : TextsA w oa n xs) (hb : Below w.heap.size w w') : TextsA w' oa n xs :=
  ⟨h.1, fun i hi => by
    obtain ⟨g, h1, h2, h3⟩ := h.2 i hi
    exact ⟨g, h1, Nat.lt_of_lt_of_le h2 hb.size, by rw [hb.cell (p := ⟨g, i, none⟩) h2]; exact h3⟩⟩
theorem texts_own {w : World} {base n : Nat} {v : Value} {xs : List ByteArray} (h : w.ownsRow base 9 1 v n (xs.map Value.string)) : ∃ oa cap, v = .slice oa n cap ∧ TextsA w oa n xs := by
  have hl : xs.length = n := by have := h.1; simpa using this
  rcases row_form h with ⟨oa, ca, rfl, rfl, rfl⟩ | ⟨g, cap, rfl, hp, r⟩
  · exact ⟨oa, ca, rfl, rfl, fun i hi => absurd hi (by omega)⟩
  · exact ⟨_, _, rfl, hl, fun i hi => ⟨g, rfl, r.lt, r.cell i hi⟩⟩

/-- The first j texts in small letters. -/
def loTo (xs : List ByteArray) (j : Nat) : List ByteArray := (xs.take j).map lowerOf ++ xs.drop j
theorem loTo_zero (xs : List ByteArray) : loTo xs 0 = xs := by simp [loTo]
theorem loTo_all (xs : List ByteArray) (j : Nat) (h : xs.length ≤ j) : loTo xs j = xs.map lowerOf := by
  simp [loTo, List.take_of_length_le h, List.drop_of_length_le h]
theorem loTo_at (xs : List ByteArray) (j : Nat) : textAt (loTo xs j) j = textAt xs j := by
  unfold textAt loTo
  rw [List.getD_eq_getElem?_getD, List.getD_eq_getElem?_getD]
  by_cases h : j < xs.length
  · rw [List.getElem?_append_right (by simp; omega), List.length_map, List.length_take, Nat.min_eq_left (by omega), Nat.sub_self, List.getElem?_drop, Nat.add_zero]
  · rw [List.getElem?_eq_none (by simp; omega), List.getElem?_eq_none (by omega)]
theorem loTo_step (xs : List ByteArray) (j : Nat) (h : j < xs.length) : (loTo xs j).set j (lowerOf (textAt xs j)) = loTo xs (j + 1) := by
  have e : xs.drop j = textAt xs j :: xs.drop (j + 1) := by
    rw [List.drop_eq_getElem_cons h]
    congr 1
    unfold textAt
    rw [List.getD_eq_getElem?_getD, List.getElem?_eq_getElem h]
    rfl
  have e2 : xs.take (j + 1) = xs.take j ++ [textAt xs j] := by
    rw [List.take_add_one, List.getElem?_eq_getElem h]
    unfold textAt
    rw [List.getD_eq_getElem?_getD, List.getElem?_eq_getElem h]
    rfl
  unfold loTo
  rw [List.set_append_right _ _ (by simp; omega), List.length_map, List.length_take, Nat.min_eq_left (by omega), Nat.sub_self, e, List.set_cons_zero, e2, List.map_append]
  simp
theorem valsP_snoc (xs : List ByteArray) (fs : List (ByteArray × ByteArray)) (i : Nat) (h : i < xs.length) : valsP (xs.take (i + 1)) fs = valsP (xs.take i) fs ++ [valOf fs (textAt xs i)] := by
  rw [List.take_add_one, List.getElem?_eq_getElem h]
  unfold textAt valsP
  rw [List.getD_eq_getElem?_getD, List.getElem?_eq_getElem h, List.map_append]
  rfl

set_option maxHeartbeats 1000000 in
set_option maxRecDepth 100000 in
theorem specVaryOf_any (v : Value) (n base : Nat) (fs : List (ByteArray × ByteArray)) (w : World) (hv : FieldsV w base v n fs) (hn : n ≤ 1073741824) (hsz : (getV fs varyName).size ≤ 1048576) :
    Calls Tryz.prog 41 #[v] w fun e w' => RowIs w.heap.size (varyP fs) w e w' := by
  obtain ⟨s, hs⟩ : ∃ s, s = getV fs varyName := ⟨_, rfl⟩
  have HS : Hid (getV fs varyName = s) := hs.symm
  have HE : Hid (varyP fs = (splitL s).map lowerOf) := by show _ = _; unfold varyP; rw [HS.out]
  rw [← hs] at hsz
  obtain ⟨hl1, hl2⟩ := splitL_le s
  clear hs
  go_enter Tryz.func41, Tryz.ntmps41
  go_wp2_with fail
  refine (specGet_any v n base fs varyName _ hv hn).mono ?_
  rintro e w1 ⟨rfl, rfl⟩
  rw [HS.out]
  clear hv
  go_wp2_with fail
  refine (specSplit_any s _ hsz).mono ?_
  rintro e w2 ⟨V, rfl, O, b2⟩
  obtain ⟨xs, hxs⟩ : ∃ xs, xs = splitL s := ⟨_, rfl⟩
  rw [← hxs] at hl1 hl2 O HE
  obtain ⟨m, hm⟩ : ∃ m, m = xs.length := ⟨_, rfl⟩
  rw [← hm] at hl1 O
  have HM : Hid (xs.length = m) := hm.symm
  have H2 : Hid (∀ x ∈ xs, x.size ≤ s.size) := hl2
  clear hxs hm hl2
  rcases row_form O with ⟨oa, ca, rfl, h0, h1⟩ | ⟨g, cap, rfl, hp, r1⟩
  · subst h0 h1
    go_wp2_with fail
    refine wp_loop_rounds 1 ?_
    rw [rounds_succ]
    go_wp2_with fail
    go_ret
    exact RowIs.of (by rw [HE.out]; rfl) rfl O b2
  · clear O
    have HB2 : Hid (Below w1.heap.size w1 w2) := b2
    have HR1 : Hid (TextRow w1.heap.size w2 g m cap (loTo xs 0)) := by show TextRow _ _ _ _ _ _; rw [loTo_zero]; exact r1
    clear b2 r1
    go_wp2_with fail
    go_loopw [6] (fun i wr => ∃ j : Nat, j ≤ m ∧ i = .int .i64 (j : Int) ∧ Hid (Below w1.heap.size w1 wr) ∧ Hid (TextRow w1.heap.size wr g m cap (loTo xs j))) (fun i _ => m - (intOf i).toNat)
    case atStart => exact ⟨0, Nat.zero_le _, rfl, HB2, HR1⟩
    case round =>
      obtain ⟨j, hj, rfl, HB, HR⟩ := hrel
      by_cases hlt : j < m
      · have hlt2 : (j : Int) < (m : Int) := by omega
        obtain ⟨x, hx⟩ : ∃ x, x = textAt xs j := ⟨_, rfl⟩
        have hc := HR.out.cell j hlt
        rw [loTo_at, ← hx] at hc
        have HST : Hid ((loTo xs j).set j (lowerOf x) = loTo xs (j + 1)) := by show _ = _; rw [hx]; exact loTo_step xs j (by rw [HM.out]; exact hlt)
        have hxz : x.size ≤ 1048576 := by
          refine Nat.le_trans (H2.out x ?_) hsz
          rw [hx]
          unfold textAt
          rw [List.getD_eq_getElem?_getD, List.getElem?_eq_getElem (by rw [HM.out]; exact hlt)]
          exact List.getElem_mem _
        clear hx
        go_wp2_with fail
        refine (specLower_any x _ hxz).mono ?_
        rintro e w3 ⟨rfl, hb3⟩
        have hrow := HR.out.below hb3 HR.out.lt
        have hc3 := hrow.cell j hlt
        have hf3 := hrow.frozen j
        have HB3 : Hid (Below w1.heap.size w1 (w3.setCell ⟨g, j, none⟩ (.string (lowerOf x)))) := (HB.out.trans (hb3.mono HB.out.size)).setCell HR.out.base _
        have HR3 : Hid (TextRow w1.heap.size (w3.setCell ⟨g, j, none⟩ (.string (lowerOf x))) g m cap (loTo xs (j + 1))) := by
          show TextRow _ _ _ _ _ _
          rw [← HST.out]
          exact hrow.set j hlt _
        clear hb3 hrow HB HR HST hc
        go_wp2_with fail
        go_roundw
        case rel => exact ⟨j + 1, by omega, by go_num, HB3, HR3⟩
        case measure => simp [intOf]; omega
      · obtain rfl : j = m := by omega
        go_wp2_with fail
        go_ret
        exact RowIs.of (by rw [HE.out, loTo_all xs j (by rw [HM.out]; exact Nat.le_refl _)]) (by rw [loTo_all xs j (by rw [HM.out]; exact Nat.le_refl _), List.length_map, HM.out]) HR.out.owns HB.out

set_option maxHeartbeats 1000000 in
set_option maxRecDepth 100000 in
theorem specValuesOf_any (oa : Option Addr) (m cm : Nat) (xs : List ByteArray) (v : Value) (n base : Nat) (fs : List (ByteArray × ByteArray)) (w : World) (hx : TextsA w oa m xs) (hm : m ≤ 1048577) (hv : FieldsV w base v n fs) (hn : n ≤ 1073741824) :
    Calls Tryz.prog 75 #[.slice oa m cm, v] w fun e w' => RowIs w.heap.size (valsP xs fs) w e w' := by
  obtain ⟨i0, hi, hz0, hz1, hz2⟩ := info_parts info9
  have HLEN : Hid (xs.length = m) := hx.1
  have HX : Hid (∀ W, Below w.heap.size w W → TextsA W oa m xs) := fun W h => hx.below h
  have HV : Hid (∀ W, Below w.heap.size w W → FieldsV W base v n fs) := fun W h => hv.below h
  clear hx hv
  go_enter Tryz.func75, Tryz.ntmps75
  have H0 : Hid ((w.alloc (Obj.cells #[] 9)).ownsRow w.heap.size 9 1 (.slice (some ⟨w.heap.size, 0, none⟩) 0 0) 0 (([] : List ByteArray).map Value.string)) := ⟨rfl, .inr ⟨w.heap.size, 0, #[], rfl, Nat.le_refl _, heap_alloc_new w _, Nat.le_refl _, Nat.zero_le _, rfl, rfl⟩⟩
  go_wp2_with fail
  go_loopw [5, 6] (fun a c wr => ∃ (i : Nat) (ys : List ByteArray), c = .int .i64 (i : Int) ∧ i ≤ m ∧ ys.length = i ∧ Hid (wr.ownsRow w.heap.size 9 1 a ys.length (ys.map Value.string)) ∧ Hid (Below w.heap.size w wr) ∧ Hid (ys = valsP (xs.take i) fs)) (fun _ c _ => m - (intOf c).toNat)
  case atStart => exact ⟨0, [], rfl, by omega, rfl, H0, (Below.refl _ _).alloc (Nat.le_refl _) _, rfl⟩
  case round =>
    obtain ⟨i, ys, rfl, hi', hyl, HO, HB, HE⟩ := hrel
    have h63 : ys.length + 1 ≤ maxLen := by unfold maxLen; omega
    have h47 : (ys.length + 1) * 16 ≤ 140737488355328 := by omega
    have HYL : Hid (ys.length = i) := hyl
    clear hyl
    by_cases hlt : (i : Int) < (m : Int)
    · obtain ⟨g, rfl, hg, hc⟩ := (HX.out wr HB.out).2 i (by omega)
      obtain ⟨x, hxx⟩ : ∃ x, x = textAt xs i := ⟨_, rfl⟩
      rw [← hxx] at hc
      have HE2 : Hid (ys ++ [valOf fs x] = valsP (xs.take (i + 1)) fs) := by
        show _ = _
        rw [valsP_snoc xs fs i (by rw [HLEN.out]; omega), HE.out, hxx]
      clear hxx
      go_wp2_with fail
      refine (specGet_any v n base fs x _ (HV.out _ HB.out) hn).mono ?_
      rintro e w2 ⟨rfl, rfl⟩
      obtain ⟨s, hs⟩ : ∃ s, s = getV fs x := ⟨_, rfl⟩
      obtain ⟨th, hth⟩ : ∃ b, b = getB fs x := ⟨_, rfl⟩
      rw [← hs, ← hth]
      obtain ⟨y, hy⟩ : ∃ y, y = valOf fs x := ⟨_, rfl⟩
      rw [← hy] at HE2
      have HY : Hid (y = if th = true then s else dashT) := by show _ = _; rw [hy, hs, hth]; rfl
      have HBS : ∀ o, w.heap.size ≤ (w2.alloc o).heap.size := fun o => by have := HB.out.size; simp; omega
      clear hc hs hth hy HE
      cases th with
      | true =>
        have HY2 : Hid (s = y) := by show _ = _; rw [HY.out]; rfl
        rw [HY2.out]
        go_wp2_with (at_builtin; refine wpList_append_own _ rfl _ _ 26 rfl w.heap.size 9 i0 (.string ⟨#[]⟩) 1 16 Tryz.underlying26 hi hz0 hz1 hz2 rfl (by decide) _ _ _ rfl (HO.out.alloc _) ⟨w2.heap.size, 0, none⟩ 1 1 [.string y] rfl rfl (cell_one_new _ _ _) (one_text _) h63 h47 (HBS _) ?_)
        intro v3 w3 hown3 hgrow3 _
        have HB3 : Hid (Below w.heap.size w w3) := ((HB.out.alloc HB.out.size _).grown hgrow3 (HBS _) (fun g hg => owns_ge HO.out hg))
        have HO3 : Hid (w3.ownsRow w.heap.size 9 1 v3 (ys ++ [y]).length ((ys ++ [y]).map Value.string)) := by
          show World.ownsRow _ _ _ _ _ _ _
          rw [List.length_append, List.map_append]
          exact hown3
        clear hown3 hgrow3 HBS HB HO HY HY2
        go_wp2_with fail
        go_roundw
        case rel => exact ⟨i + 1, ys ++ [y], by go_num, by omega, by rw [List.length_append, HYL.out]; rfl, HO3, HB3, HE2⟩
        case measure => simp [intOf]; omega
      | false =>
        have HY2 : Hid (y = ⟨#[45]⟩) := by show _ = _; rw [HY.out]; rfl
        rw [HY2.out] at HE2
        go_wp2_with (at_builtin; refine wpList_append_own _ rfl _ _ 26 rfl w.heap.size 9 i0 (.string ⟨#[]⟩) 1 16 Tryz.underlying26 hi hz0 hz1 hz2 rfl (by decide) _ _ _ rfl (HO.out.alloc _) ⟨w2.heap.size, 0, none⟩ 1 1 [.string ⟨#[45]⟩] rfl rfl (cell_one_new _ _ _) (one_text _) h63 h47 (HBS _) ?_)
        intro v3 w3 hown3 hgrow3 _
        have HB3 : Hid (Below w.heap.size w w3) := ((HB.out.alloc HB.out.size _).grown hgrow3 (HBS _) (fun g hg => owns_ge HO.out hg))
        have HO3 : Hid (w3.ownsRow w.heap.size 9 1 v3 (ys ++ [(⟨#[45]⟩ : ByteArray)]).length ((ys ++ [(⟨#[45]⟩ : ByteArray)]).map Value.string)) := by
          show World.ownsRow _ _ _ _ _ _ _
          rw [List.length_append, List.map_append]
          exact hown3
        clear hown3 hgrow3 HBS HB HO HY HY2
        go_wp2_with fail
        go_roundw
        case rel => exact ⟨i + 1, ys ++ [(⟨#[45]⟩ : ByteArray)], by go_num, by omega, by rw [List.length_append, HYL.out]; rfl, HO3, HB3, HE2⟩
        case measure => simp [intOf]; omega
    · obtain rfl : i = m := by omega
      have hE := HE.out
      rw [List.take_of_length_le (by rw [HLEN.out]; exact Nat.le_refl _)] at hE
      have HE3 : Hid (ys = valsP xs fs) := hE
      clear hE HE
      go_wp2_with fail
      go_ret
      exact RowIs.of HE3.out rfl HO.out HB.out

end Go.Proofs.YtlmenolcgaakeaaGreat

namespace Go.Proofs.YtlmenolcgaakeaaGreat
open Go.RowKit
open Go.Lib hiding intOf

theorem cell_of {W : World} {R : Nat} {cs : Array Value} {t : TypeId} (h : W.heap[R]? = some (.cells cs t)) (i : Nat) : W.cell? ⟨R, i, none⟩ = cs[i]? := by simp [World.cell?, h]
theorem frozen_of {W : World} {R : Nat} {cs : Array Value} {t : TypeId} (h : W.heap[R]? = some (.cells cs t)) (i : Nat) : W.frozen? ⟨R, i, none⟩ = false := by simp [World.frozen?, h]
/-- Rows of two types lie apart. -/
theorem own_type_ne {W : World} {b1 b2 z1 z2 n1 n2 : Nat} {t1 t2 : TypeId} {v1 v2 : Value} {xs ys : List Value} (h1 : W.ownsRow b1 t1 z1 v1 n1 xs) (h2 : W.ownsRow b2 t2 z2 v2 n2 ys) (ht : t1 ≠ t2) (j : Nat) (hj : v1.ownBlock = some j) : v2.ownBlock ≠ some j := fun e => by
  rcases h1.2 with ⟨rfl, _⟩ | ⟨g, cap, cur, rfl, _, k1, _⟩
  · cases hj
  · cases hj
    rcases h2.2 with ⟨rfl, _⟩ | ⟨g2, cap2, cur2, rfl, _, k2, _⟩
    · cases e
    · cases e
      rw [k1] at k2
      cases k2
      exact ht rfl
/-- A row whose block lies from there on is owned from there on. -/
theorem owns_lift {w : World} {B base : Nat} {e : TypeId} {size : Nat} {v : Value} {n : Nat} {xs : List Value} (h : w.ownsRow base e size v n xs) (hB : ∀ g, v.ownBlock = some g → B ≤ g) : w.ownsRow B e size v n xs := by
  refine ⟨h.1, ?_⟩
  rcases h.2 with h0 | ⟨g, cap, cur, rfl, _, h1⟩
  · exact .inl h0
  · exact .inr ⟨g, cap, cur, rfl, hB g rfl, h1⟩
end Go.Proofs.YtlmenolcgaakeaaGreat

namespace Go.Proofs.YtlmenolcgaakeaaGreat
open Go.RowKit
open Go.Lib hiding intOf

theorem cur_set {W : World} {c q : Nat} {a : Option Addr} {len cap : Nat} (h : CurAt W c a len cap) (hne : q ≠ c) (o : Nat) (v : Value) : CurAt (W.setCell ⟨q, o, none⟩ v) c a len cap := by
  obtain ⟨i, x, hi, hh⟩ := h
  exact ⟨i, x, hi, by rw [heap_setCell_other _ _ c _ (fun e => hne e.symm)]; exact hh⟩
theorem own_cur {W : World} {base size n c : Nat} {t : TypeId} {v : Value} {xs : List Value} {a : Option Addr} {len cap : Nat} (ho : W.ownsRow base t size v n xs) (h : CurAt W c a len cap) (hT : 60 ≠ t) (j : Nat) (hj : v.ownBlock = some j) : j ≠ c := by
  obtain ⟨i, x, hi, hh⟩ := h
  exact own_ne ho hh hT j hj
theorem grown_own {w W : World} {q : Nat} {row : Option Nat} (h : w.grownBy W row) (hq : w.heap.size ≤ q) (o : Nat) (v : Value) : w.grownBy (W.setCell ⟨q, o, none⟩ v) row :=
  ⟨h.os, h.tape, h.output, by rw [World.size_setCell]; exact h.size, fun i hi hne => by rw [heap_setCell_other _ _ i _ (fun e => by have e2 : i = q := e; omega)]; exact h.block i hi hne⟩
theorem grown_row {w W W' : World} {row r2 : Option Nat} (h : w.grownBy W row) (h2 : W.grownBy W' r2) (hr : ∀ g, r2 = some g → w.heap.size ≤ g) : w.grownBy W' row :=
  ⟨h2.os.trans h.os, h2.tape.trans h.tape, h2.output.trans h.output, Nat.le_trans h.size h2.size, fun i hi hne => (h2.block i (Nat.lt_of_lt_of_le hi h.size) (fun e => by have := hr i e.symm; omega)).trans (h.block i hi hne)⟩
end Go.Proofs.YtlmenolcgaakeaaGreat
