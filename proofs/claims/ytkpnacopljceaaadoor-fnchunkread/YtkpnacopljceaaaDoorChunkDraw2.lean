/- 'l4DrawSizes', 'DrawChunkText', 'DrawChunkRead' of the specification: contracts over the translation. -/
import Derived.Test.YtkpnacopljceaaaDoorChunkDraw
import Derived.Test.YtkpnacopljceaaaDoorChunkLaw
namespace Go.Proofs.YtkpnacopljceaaaDoor
open Go.RowKit
open Go.Lib hiding intOf

def intsC (xs : List Int) : List Value := xs.map (Value.int .i64)
/-- Sizes that were drawn: a list of one's own. -/
def SizesDrawn (w : World) (c : Nat) (a : Option Addr) (len cap : Nat) (e : Ending) (w' : World) : Prop :=
  ∃ (v : Value) (xs : List Int), e = .returned v ∧ w'.ownsRow w.heap.size 3 1 v xs.length (intsC xs) ∧ xs.length ≤ 6 ∧ CurAt w' c a len cap ∧ w.grownBy w' (some c)
theorem one_int (z : Int) : ∀ u ∈ [(Value.int .i64 z)], u.oneCell' = true := by intro u hu; simp at hu; subst hu; rfl
theorem intsC_snoc (xs : List Int) (z : Int) : intsC (xs ++ [z]) = intsC xs ++ [.int .i64 z] := by simp [intsC]
theorem ints_of_owns {w : World} {base : Nat} {v : Value} {xs : List Int} (h : w.ownsRow base 3 1 v xs.length (intsC xs)) : ∃ oa cp, v = .slice oa xs.length cp ∧ IntsV w oa xs.length xs := by
  obtain ⟨hl, hv⟩ := h
  rcases hv with ⟨rfl, h0⟩ | ⟨g, cap, cur, rfl, hb, h1, h2, h3, h4, h5⟩
  · refine ⟨none, 0, by rw [h0], rfl, fun i hi => by omega⟩
  · refine ⟨_, cap, rfl, rfl, fun i hi => ⟨g, rfl, (Array.getElem?_eq_some_iff.1 h1).1, ?_⟩⟩
    have e : cur.toList[i]? = some (.int .i64 (xs.getD i 0)) := by
      have h6 : (List.take (xs.length * 1) cur.toList)[i]? = some (.int .i64 (xs.getD i 0)) := by
        rw [h5]
        unfold intsC
        rw [List.getElem?_map, List.getD_eq_getElem?_getD, List.getElem?_eq_getElem hi]
        rfl
      rw [List.getElem?_take_of_lt (by omega)] at h6
      exact h6
    have e2 : cur[i]? = some (.int .i64 (xs.getD i 0)) := by rw [← e]; simp
    simp [World.cell?, h1, e2]

set_option maxHeartbeats 1000000 in
set_option maxRecDepth 100000 in
theorem l4DrawSizes_any (c B : Nat) (a : Option Addr) (len cap : Nat) (zs : List Int) (w : World) (hcur : CurAt w c a len cap) (hcode : CodeAt w B a len zs) (hB : B ≤ c) :
    Calls Tryd.prog 23 #[.pointer (some ⟨c, 0, none⟩)] w fun e w' => SizesDrawn w c a len cap e w' := by
  obtain ⟨i0, hi, hz0, hz1, hz2⟩ := info_parts infoI
  have hcw := hcur.lt
  have HCO : Hid (∀ W, w.grownBy W (some c) → CodeAt W B a len zs) := fun W h => hcode.grown h hB
  have hcu0 : CurAt (w.alloc (.cells #[] 3)) c a len cap := hcur.below ((Below.refl _ _).alloc (Nat.le_refl _) _) hcw
  have hg0 : w.grownBy (w.alloc (.cells #[] 3)) (some c) := World.grownBy_alloc w _ _
  have hown0 : (w.alloc (.cells #[] 3)).ownsRow w.heap.size 3 1 (.slice (some ⟨w.heap.size, 0, none⟩) 0 0) 0 (intsC []) := ⟨rfl, .inr ⟨w.heap.size, 0, #[], rfl, Nat.le_refl _, heap_alloc_new w _, Nat.le_refl _, Nat.zero_le _, rfl, rfl⟩⟩
  clear hcur hcode
  go_enter Tryd.func23, Tryd.ntmps23
  go_wp2
  go_loopw [3, 4] (fun v i wr => ∃ (k : Nat) (xs : List Int), k ≤ 6 ∧ i = .int .i64 (k : Int) ∧ xs.length = k ∧ wr.ownsRow w.heap.size 3 1 v xs.length (intsC xs) ∧ CurAt wr c a len cap ∧ w.grownBy wr (some c)) (fun _ i _ => 6 - (intOf i).toNat)
  case atStart => exact ⟨0, [], by omega, rfl, rfl, hown0, hcu0, hg0⟩
  case round =>
    obtain ⟨k, xs, hk, rfl, hxl, hown, hcu, hg⟩ := hrel
    obtain ⟨oa, cp, rfl⟩ := slice_of_owns hown
    have HXL : Hid (xs.length = k) := hxl
    have hx6 : xs.length ≤ 6 := by omega
    clear hxl
    go_wp2_with fail
    refine (l1Below_any c B 6 a len cap zs _ hcu (HCO.out _ hg) hB (by omega) (by omega)).mono ?_
    rintro e w1 ⟨y, rfl, hy0, hy1, hcu1, hg1⟩
    have hown1 := owns_grown hown hg1 hcw
    have hgw1 := grownBy_trans hg hg1
    clear hcu hg hg1 hown
    by_cases hlt : (k : Int) < y
    · have hk6 : k < 6 := by omega
      go_wp2_with fail
      refine (pickInt_new c B [0, 1, 2, 5, 7, 17, -1, 100] (-1) 100 (by decide) a len cap zs w1 hcu1 (HCO.out _ hgw1) hB (by decide) (by decide)).mono ?_
      rintro e w2 ⟨z, rfl, _, _, hcu2, hg2⟩
      have hown2 := owns_grown hown1 hg2 hcw
      have hgw2 := grownBy_trans hgw1 hg2
      have hcl2 := hcu2.lt
      clear hcu1 hg2 hown1 hgw1
      have h63 : xs.length + 1 ≤ maxLen := by unfold maxLen; omega
      have h47 : (xs.length + 1) * 8 ≤ 140737488355328 := by omega
      have hsw2 := hgw2.size
      have HBS : ∀ o, w.heap.size ≤ (w2.alloc o).heap.size := fun o => by simp; omega
      go_wp2_with (at_builtin; refine wpList_append_own _ rfl _ _ 24 rfl w.heap.size 3 i0 (.int .i64 0) 1 8 Tryd.underlying24 hi hz0 hz1 hz2 rfl (by decide) _ _ _ rfl (hown2.alloc _) ⟨w2.heap.size, 0, none⟩ 1 1 [.int .i64 z] rfl rfl (cell_one_new _ _ _) (one_int _) h63 h47 (HBS _) ?_)
      intro v3 w3 hown3 hgrow _
      have hgw3 : w.grownBy w3 (some c) := grown_later (grownBy_allocR hgw2 _) hgrow (fun g hg => owns_ge hown2 hg)
      have hcu3 : CurAt w3 c a len cap := (hcu2.below ((Below.refl _ _).alloc (Nat.le_refl _) _) hcl2).grown hgrow (fun e => by have := owns_ge hown2 e; omega)
      have HO3 : Hid (w3.ownsRow w.heap.size 3 1 v3 (xs ++ [z]).length (intsC (xs ++ [z]))) := by
        show World.ownsRow _ _ _ _ _ _ _
        rw [intsC_snoc, List.length_append]
        exact hown3
      clear hgrow hown2 hcu2 hgw2 HBS hown3
      go_wp2
      go_roundw
      case rel => exact ⟨k + 1, xs ++ [z], by omega, by go_num, by rw [List.length_append, HXL.out]; rfl, HO3.out, hcu3, hgw3⟩
      case measure => simp [intOf]; omega
    · go_wp2_with fail
      go_ret
      exact ⟨_, xs, rfl, hown1, by omega, hcu1, hgw1⟩

theorem ctext_size (body : ByteArray) (zs : List Int) : (ctext body zs).size ≤ body.size + 9 * (zs.length + 1) + 5 := by
  have h := ctTo_facts body zs (zs.length + 1)
  have e : (⟨#[48, 13, 10, 13, 10]⟩ : ByteArray).size = 5 := rfl
  unfold ctext
  rw [ByteArray.size_append, e]
  omega
/-- A body and sizes that were drawn out of a code. -/
def PartsGot (w : World) (e : Ending) (w' : World) : Prop :=
  ∃ (s : ByteArray) (oa : Option Addr) (cp : Nat) (xs : List Int), e = .returned (.tuple #[.string s, .slice oa xs.length cp]) ∧ s.size ≤ 121 ∧ xs.length ≤ 6 ∧ IntsV w' oa xs.length xs ∧ Below w.heap.size w w'
set_option maxHeartbeats 1000000 in
set_option maxRecDepth 100000 in
theorem DrawChunkText_any (a : Option Addr) (len cap : Nat) (zs : List Int) (w : World) (hcode : CodeAt w w.heap.size a len zs) :
    Calls Tryd.prog 9 #[.slice a len cap] w fun e w' => PartsGot w e w' := by
  go_enter Tryd.func9, Tryd.ntmps9
  go_wp2_with fail
  refine (l1New_any w.heap.size a len cap zs _ hcode).mono ?_
  rintro e w1 ⟨rfl, hcu1, hb1⟩
  have hco1 := hcode.below hb1
  obtain ⟨c, hc⟩ : ∃ c, c = w.heap.size := ⟨_, rfl⟩
  rw [← hc] at hcu1 hco1
  rw [← hc]
  have hcge : w.heap.size ≤ c := by omega
  clear hc hcode
  go_wp2_with fail
  refine (l4DrawBody_any c c a len cap zs _ hcu1 hco1 (Nat.le_refl _)).mono ?_
  rintro e w2 ⟨s, rfl, hs, hcu2, hg2⟩
  have hb2 := below_of_grown hb1 hg2 (by omega)
  have hco2 := hco1.grown hg2 (Nat.le_refl _)
  clear hcu1 hco1 hg2 hb1
  go_wp2_with fail
  refine (l4DrawSizes_any c c a len cap zs _ hcu2 hco2 (Nat.le_refl _)).mono ?_
  rintro e w3 ⟨v, xs, rfl, hown, hxl, _, hg3⟩
  have hb3 := below_of_grown hb2 hg3 (by omega)
  obtain ⟨oa, cp, rfl, hv⟩ := ints_of_owns hown
  have HV : Hid (IntsV w3 oa xs.length xs) := hv
  clear hcu2 hco2 hg3 hb2 hown hv
  obtain ⟨n, hn⟩ : ∃ n, n = xs.length := ⟨_, rfl⟩
  rw [← hn]
  have HN : Hid (n = xs.length) := hn
  rw [← hn] at hxl
  clear hn
  go_wp2_with fail
  go_ret2
  exact ⟨s, oa, cp, xs, by rw [← HN.out]; rfl, hs, by rw [← HN.out]; exact hxl, HV.out, hb3⟩

def dent4 : List ByteArray := [⟨#[48]⟩, ⟨#[102]⟩, ⟨#[13]⟩, ⟨#[10]⟩, ⟨#[13, 10]⟩, ⟨#[103]⟩, ⟨#[48, 48]⟩, ⟨#[49, 13, 10, 120, 13, 10]⟩]
theorem dent4_short : ∀ j, j < 8 → (textAt dent4 j).size ≤ 64 := by decide
set_option maxHeartbeats 1000000 in
set_option maxRecDepth 100000 in
theorem DrawChunkRead_any (a : Option Addr) (len cap : Nat) (zs : List Int) (w : World) (hcode : CodeAt w w.heap.size a len zs) :
    Calls Tryd.prog 14 #[.slice a len cap] w fun e w' => ∃ t : ByteArray, e = .returned (.string t) ∧ t.size ≤ 30000 ∧ Below w.heap.size w w' := by
  go_enter Tryd.func14, Tryd.ntmps14
  go_wp2_with fail
  refine (l1New_any w.heap.size a len cap zs _ hcode).mono ?_
  rintro e w1 ⟨rfl, hcu1, hb1⟩
  have hco1 := hcode.below hb1
  obtain ⟨c, hc⟩ : ∃ c, c = w.heap.size := ⟨_, rfl⟩
  rw [← hc] at hcu1 hco1
  rw [← hc]
  have hcge : w.heap.size ≤ c := by omega
  clear hc hcode
  go_wp2_with fail
  refine (l4DrawBody_any c c a len cap zs _ hcu1 hco1 (Nat.le_refl _)).mono ?_
  rintro e w2 ⟨s, rfl, hs, hcu2, hg2⟩
  have hb2 := below_of_grown hb1 hg2 (by omega)
  have hco2 := hco1.grown hg2 (Nat.le_refl _)
  clear hcu1 hco1 hg2 hb1
  go_wp2_with fail
  refine (l4DrawSizes_any c c a len cap zs _ hcu2 hco2 (Nat.le_refl _)).mono ?_
  rintro e w3 ⟨v, xs, rfl, hown, hxl, hcu3, hg3⟩
  have hb3 := below_of_grown hb2 hg3 (by omega)
  have hco3 := hco2.grown hg3 (Nat.le_refl _)
  obtain ⟨oa, cp, rfl, hv⟩ := ints_of_owns hown
  clear hcu2 hco2 hg3 hb2 hown
  have hcs := ctext_size s xs
  obtain ⟨t1, ht1⟩ : ∃ t, t = ctext s xs := ⟨_, rfl⟩
  rw [← ht1] at hcs
  have HT1 : Hid (ctext s xs = t1) := ht1.symm
  clear ht1
  go_wp2_with fail
  refine (specChunkText_any s oa xs.length cp xs _ hv (by omega) (by omega)).mono ?_
  rintro e w4 ⟨rfl, b4⟩
  rw [HT1.out]
  have hb4 := hb3.trans (b4.mono hb3.size)
  have hco4 := hco3.grown (grown_below b4 _) (Nat.le_refl _)
  have hcu4 := hcu3.below b4 hcu3.lt
  clear hcu3 hco3 b4 hb3 hv
  have DENT : ∀ (W : World) (u : ByteArray), u.size ≤ 20000 → CurAt W c a len cap → CodeAt W c a len zs → Below w.heap.size w W →
      Calls Tryd.prog 34 #[.pointer (some ⟨c, 0, none⟩), .string u, .slice (some ⟨W.heap.size, 0, none⟩) 8 8] (W.alloc (.cells #[.string ⟨#[48]⟩, .string ⟨#[102]⟩, .string ⟨#[13]⟩, .string ⟨#[10]⟩, .string ⟨#[13, 10]⟩, .string ⟨#[103]⟩, .string ⟨#[48, 48]⟩, .string ⟨#[49, 13, 10, 120, 13, 10]⟩] 9)) fun e w' => ∃ t : ByteArray, e = .returned (.string t) ∧ t.size ≤ 30000 ∧ Below w.heap.size w w' := by
    intro W u hu hcu hco hb
    have hbb : Below W.heap.size W (W.alloc (.cells #[.string ⟨#[48]⟩, .string ⟨#[102]⟩, .string ⟨#[13]⟩, .string ⟨#[10]⟩, .string ⟨#[13, 10]⟩, .string ⟨#[103]⟩, .string ⟨#[48, 48]⟩, .string ⟨#[49, 13, 10, 120, 13, 10]⟩] 9)) := (Below.refl _ _).alloc (Nat.le_refl _) _
    have hlt := hcu.lt
    refine (l3Dent_any c c u (textAt dent4) W.heap.size 8 dent4_short (by omega) (by omega) a len cap zs _ (hcu.below hbb hlt) (hco.grown (grown_below hbb _) (Nat.le_refl _)) (Nat.le_refl _) hu (by omega) (listAt_alloc W dent4)).mono ?_
    rintro e w' ⟨t, rfl, ht, _, hg⟩
    exact ⟨t, rfl, by omega, below_of_grown (hb.trans (hbb.mono hb.size)) hg hcge⟩
  have HD : Hid _ := DENT
  clear DENT
  go_wp2_with fail
  refine (l1Once_any c c 4 a len cap zs _ hcu4 hco4 (Nat.le_refl _) (by omega) (by omega)).mono ?_
  rintro e w5 ⟨⟨b, rfl⟩, hcu5, hg5⟩
  have hb5 := below_of_grown hb4 hg5 (by omega)
  have hco5 := hco4.grown hg5 (Nat.le_refl _)
  clear hcu4 hco4 hg5 hb4
  cases b
  · go_wp2_with fail
    refine (HD.out w5 t1 (by omega) hcu5 hco5 hb5).mono ?_
    rintro e w6 ⟨t, rfl, ht, hb6⟩
    clear hcu5 hco5 hb5
    go_wp2_with fail
    go_ret
    exact ⟨t, rfl, ht, hb6⟩
  · go_wp2_with fail
    refine (l1DrawText_any c c a len cap zs _ hcu5 hco5 (Nat.le_refl _)).mono ?_
    rintro e w6 ⟨u, rfl, hu, hcu6, hg6⟩
    have hb6 := below_of_grown hb5 hg6 (by omega)
    have hco6 := hco5.grown hg6 (Nat.le_refl _)
    have q : ¬ 9223372036854775807 < t1.size + u.size := by omega
    clear hcu5 hco5 hg6 hb5
    go_wp2_with fail
    refine (HD.out w6 (t1 ++ u) (by rw [ByteArray.size_append]; omega) hcu6 hco6 hb6).mono ?_
    rintro e w7 ⟨t, rfl, ht, hb7⟩
    clear hcu6 hco6 hb6
    go_wp2_with fail
    go_ret
    exact ⟨t, rfl, ht, hb7⟩

end Go.Proofs.YtkpnacopljceaaaDoor
