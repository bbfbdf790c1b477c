/- 'l3Dent' of the specification: a text turned in one place: contract over the translation. -/
import Derived.Test.YtkpnacopljceaaaDoorMsgDrawn
import Derived.Deep.RegionLaw
namespace Go.Proofs.YtkpnacopljceaaaDoor
open Go.RowKit
open Go.Lib hiding intOf

set_option maxHeartbeats 1000000 in
set_option maxRecDepth 100000 in
theorem l3Dent_any (c B : Nat) (s : ByteArray) (f : Nat → ByteArray) (g n : Nat) (hxs : ∀ j, j < n → (f j).size ≤ 64) (hn1 : 1 ≤ n) (hn2 : n ≤ 256) (a : Option Addr) (len cap : Nat) (zs : List Int) (w : World) (hcur : CurAt w c a len cap) (hcode : CodeAt w B a len zs) (hB : B ≤ c) (hs : s.size ≤ 20000) (hgc : g ≠ c) (hl : ListAt w g n f) :
    Calls Tryd.prog 34 #[.pointer (some ⟨c, 0, none⟩), .string s, .slice (some ⟨g, 0, none⟩) n n] w fun e w' => TextDrawn 20064 w c a len cap e w' := by
  have HX : Hid (∀ j, j < n → (f j).size ≤ 64) := hxs
  have HL : Hid (∀ W, w.grownBy W (some c) → ListAt W g n f) := fun W h j hj => grown_cell h (hl j hj) hgc
  have HCO : Hid (∀ W, w.grownBy W (some c) → CodeAt W B a len zs) := fun W h => hcode.grown h hB
  clear hxs hl
  go_enter Tryd.func34, Tryd.ntmps34
  go_wp2_with fail
  refine (l1Below_all c B ((s.size : Int) + 1) a len cap zs _ hcur hcode hB (by omega) (by omega)).mono ?_
  rintro e w1 ⟨x, rfl, hx0, hx1, hcu1, hg1⟩
  obtain ⟨k, rfl⟩ := Int.eq_ofNat_of_zero_le hx0
  have hks : k ≤ s.size := by omega
  have hki : (k : Int) ≤ (s.size : Int) := by omega
  clear hcur hcode
  go_wp2_with fail
  refine (l1Below_any c B 5 a len cap zs _ hcu1 (HCO.out _ hg1) hB (by omega) (by omega)).mono ?_
  rintro e w2 ⟨y, rfl, hy0, hy1, hcu2, hg2⟩
  have hg3 := grownBy_trans hg1 hg2
  clear hcu1 hg1 hg2
  by_cases y0 : y = 0
  · subst y0
    go_wp2_with fail
    go_ret
    exact ⟨_, rfl, by simp; omega, hcu2, hg3⟩
  · have e0 : (y == 0) = false := by rw [beq_eq_false_iff_ne]; exact y0
    by_cases y1 : y = 1
    · subst y1
      have HG : Hid (w.grownBy w2.drew (some c)) := grownBy_trans hg3 (grown_below ((Below.refl _ w2).drew) _)
      have HP : Hid (∀ W, w2.drew.grownBy W (some c) → w.grownBy W (some c)) := fun W h => grownBy_trans HG.out h
      have HCD : Hid (CurAt w2.drew c a len cap) := hcu2.below ((Below.refl _ w2).drew) hcu2.lt
      have hk0 : (0 : Int) ≤ (k : Int) := by omega
      have ZZ : Hid (∀ t : ByteArray, t.size ≤ 64 → ¬ 9223372036854775807 < k + t.size ∧ ¬ 9223372036854775807 < k + t.size + (s.size - k)) := fun t h => ⟨by omega, by omega⟩
      clear hy0 hy1 e0 hx0 hx1 y0
      clear hcu2 hg3
      go_wp2_with fail
      go_region_law (first | (go_simp; go_at_call 45; refine (l1Pick_any c B g n f a len cap zs _ HCD.out (HCO.out _ HG.out) hB hn1 hn2 (HL.out _ HG.out) hgc).mono ?_; rintro e w3 ⟨j, hj, rfl, hcu3, hg4⟩; have hg5 := HP.out w3 hg4; have hts := HX.out j hj; obtain ⟨r1, r2⟩ := ZZ.out _ hts; clear hg4))
      go_wp2_with fail
      go_ret
      exact ⟨_, rfl, by simp only [ByteArray.size_append, ByteArray.size_extract]; omega, hcu3, hg5⟩
    · have e1 : (y == 1) = false := by rw [beq_eq_false_iff_ne]; exact y1
      go_wp2_with fail
      go_ret
      exact ⟨_, rfl, by omega, hcu2, hg3⟩

end Go.Proofs.YtkpnacopljceaaaDoor
