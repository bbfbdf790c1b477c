/- What chapter 4's laws draw out of a code: a number, a body and sizes, a text of parts: contracts over the translation. -/
import Derived.Test.YtkpnacopljceaaaDoorChunkTextS
import Derived.Test.YtkpnacopljceaaaDoorMsgDentA
namespace Go.Proofs.YtkpnacopljceaaaDoor
open Go.RowKit
open Go.Lib hiding intOf

set_option maxHeartbeats 1000000 in
theorem DrawHex_any (a : Option Addr) (len cap : Nat) (zs : List Int) (w : World) (hcode : CodeAt w w.heap.size a len zs) :
    Calls Tryd.prog 16 #[.slice a len cap] w fun e w' => ∃ n : Int, e = .returned (.int .i64 n) ∧ -1 ≤ n ∧ n ≤ 1000001 ∧ Below w.heap.size w w' := by
  go_enter Tryd.func16, Tryd.ntmps16
  go_wp2_with fail
  refine (l1New_any w.heap.size a len cap zs _ hcode).mono ?_
  rintro e w1 ⟨rfl, hcu1, hb1⟩
  have hco1 := hcode.below hb1
  obtain ⟨c, hc⟩ : ∃ c, c = w.heap.size := ⟨_, rfl⟩
  rw [← hc] at hcu1 hco1
  rw [← hc]
  have hcge : w.heap.size ≤ c := by omega
  clear hc hcode
  go_wp2_with fail
  refine (pickInt_new c c [0, 1, 9, 10, 15, 16, 255, 4096, 1000000, 1000001, -1] (-1) 1000001 (by decide) a len cap zs w1 hcu1 hco1 (Nat.le_refl _) (by decide) (by decide)).mono ?_
  rintro e w2 ⟨n, rfl, h1, h2, _, hg2⟩
  have hb2 := below_of_grown hb1 hg2 (by omega)
  clear hcu1 hco1 hg2 hb1
  go_wp2_with fail
  go_ret
  exact ⟨n, rfl, h1, h2, hb2⟩

set_option maxHeartbeats 1000000 in
theorem l4DrawBody_any (c B : Nat) (a : Option Addr) (len cap : Nat) (zs : List Int) (w : World) (hcur : CurAt w c a len cap) (hcode : CodeAt w B a len zs) (hB : B ≤ c) :
    Calls Tryd.prog 22 #[.pointer (some ⟨c, 0, none⟩)] w fun e w' => TextDrawn 121 w c a len cap e w' := by
  have HCO : Hid (∀ W, w.grownBy W (some c) → CodeAt W B a len zs) := fun W h => hcode.grown h hB
  go_enter Tryd.func22, Tryd.ntmps22
  go_wp2_with fail
  refine (l3DrawBody_any c B a len cap zs _ hcur hcode hB).mono ?_
  rintro e w1 ⟨t, rfl, ht, hcu1, hg1⟩
  clear hcur hcode
  go_wp2_with fail
  refine (l1Once_any c B 9 a len cap zs _ hcu1 (HCO.out _ hg1) hB (by omega) (by omega)).mono ?_
  rintro e w2 ⟨⟨b, rfl⟩, hcu2, hg2⟩
  have hg3 := grownBy_trans hg1 hg2
  clear hcu1 hg1 hg2
  cases b
  · go_wp2_with fail
    go_ret
    exact ⟨t, rfl, by omega, hcu2, hg3⟩
  · go_wp2_with fail
    go_loopw [3] (fun x wr => ∃ u : ByteArray, x = .string u ∧ u.size ≤ 121 ∧ CurAt wr c a len cap ∧ w.grownBy wr (some c)) (fun x _ => 122 - (match x with | .string u => u.size | _ => 0))
    case atStart => exact ⟨t, rfl, by omega, hcu2, hg3⟩
    case round =>
      obtain ⟨u, rfl, hu, hcu, hg⟩ := hrel
      go_wp2_with fail
      refine (l1Below_any c B 2 a len cap zs _ hcu (HCO.out _ hg) hB (by omega) (by omega)).mono ?_
      rintro e w4 ⟨y, rfl, hy0, hy1, hcu4, hg4⟩
      have hg5 := grownBy_trans hg hg4
      clear hcu hg hg4
      by_cases hlt : (u.size : Int) < 120 + y
      · have q : ¬ 9223372036854775807 < u.size + 1 := by omega
        have e1 : (⟨#[113]⟩ : ByteArray).size = 1 := rfl
        go_wp2_with fail
        go_roundw
        case rel => exact ⟨u ++ ⟨#[113]⟩, rfl, by rw [ByteArray.size_append, e1]; omega, hcu4, hg5⟩
        case measure => simp only [ByteArray.size_append, e1]; omega
      · go_wp2_with fail
        go_ret
        exact ⟨u, rfl, hu, hcu4, hg5⟩

end Go.Proofs.YtkpnacopljceaaaDoor
