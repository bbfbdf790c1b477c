/- What chapter 3's law draws out of a code: a request; a text that may be one of a request: contracts over the translation. -/
import Derived.Test.YtkpnacopljceaaaDoorMsgDrawBad
namespace Go.Proofs.YtkpnacopljceaaaDoor
open Go.RowKit
open Go.Lib hiding intOf

set_option maxHeartbeats 1000000 in
theorem l1Below_all (c B : Nat) (m : Int) (a : Option Addr) (len cap : Nat) (zs : List Int) (w : World) (hcur : CurAt w c a len cap) (hcode : CodeAt w B a len zs) (hB : B ≤ c) (hm : 1 ≤ m) (hm2 : m ≤ 65536) :
    Calls Tryd.prog 42 #[.pointer (some ⟨c, 0, none⟩), .int .i64 m] w fun e w' => DrawIs m w c a len cap e w' := by
  by_cases h256 : m ≤ 256
  · exact l1Below_any c B m a len cap zs w hcur hcode hB hm h256
  · have hm0 : ¬ m ≤ 0 := by omega
    go_enter Tryd.func42, Tryd.ntmps42
    go_wp2_with fail
    refine (l1Byte_any c B a len cap zs _ hcur hcode hB).mono ?_
    rintro e w1 ⟨x, rfl, hx0, hx1, hcur1, hg1⟩
    have hco1 := hcode.grown hg1 hB
    go_wp2_with fail
    refine (l1Byte_any c B a len cap zs _ hcur1 hco1 hB).mono ?_
    rintro e w2 ⟨y, rfl, hy0, hy1, hcur2, hg2⟩
    have hg3 := grownBy_trans hg1 hg2
    have hco2 := hcode.grown hg3 hB
    go_wp2_with fail
    refine (l1Byte_any c B a len cap zs _ hcur2 hco2 hB).mono ?_
    rintro e w3 ⟨z, rfl, hz0, hz1, hcur3, hg4⟩
    have hg5 := grownBy_trans hg3 hg4
    have hco3 := hcode.grown hg5 hB
    go_wp2_with fail
    refine (l1Byte_any c B a len cap zs _ hcur3 hco3 hB).mono ?_
    rintro e w4 ⟨u, rfl, hu0, hu1, hcur4, hg6⟩
    have hg7 := grownBy_trans hg5 hg6
    clear hcur hcode hcur1 hco1 hg1 hg2 hg3 hco2 hcur2 hcur3 hg4 hg5 hco3 hg6
    go_wp2_with fail
    go_ret
    exact ⟨_, rfl, Int.emod_nonneg _ (by omega), Int.emod_lt_of_pos _ (by omega), hcur4, hg7⟩

end Go.Proofs.YtkpnacopljceaaaDoor
