/- 'l4Digit', 'Hex', 'l1Min', 'l1Max', 'ChunkText' of the specification: contracts over the translation. -/
import Derived.Test.YtfgapdididdcaaaChunkTextP
import Derived.Test.YtfgapdididdcaaaMsgSpec
import Derived.Test.YtfgapdididdcaaaNum
import Derived.Deep.RegionLaw
namespace Go.Proofs.Ytfgapdididdcaaa
open Go.RowKit
open Go.Lib hiding intOf

def hxI (d : Int) : Int := if d < 10 then 48 + d else 87 + d
theorem conv_byte (W : World) (d : Int) : (convert 22 9 (.slice (some ⟨W.heap.size, 0, none⟩) 1 1)).run Try.prog (W.alloc (.cells #[.int .u8 d] 5)) = .ok (.string (strOfNums [d])) (W.alloc (.cells #[.int .u8 d] 5)) :=
  run_convert_bytes_arg (P := Try.prog) (W.alloc (.cells #[.int .u8 d] 5)) 22 5 Try.underlying22 Try.underlying5 W.heap.size 0 1 1 [d] rfl (fun i hi => by
    have : i = 0 := by omega
    subst this
    simp) 9 Try.underlying9
theorem hx_byte (m : Nat) : (strOfNums [hxI ((m : Int) % 16)]).data.toList = [hxB (m % 16)] := by
  rw [strOfNums_data]
  unfold hxI hxB
  by_cases h : m % 16 < 10
  · rw [if_pos (by omega), if_pos h]
    have : (48 + (m : Int) % 16).toNat = 48 + m % 16 := by omega
    simp only [List.map_cons, List.map_nil, this]
  · rw [if_neg (by omega), if_neg h]
    have : (87 + (m : Int) % 16).toNat = 87 + m % 16 := by omega
    simp only [List.map_cons, List.map_nil, this]

/-- A list of ints that a function reads. -/
def IntsV (w : World) (oa : Option Addr) (n : Nat) (zs : List Int) : Prop := zs.length = n ∧ ∀ i, i < n → ∃ g, oa = some ⟨g, 0, none⟩ ∧ g < w.heap.size ∧ w.cell? ⟨g, i, none⟩ = some (.int .i64 (zs.getD i 0))
theorem IntsV.below {w w' : World} {oa : Option Addr} {n : Nat} {zs : List Int} (h : IntsV w oa n zs) (hb : Below w.heap.size w w') : IntsV w' oa n zs :=
  ⟨h.1, fun i hi => by
    obtain ⟨g, e, hg, hc⟩ := h.2 i hi
    exact ⟨g, e, Nat.lt_of_lt_of_le hg hb.size, by rw [hb.cell (p := ⟨g, i, none⟩) hg]; exact hc⟩⟩

end Go.Proofs.Ytfgapdididdcaaa
