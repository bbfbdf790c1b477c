/- What the exact laws of chapter 4 lean on: lists of ints that came in, copied and compared: contracts over the translation. -/
import Derived.Test.YtffjnfaneeejnaaChunkTextS
import Derived.Test.YtffjnfaneeejnaaFieldLaw
import Derived.Deep.RegionHeld3
import Derived.Deep.DrawnRows
namespace Go.Proofs.Ytffjnfaneeejnaa
open Go.RowKit
open Go.Lib hiding intOf
attribute [local go_sem ↓] Go.wp_at_zero Go.wp_at_succ

/-- A list of ints among the arguments. -/
structure ArgI (w : World) (B : Nat) (a : Option Addr) (n : Nat) (zs : List Int) : Prop where
  len : zs.length = n
  get : ∀ i, i < n → ∃ b off, a = some ⟨b, off, none⟩ ∧ b < B ∧ w.cell? ⟨b, off + i, none⟩ = some (.int .i64 (zs.getD i 0))
theorem ArgI.below {w w' : World} {B : Nat} {a : Option Addr} {n : Nat} {zs : List Int} (h : ArgI w B a n zs) (hb : Below B w w') : ArgI w' B a n zs :=
  ⟨h.len, fun i hi => by
    obtain ⟨b, off, e, hB, hc⟩ := h.get i hi
    exact ⟨b, off, e, hB, by rw [hb.cell (p := ⟨b, off + i, none⟩) hB]; exact hc⟩⟩
theorem infoI : (Try.prog.info? 3).map (fun i => (i.zero, i.size, i.bytes)) = some (some (.int .i64 0), 1, 8) := by kernel_rfl
/-- A row of ints, the first k laid. -/
def PartI (w : World) (g n k : Nat) (zs : List Int) : Prop := ∃ cur, w.heap[g]? = some (.cells cur 3 (0, 0)) ∧ cur.size = n ∧ ∀ i, i < k → cur[i]? = some (.int .i64 (zs.getD i 0))
theorem PartI.lt {w : World} {g n k : Nat} {zs : List Int} (h : PartI w g n k zs) : g < w.heap.size := by
  obtain ⟨cur, h1, _⟩ := h
  exact (Array.getElem?_eq_some_iff.1 h1).1
theorem PartI.cell {w : World} {g n k : Nat} {zs : List Int} (h : PartI w g n k zs) (j : Nat) (hj : j < n) : ∃ u, w.cell? ⟨g, j, none⟩ = some u := by
  obtain ⟨cur, h1, h2, _⟩ := h
  exact ⟨cur[j]'(by omega), by simp [World.cell?, h1, h2, hj]⟩
theorem PartI.frozen {w : World} {g n k : Nat} {zs : List Int} (h : PartI w g n k zs) (j : Nat) : w.frozen? ⟨g, j, none⟩ = false := by
  obtain ⟨cur, h1, _⟩ := h
  simp [World.frozen?, h1]
theorem PartI.put {w : World} {g n k : Nat} {zs : List Int} (h : PartI w g n k zs) (hk : k < n) : PartI (w.setCell ⟨g, k, none⟩ (.int .i64 (zs.getD k 0))) g n (k + 1) zs := by
  obtain ⟨cur, h1, h2, h3⟩ := h
  refine ⟨_, heap_set _ _ _ _ _ _ _ h1, by simp [h2], fun i hi => ?_⟩
  by_cases e : i = k
  · subst e; simp [h2, hk]
  · rw [Array.getElem?_setIfInBounds_ne (fun e' => e e'.symm)]
    exact h3 i (by omega)
theorem PartI.ints {w : World} {g n : Nat} {zs : List Int} (h : PartI w g n n zs) (hl : zs.length = n) : IntsV w (some ⟨g, 0, none⟩) n zs := by
  have hg := h.lt
  obtain ⟨cur, h1, h2, h3⟩ := h
  exact ⟨hl, fun i hi => ⟨g, rfl, hg, by simp [World.cell?, h1, h3 i hi]⟩⟩

set_option maxHeartbeats 1000000 in
theorem toIntS_any (B : Nat) (a : Option Addr) (n cap : Nat) (zs : List Int) (w : World) (harg : ArgI w B a n zs) (hB : B ≤ w.heap.size) (hn : n ≤ 1048576) :
    Calls Try.prog 5 #[.slice a n cap] w fun e w' => ∃ oa, e = .returned (.slice oa n n) ∧ IntsV w' oa n zs ∧ Below w.heap.size w w' := by
  obtain ⟨i0, hi, hz0, hz1, hz2⟩ := info_parts infoI
  obtain ⟨M, hM⟩ : ∃ M, M = madeCells (Value.int .i64 0).cells (((n : Nat) : Int).toNat * i0.size) := ⟨_, rfl⟩
  have hmk : ∀ W : World, (Instr.makeSlice 22 (.int .i64 (n : Int)) (.int .i64 (n : Int))).run Try.prog W = .ok (.slice (some ⟨W.heap.size, 0, none⟩) n n) (W.alloc (.cells M 3)) := fun W => by
    have h := run_make (P := Try.prog) W 22 3 i0 (.int .i64 0) Try.underlying22 hi hz0 .i64 .i64 (n : Int) (n : Int) (by omega) (by omega) (by rw [hz2]; omega) (by omega)
    rw [← hM] at h
    simpa using h
  have hMs : M.size = n := by rw [hM, size_madeCells, hz1]; simp
  have hlen := harg.len
  have HARG : Hid (∀ W, Below B w W → ArgI W B a n zs) := fun W h => harg.below h
  clear hM harg
  have HP : Hid (PartI (w.alloc (.cells M 3)) w.heap.size n 0 zs) := ⟨M, heap_alloc_new w _, hMs, fun i h => absurd h (by omega)⟩
  go_enter Try.func5, Try.ntmps5
  go_wp2
  go_loopw [4] (fun i wr => ∃ k : Nat, k ≤ n ∧ i = .int .i64 (k : Int) ∧ Hid (PartI wr w.heap.size n k zs) ∧ Below w.heap.size w wr) (fun i _ => n - (intOf i).toNat)
  case atStart => exact ⟨0, Nat.zero_le _, rfl, HP, (Below.refl _ _).alloc (Nat.le_refl _) _⟩
  case round =>
    obtain ⟨k, hk, rfl, hpr, hbw⟩ := hrel
    by_cases hlt : k < n
    · have hlt2 : (k : Int) < (n : Int) := by omega
      obtain ⟨b, off, rfl, hbB, hc1⟩ := (HARG.out wr (hbw.mono hB)).get k hlt
      have HPUT : Hid (PartI (wr.setCell ⟨w.heap.size, k, none⟩ (.int .i64 (zs.getD k 0))) w.heap.size n (k + 1) zs) := hpr.out.put hlt
      obtain ⟨u0, hu0⟩ := hpr.out.cell k hlt
      have f0 := hpr.out.frozen k
      generalize zs.getD k 0 = z at hc1 HPUT
      go_wp2
      go_roundw
      case rel => exact ⟨k + 1, by omega, by go_num, HPUT, hbw.setCell (Nat.le_refl _) _⟩
      case measure => simp [intOf]; omega
    · obtain rfl : k = n := by omega
      go_wp2
      go_ret
      exact ⟨_, rfl, hpr.out.ints hlen, hbw⟩

set_option maxHeartbeats 1000000 in
theorem eqIntS_any (o1 o2 : Option Addr) (n c1 c2 : Nat) (zs : List Int) (w : World) (h1 : IntsV w o1 n zs) (h2 : IntsV w o2 n zs) (hn : n ≤ 2000000) :
    Calls Try.prog 8 #[.slice o1 n c1, .slice o2 n c2] w fun e w' => e = .returned (.bool true) ∧ Below w.heap.size w w' := by
  have H1 : Hid (∀ W, Below w.heap.size w W → IntsV W o1 n zs) := fun W h => h1.below h
  have H2 : Hid (∀ W, Below w.heap.size w W → IntsV W o2 n zs) := fun W h => h2.below h
  clear h1 h2
  go_enter Try.func8, Try.ntmps8
  go_wp2
  go_loopw [5] (fun i wr => ∃ k : Nat, k ≤ n ∧ i = .int .i64 (k : Int) ∧ Below w.heap.size w wr) (fun i _ => n - (intOf i).toNat)
  case atStart => exact ⟨0, Nat.zero_le _, rfl, Below.refl _ _⟩
  case round =>
    obtain ⟨k, hk, rfl, hbw⟩ := hrel
    by_cases hlt : k < n
    · have hlt2 : (k : Int) < (n : Int) := by omega
      obtain ⟨g1, rfl, _, ha⟩ := (H1.out wr hbw).2 k hlt
      obtain ⟨g2, rfl, _, hb⟩ := (H2.out wr hbw).2 k hlt
      generalize zs.getD k 0 = z at ha hb
      have hzz : (z != z) = false := by simp
      go_wp2
      go_region_held3 (fun w' => w'.cell? ⟨g1, k, none⟩ = some (.int .i64 z) ∧ w'.cell? ⟨g2, k, none⟩ = some (.int .i64 z)) (first | assumption | go_keep) (fail)
      go_wp2
      go_roundw
      case rel => exact ⟨k + 1, by omega, by go_num, hbw.drew⟩
      case measure => simp [intOf]; omega
    · go_wp2
      go_ret
      exact ⟨rfl, hbw⟩

end Go.Proofs.Ytffjnfaneeejnaa
