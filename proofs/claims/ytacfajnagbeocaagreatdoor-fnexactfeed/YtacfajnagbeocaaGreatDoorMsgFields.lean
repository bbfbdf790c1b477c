/- The fields of lines: contract of the specification's function. -/
import Derived.Test.YtacfajnagbeocaaGreatDoorMsgRead
import Derived.Test.YtacfajnagbeocaaGreatDoorFieldPut
namespace Go.Proofs.YtacfajnagbeocaaGreatDoor
open Go.RowKit
open Go.Lib hiding intOf

/-- A list of texts that a function reads, in blocks below B. -/
def TextsV (w : World) (B : Nat) (a : Option Addr) (n : Nat) (xs : List ByteArray) : Prop :=
  xs.length = n ∧ ∀ i (h : i < xs.length), ∃ g off, a = some ⟨g, off, none⟩ ∧ g < B ∧ w.cell? ⟨g, off + i, none⟩ = some (.string (xs[i]'h))
theorem TextsV.below {w w' : World} {B : Nat} {a : Option Addr} {n : Nat} {xs : List ByteArray} (h : TextsV w B a n xs) (hb : Below B w w') : TextsV w' B a n xs :=
  ⟨h.1, fun i hi => by
    obtain ⟨g, off, h1, h2, h3⟩ := h.2 i hi
    exact ⟨g, off, h1, h2, by rw [hb.cell (p := ⟨g, off + i, none⟩) h2]; exact h3⟩⟩

/-- A call answers the fields of these lines, in a list of its own. -/
def FieldsOf (xs : List ByteArray) (w : World) (e : Ending) (w' : World) : Prop :=
  ∃ (v : Value) (l : List (ByteArray × ByteArray)), e = .returned v ∧ w'.ownsRow w.heap.size 63 2 v l.length (flatF l) ∧ l.length ≤ xs.length ∧ Below w.heap.size w w' ∧ fieldsL (xs.map bs) = l.map bsP

set_option maxHeartbeats 4000000 in
set_option maxRecDepth 100000 in
theorem l3Fields_any (a : Option Addr) (n cap : Nat) (xs : List ByteArray) (w : World) (hv : TextsV w w.heap.size a n xs) (hn : n ≤ 4000000) (hsz : ∀ x ∈ xs, x.size ≤ 4000000) :
    Calls Tryz.prog 24 #[.slice a n cap] w fun e w' => FieldsOf xs w e w' := by
  obtain ⟨i0, hi, hz0, hz1, hz2⟩ := info_parts info33
  have hxl := hv.1
  have HV : Hid (∀ W, Below w.heap.size w W → TextsV W w.heap.size a n xs) := fun W h => hv.below h
  have HSZ : Hid (∀ x ∈ xs, x.size ≤ 4000000) := hsz
  clear hv hsz
  go_enter Tryz.func24, Tryz.ntmps24
  go_wp2
  go_loopw [3, 4] (fun v i wr => ∃ (k : Nat) (l : List (ByteArray × ByteArray)), k ≤ n ∧ l.length ≤ k ∧ i = .int .i64 (k : Int) ∧ Below w.heap.size w wr ∧ Hid (GdInv xs l k) ∧ wr.ownsRow w.heap.size 63 2 v l.length (flatF l)) (fun _ i _ => n - (intOf i).toNat)
  case atStart =>
    exact ⟨0, [], Nat.zero_le _, Nat.le_refl _, rfl, (Below.refl _ _).alloc (Nat.le_refl _) _, gd_start xs, ⟨rfl, .inr ⟨w.heap.size, 0, #[], rfl, Nat.le_refl _, heap_alloc_new w _, Nat.le_refl _, Nat.zero_le _, rfl, rfl⟩⟩⟩
  case round =>
    obtain ⟨k, l, hk, hlk, rfl, hbw, hinv, hown⟩ := hrel
    by_cases hlt : k < n
    · have hlt2 : (k : Int) < (n : Int) := by omega
      have hkx : k < xs.length := by omega
      obtain ⟨x, hx⟩ : ∃ x, x = xs[k]'hkx := ⟨_, rfl⟩
      have hxs : x.size ≤ 4000000 := by rw [hx]; exact HSZ.out _ (List.getElem_mem hkx)
      obtain ⟨g, off, rfl, hgB, _⟩ := (HV.out wr hbw).2 k hkx
      have HC : Hid (∀ W, Below w.heap.size w W → W.cell? ⟨g, off + k, none⟩ = some (.string x)) := fun W h => by
        obtain ⟨g2, off2, e2, _, h2⟩ := (HV.out W h).2 k hkx
        cases e2
        rw [hx]; exact h2
      have HX : Hid (xs[k]'hkx = x) := hx.symm
      clear hx
      go_wp2
      go_loopw [3, 5] (fun o q wq => ∃ m : Nat, (m + 1 ≤ x.size ∨ m = 0) ∧ o = u3 ∧ q = .int .i64 (m : Int) ∧ Below wr.heap.size wr wq ∧ Hid (FdInv x m)) (fun _ q _ => x.size + 1 - (intOf q).toNat)
      case atStart => exact ⟨0, .inr rfl, rfl, rfl, Below.refl _ _, fd_start x⟩
      case round =>
        obtain ⟨m, hm, rfl, rfl, hbq, hfd⟩ := hrel
        have hbW : Below w.heap.size w wr := hbw.trans (hbq.mono hbw.size)
        have hc := HC.out wr hbW
        by_cases hml : m + 1 < x.size
        · have hml2 : (m : Int) + 1 < (x.size : Int) := by omega
          have hml3 : (m : Int) < (x.size : Int) := by omega
          have hmx : m < x.size := by omega
          by_cases h58 : (x[m]'hmx).toNat = 58
          · have t1 : (((x[m]'hmx).toNat : Int) == 58) = true := by rw [beq_iff_eq]; omega
            by_cases h32 : (x[m + 1]'hml).toNat = 32
            · have t2 : (((x[m + 1]'hml).toNat : Int) == 32) = true := by rw [beq_iff_eq]; omega
              have HF : Hid (fieldL [] (bs (xs[k]'hkx)) = some (bs (x.extract 0 m), bs (x.extract (m + 2) x.size))) := by rw [HX.out]; exact fd_cut hml h58 h32 hfd.out
              clear h58 h32 hm
              have hnew := World.new_ne wr ⟨g, off + k, none⟩ hc
              have hmz : ((m : Int) + 2) ≤ (x.size : Int) := by omega
              have hm0 : (0 : Int) ≤ (m : Int) := by omega
              have hm2 : (0 : Int) ≤ (m : Int) + 2 := by omega
              have hmi : (m : Int) ≤ (x.size : Int) := by omega
              have hmn : m ≤ x.size := by omega
              have hmk : m + 2 ≤ x.size := by omega
              have hwr : IntKind.i64.wrap ((m : Int) + 2) = (m : Int) + 2 := by rw [IntKind.wrap_i64]; omega
              go_wp2_with fail
              go_region_held3 (fun W => W.cell? ⟨g, off + k, none⟩ = some (.string x)) (first | assumption | go_keep) (fail)
              obtain ⟨nm, hnm⟩ : ∃ y, y = x.extract 0 m := ⟨_, rfl⟩
              obtain ⟨vl, hvl⟩ : ∃ y, y = x.extract ((m : Int) + 2).toNat x.size := ⟨_, rfl⟩
              have HF2 : Hid (fieldL [] (bs (xs[k]'hkx)) = some (bs nm, bs vl)) := by
                show _ = _
                rw [HF.out, hnm, hvl, show ((m : Int) + 2).toNat = m + 2 by omega]
              rw [← hnm, ← hvl]
              obtain ⟨w2, hw2⟩ : ∃ W, W = (wr.alloc (.cells #[.string nm, .string vl] 63)).drew := ⟨_, rfl⟩
              obtain ⟨r, hr⟩ : ∃ r, r = wr.heap.size := ⟨_, rfl⟩
              have hh : w2.heap[r]? = some (.cells #[.string nm, .string vl] 63) := by rw [hw2, hr]; exact heap_alloc_new wr _
              have hc0 : w2.cell? ⟨r, 0, none⟩ = some (.string nm) := by simp [World.cell?, hh]
              have hc1 : w2.cell? ⟨r, 1, none⟩ = some (.string vl) := by simp [World.cell?, hh]
              have b2 : Below wr.heap.size wr w2 := by rw [hw2]; exact ((Below.refl _ wr).alloc (Nat.le_refl _) _).drew
              have hbW2 : Below w.heap.size w w2 := hbW.trans (b2.mono hbW.size)
              have hown2 : w2.ownsRow w.heap.size 63 2 u3 l.length (flatF l) := owns_below (owns_below hown hbq (fun g hg => owns_lt hown hg)) b2 (fun g hg => owns_lt (owns_below hown hbq (fun g hg => owns_lt hown hg)) hg)
              rw [← hw2, ← hr]
              clear hw2 hr hh b2 hnm hvl HF hc hnew hbq hbW hown
              by_cases hcl : nm = clen
              · have ht := (text_beq _ _).2 hcl
                rw [clen_list] at ht
                have HI : Hid (GdInv xs l (k + 1)) := gd_clen hkx HF2.out hcl hinv.out
                clear hcl
                go_wp2
                go_roundw
                case rel => exact ⟨k + 1, l, by omega, by omega, by go_num, hbW2, HI, hown2⟩
                case measure => simp [intOf]; omega
              · have ht := text_beq_no hcl
                rw [clen_list] at ht
                have HI : Hid (GdInv xs (l ++ [(nm, vl)]) (k + 1)) := gd_some hkx HF2.out hcl hinv.out
                have h63 : l.length + 1 ≤ maxLen := by unfold maxLen; omega
                have h47 : (l.length + 1) * 32 ≤ 140737488355328 := by omega
                have HBS : ∀ o, w.heap.size ≤ (w2.alloc o).heap.size := fun o => by have := hbW2.size; simp; omega
                clear hcl
                go_wp2_with (at_builtin; refine wpList_append_own _ rfl _ _ 35 rfl w.heap.size 63 i0 (.agg #[.string ⟨#[]⟩, .string ⟨#[]⟩]) 2 32 Tryz.underlying35 hi hz0 hz1 hz2 rfl (by decide) _ _ _ rfl (hown2.alloc _) ⟨w2.heap.size, 0, none⟩ 1 1 [.string nm, .string vl] rfl rfl (cell_two_new _ _ _ _) (two_text _ _) h63 h47 (HBS _) ?_)
                intro v1 w3 hown3 hgrow _
                have hb3 : Below w.heap.size w w3 := (hbW2.alloc hbW2.size _).grown hgrow (HBS _) (fun g hg => owns_ge hown2 hg)
                have hown4 : w3.ownsRow w.heap.size 63 2 v1 (l ++ [(nm, vl)]).length (flatF (l ++ [(nm, vl)])) := by rw [flatF_append, flatF_one]; simpa using hown3
                clear hown3 HBS hgrow hown2 hbW2
                go_wp2
                go_roundw
                case rel => exact ⟨k + 1, _, by omega, by simp; omega, by go_num, hb3, HI, hown4⟩
                case measure => simp [intOf]; omega
            · have t2 : (((x[m + 1]'hml).toNat : Int) == 32) = false := by rw [beq_eq_false_iff_ne]; omega
              have HI : Hid _ := fd_other hml (fun h => h32 h.2) hfd.out
              clear h58 h32 hm
              go_wp2
              go_roundw
              case rel => exact ⟨m + 1, .inl (by omega), rfl, by go_num, hbq, HI⟩
              case measure => simp [intOf]; omega
          · have t1 : (((x[m]'hmx).toNat : Int) == 58) = false := by rw [beq_eq_false_iff_ne]; omega
            have HI : Hid _ := fd_other hml (fun h => h58 h.1) hfd.out
            clear h58 hm
            go_wp2
            go_roundw
            case rel => exact ⟨m + 1, .inl (by omega), rfl, by go_num, hbq, HI⟩
            case measure => simp [intOf]; omega
        · have hml2 : ¬ (m : Int) + 1 < (x.size : Int) := by omega
          have hmb : (m : Int) ≤ 4000000 := by omega
          have HI : Hid (GdInv xs l (k + 1)) := gd_none hkx (by rw [HX.out]; exact fd_end hml hfd.out) hinv.out
          have hownq := owns_below hown hbq (fun g hg => owns_lt hown hg)
          clear hm
          go_wp2
          go_roundw
          case rel => exact ⟨k + 1, l, by omega, by omega, by go_num, hbW, HI, hownq⟩
          case measure => simp [intOf]; omega
    · have HE : Hid _ := gd_end (by omega) hinv.out
      have hlt2 : ¬ (k : Int) < (n : Int) := by omega
      go_wp2
      go_ret
      exact ⟨_, l, rfl, hown, by omega, hbw, HE.out⟩

end Go.Proofs.YtacfajnagbeocaaGreatDoor
