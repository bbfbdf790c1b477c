/- A record is read as it was; with one byte turned there is none (the law answers true), and the code reads as it did: for every code. -/
import Derived.Test.YtalicfiadbmdeaaDoorFnRecordsB
import Derived.Below
import Derived.ChangeOld
import Derived.ShutString
import Derived.Deep.RegionHeld3
import Derived.Deep.DrawnRows
import Derived.Deep.CutRange
import Derived.Deep.DeepCutAuto
namespace Go.Proofs.YtalicfiadbmdeaaDoor
namespace fnRecords
open Go.ChangeShapes Go.WideShapes Go.ChangeAt Go.RowKit
open Go.ChangeMaps (open_string shut_string)
attribute [local go_sem ↓] Go.wp_at_zero Go.wp_at_succ

theorem own : ownKnob Tryd.prog.godebug = none := by kernel_rfl
theorem laidOut : laidOutB Tryd.prog = true := by kernel_rfl
def IsRow (k : IntKind) (w : World) (a : Option Addr) (len cap : Nat) (zs : List Int) : Prop :=
  (a = none ∧ len = 0 ∧ cap = 0 ∧ zs = []) ∨
  ∃ x, a = some x ∧ len ≤ cap ∧ cap ≤ maxLen ∧ zs.length = cap ∧ (∀ i, i < zs.length → w.cell? (x.add i) = some (.int k (zs.getD i 0))) ∧ ∀ n ∈ zs, (Lit.int k n).wf = true
theorem row_cell {k : IntKind} {w : World} {x : Addr} {zs : List Int} (h : ∀ i, i < zs.length → w.cell? (x.add i) = some (.int k (zs.getD i 0))) (j : Nat) (hj : j < zs.length) : ∃ b off, x = ⟨b, off, none⟩ ∧ w.cell? ⟨b, off + j, none⟩ = some (.int k (zs.getD j 0)) := by
  obtain ⟨b, off, spot⟩ := x
  have hc := h j hj
  have hspot : spot = none := by
    have := World.cell?_spot (h 0 (by omega))
    simpa [Addr.add] using this
  subst hspot
  refine ⟨b, off, rfl, ?_⟩
  by_cases e : j = 0
  · subst e; simpa [Addr.add] using hc
  · simpa [Addr.add, e] using hc
theorem row_code {w : World} {a : Option Addr} {len cap : Nat} {zs : List Int} (h : IsRow .u8 w a len cap zs) (hl : len ≤ 1048576) : CodeAt w w.heap.size a len zs := by
  refine ⟨hl, fun j hj => ?_⟩
  rcases h with ⟨rfl, rfl, _, _⟩ | ⟨x, rfl, h1, _, h3, h4, h5⟩
  · omega
  · obtain ⟨b, off, rfl, hc2⟩ := row_cell h4 j (by omega)
    have hm : zs.getD j 0 ∈ zs := by
      rw [List.getD_eq_getElem?_getD, List.getElem?_eq_getElem (by omega)]
      exact List.getElem_mem _
    have hr := bounds_u8 (h5 _ hm)
    exact ⟨b, off, rfl, World.block_lt_of_cell? _ _ hc2, hc2, hr.1, by omega⟩
set_option maxHeartbeats 1000000 in
theorem at_any (a : Option Addr) (len cap : Nat) (zs : List Int) (w : World) (hcode : CodeAt w w.heap.size a len zs) (hlen : len ≤ 1048576) :
    Calls Tryd.prog 11 #[.slice a len cap, .int .i64 1] w fun e w' => ∃ n : Nat, e = .returned (.int .i64 (n : Int)) ∧ n < 256 ∧ w' = w := by
  by_cases h : (1 : Int) < (len : Int)
  · obtain ⟨b, off, rfl, _, hc, h0, h1⟩ := hcode.get 1 (by omega)
    obtain ⟨x, hx⟩ : ∃ x : Int, x = zs.getD 1 0 := ⟨_, rfl⟩
    rw [← hx] at hc h0 h1
    clear hx hcode
    go_enter Tryd.func11, Tryd.ntmps11
    go_wp2
    go_ret
    exact ⟨x.toNat, by simp; omega, by omega, rfl⟩
  · clear hcode
    go_enter Tryd.func11, Tryd.ntmps11
    go_wp2
    go_ret
    refine ⟨(7 + len) % 256, by simp, Nat.mod_lt _ (by decide), rfl⟩
theorem at_place (v n : Nat) (hv : v < 256) (hn : n ≤ 3100) (h1 : 1 ≤ n) : ∃ i : Nat, i < n ∧ wrap64 ((wrap64 ((v : Int) * (n : Int))).tdiv 256) = (i : Int) := by
  have hp : v * n ≤ 255 * n := Nat.mul_le_mul_right n (by omega)
  obtain ⟨p, hpe⟩ : ∃ p, p = v * n := ⟨_, rfl⟩
  have e : ((v : Int) * (n : Int)) = (p : Int) := by rw [hpe]; simp
  rw [← hpe] at hp
  refine ⟨p / 256, by omega, ?_⟩
  have w1 : wrap64 (p : Int) = (p : Int) := by unfold wrap64; omega
  rw [e, w1, Int.tdiv_eq_ediv_of_nonneg (by omega)]
  unfold wrap64
  omega
theorem told_yes {a : ByteArray} {q : Int} {b : ByteArray} (h : IsRec a q b) : ∀ W e W', RecIs a W e W' → Below W.heap.size W W' ∧ e = .returned (.tuple #[.int .i64 q, .string b, .bool true]) := fun W e W' h2 => ⟨h2.1, by
  rcases h2.2 with ⟨q', b', hr', rfl⟩ | ⟨hno, _⟩
  · obtain ⟨rfl, rfl⟩ := h.uniq hr'
    rfl
  · exact absurd h (hno q b)⟩
theorem told_no {a : ByteArray} (h : ¬ ∃ q b, IsRec a q b) : ∀ W e W', RecIs a W e W' → Below W.heap.size W W' ∧ e = .returned (.tuple #[.int .i64 0, .string ⟨#[]⟩, .bool false]) := fun W e W' h2 => ⟨h2.1, by
  rcases h2.2 with ⟨q', b', hr', _⟩ | ⟨_, rfl⟩
  · exact absurd ⟨q', b', hr'⟩ h
  · rfl⟩

open Go.Lib hiding intOf
set_option maxHeartbeats 400000 in
theorem big_no (a : Option Addr) (len cap : Nat) (w : World) (h : ¬ (1048576 : Int) < (len : Int)) : Calls Tryd.prog 6 #[.slice a len cap] w fun e w' => e = .returned (.bool false) ∧ w' = w := by
  go_enter Tryd.func6, Tryd.ntmps6
  go_wp2
  go_ret
  exact ⟨rfl, rfl⟩
set_option maxHeartbeats 400000 in
theorem big_yes (a : Option Addr) (len cap : Nat) (w : World) (h : (1048576 : Int) < (len : Int)) : Calls Tryd.prog 6 #[.slice a len cap] w fun e w' => e = .returned (.bool true) ∧ w' = w := by
  go_enter Tryd.func6, Tryd.ntmps6
  go_wp2
  go_ret
  exact ⟨rfl, rfl⟩
set_option maxHeartbeats 16000000 in
set_option maxRecDepth 100000 in
theorem walk1 (w : World) (a0 : Option Addr) (len0 cap0 : Nat) (zc0 : List Int) (w0 : IsRow .u8 w a0 len0 cap0 zc0) (hT : TabOk w) (hLN : LenOk w) (hH : HandOk w) :
    Calls Tryd.prog 3 #[.slice a0 len0 cap0] w fun e w' => e = .returned (.bool true) ∧ Below w.heap.size w w' := by
  classical
  by_cases hbig : (1048576 : Int) < (len0 : Int)
  · clear hT hLN hH
    go_enter Tryd.func3, Tryd.ntmps3
    go_wp2_with fail
    refine (big_yes a0 len0 cap0 _ hbig).mono ?_
    rintro e w1 ⟨rfl, rfl⟩
    go_wp2
    go_ret
    exact ⟨rfl, Below.refl _ _⟩
  have hcode := row_code w0 (by omega)
  have HCODE : Hid (∀ W, Below w.heap.size w W → CodeAt W W.heap.size a0 len0 zc0) := fun W h => (hcode.below h).upTo h.size
  have HT : Hid (∀ W, Below w.heap.size w W → TabOk W) := fun W h => hT.below h
  clear hT
  have HLN : Hid (∀ W, Below w.heap.size w W → LenOk W) := fun W h => hLN.below h hLN.lt
  clear hLN
  have HH : Hid (∀ W, Below w.heap.size w W → HandOk W) := fun W h => hH.below h
  clear hH
  have HBIG : Hid (¬ (1048576 : Int) < (len0 : Int)) := hbig
  clear w0 hcode hbig
  go_enter Tryd.func3, Tryd.ntmps3
  go_wp2_with fail
  refine (big_no a0 len0 cap0 _ (by have := HBIG.out; omega)).mono ?_
  rintro e w1 ⟨rfl, hw1⟩
  rw [hw1]
  clear hw1 w1
  go_wp2_with fail
  refine (drawRecText_any a0 len0 cap0 zc0 _ (HCODE.out _ (Below.refl _ _))).mono ?_
  rintro e w1 ⟨x, t, rfl, hx, ht, b1⟩
  have HB1 : Hid (Below w.heap.size w w1) := b1
  clear b1
  obtain ⟨r, hr⟩ : ∃ r, r = recI x t := ⟨_, rfl⟩
  have HR : Hid (recI x t = r) := hr.symm
  have hrz : r.size ≤ 3100 := by rw [hr]; exact recI_size _ _
  clear hr
  go_wp2_with fail
  refine (implRecText_any x t _ (by omega) (HT.out _ HB1.out)).mono ?_
  rintro e w2 ⟨rfl, b2⟩
  rw [HR.out]
  have HB2 : Hid (Below w.heap.size w w2) := HB1.out.trans (b2.mono HB1.out.size)
  clear b2
  go_wp2_with fail
  refine (specRecText_any x t _ (by omega)).mono ?_
  rintro e w3 ⟨rfl, b3⟩
  rw [HR.out]
  have HB3 : Hid (Below w.heap.size w w3) := HB2.out.trans (b3.mono HB2.out.size)
  clear b3
  by_cases hr0 : r.size = 0
  · have hre := isEmpty_yes (s := r) hr0
    go_upto_region 16 with fail
    go_wp2_with fail
    refine (drawRecRead_any a0 len0 cap0 zc0 _ (HCODE.out _ HB3.out)).mono ?_
    rintro e w20 ⟨u, rfl, huz, b20⟩
    have HB20 : Hid (Below w.heap.size w w20) := HB3.out.trans (b20.mono HB3.out.size)
    clear b20
    by_cases hk : ∃ q b, IsRec u q b
    · obtain ⟨k2, bb, hk⟩ := hk
      have HKY : Hid (∀ W e W', RecIs u W e W' → Below W.heap.size W W' ∧ e = .returned (.tuple #[.int .i64 k2, .string bb, .bool true])) := told_yes hk
      have HRI : Hid (recI k2 bb = u) := (rec_iff.2 hk).2
      have hbz : bb.size ≤ 2000 := hk.1.2.2
      clear hk
      go_wp2_with fail
      refine (implRecRead_any u _ (by omega) (HT.out _ HB20.out) (HLN.out _ HB20.out) (HH.out _ HB20.out)).mono ?_
      intro e w21 h21
      obtain ⟨b21, rfl⟩ := HKY.out _ _ _ h21
      have HB21 : Hid (Below w.heap.size w w21) := HB20.out.trans (b21.mono HB20.out.size)
      clear b21 h21
      go_wp2_with fail
      refine (specRecRead_any u _ (by omega)).mono ?_
      intro e w22 h22
      obtain ⟨b22, rfl⟩ := HKY.out _ _ _ h22
      have HB22 : Hid (Below w.heap.size w w22) := HB21.out.trans (b22.mono HB21.out.size)
      clear b22 h22
      go_wp2_with fail
      refine (drawSum_any a0 len0 cap0 zc0 _ (HCODE.out _ HB22.out)).mono ?_
      rintro e w23 ⟨y, rfl, hyz, b23⟩
      have HB23 : Hid (Below w.heap.size w w23) := HB22.out.trans (b23.mono HB22.out.size)
      clear b23
      obtain ⟨sm, hsm⟩ : ∃ n, n = sumP y := ⟨_, rfl⟩
      have HSM : Hid (sumP y = sm) := hsm.symm
      clear hsm
      go_wp2_with fail
      refine (implSum_any y _ (by unfold maxLen; omega)).mono ?_
      rintro e w24 ⟨rfl, b24⟩
      rw [HSM.out]
      have HB24 : Hid (Below w.heap.size w w24) := HB23.out.trans (b24.mono HB23.out.size)
      clear b24
      go_wp2_with fail
      refine (specSum_any y _ (by unfold maxLen; omega)).mono ?_
      rintro e w25 ⟨rfl, hw25⟩
      rw [HSM.out, hw25]
      clear hw25 w25
      go_wp2_with fail
      refine (implRecText_any k2 bb _ (by omega) (HT.out _ HB24.out)).mono ?_
      rintro e w26 ⟨rfl, b26⟩
      rw [HRI.out]
      have HB26 : Hid (Below w.heap.size w w26) := HB24.out.trans (b26.mono HB24.out.size)
      clear b26
      go_wp2_with fail
      go_ret
      exact ⟨rfl, HB26.out⟩
    · have HKN : Hid (∀ W e W', RecIs u W e W' → Below W.heap.size W W' ∧ e = .returned (.tuple #[.int .i64 0, .string ⟨#[]⟩, .bool false])) := told_no hk
      clear hk
      go_wp2_with fail
      refine (implRecRead_any u _ (by omega) (HT.out _ HB20.out) (HLN.out _ HB20.out) (HH.out _ HB20.out)).mono ?_
      intro e w21 h21
      obtain ⟨b21, rfl⟩ := HKN.out _ _ _ h21
      have HB21 : Hid (Below w.heap.size w w21) := HB20.out.trans (b21.mono HB20.out.size)
      clear b21 h21
      go_wp2_with fail
      refine (specRecRead_any u _ (by omega)).mono ?_
      intro e w22 h22
      obtain ⟨b22, rfl⟩ := HKN.out _ _ _ h22
      have HB22 : Hid (Below w.heap.size w w22) := HB21.out.trans (b22.mono HB21.out.size)
      clear b22 h22
      go_wp2_with fail
      refine (drawSum_any a0 len0 cap0 zc0 _ (HCODE.out _ HB22.out)).mono ?_
      rintro e w23 ⟨y, rfl, hyz, b23⟩
      have HB23 : Hid (Below w.heap.size w w23) := HB22.out.trans (b23.mono HB22.out.size)
      clear b23
      obtain ⟨sm, hsm⟩ : ∃ n, n = sumP y := ⟨_, rfl⟩
      have HSM : Hid (sumP y = sm) := hsm.symm
      clear hsm
      go_wp2_with fail
      refine (implSum_any y _ (by unfold maxLen; omega)).mono ?_
      rintro e w24 ⟨rfl, b24⟩
      rw [HSM.out]
      have HB24 : Hid (Below w.heap.size w w24) := HB23.out.trans (b24.mono HB23.out.size)
      clear b24
      go_wp2_with fail
      refine (specSum_any y _ (by unfold maxLen; omega)).mono ?_
      rintro e w25 ⟨rfl, hw25⟩
      rw [HSM.out, hw25]
      clear hw25 w25
      go_wp2_with fail
      go_ret
      exact ⟨rfl, HB24.out⟩
  · have hre := isEmpty_no (s := r) (by omega)
    have HIS : Hid (IsRec r x t) := rec_iff.1 ⟨fun e => hr0 (by rw [e]; rfl), HR.out⟩
    have HRY : Hid (∀ W e W', RecIs r W e W' → Below W.heap.size W W' ∧ e = .returned (.tuple #[.int .i64 x, .string t, .bool true])) := told_yes HIS.out
    go_wp2_with fail
    refine (implRecRead_any r _ (by omega) (HT.out _ HB3.out) (HLN.out _ HB3.out) (HH.out _ HB3.out)).mono ?_
    intro e w4 h4
    obtain ⟨b4, rfl⟩ := HRY.out _ _ _ h4
    have HB4 : Hid (Below w.heap.size w w4) := HB3.out.trans (b4.mono HB3.out.size)
    clear b4 h4
    go_wp2_with fail
    refine (at_any a0 len0 cap0 zc0 _ (HCODE.out _ HB4.out) (by have := HBIG.out; omega)).mono ?_
    rintro e w5 ⟨v, rfl, hv, hw5⟩
    rw [hw5]
    clear hw5 w5
    go_upto_region 12 with fail
    obtain ⟨i, hi, hie⟩ := at_place v r.size hv hrz (by omega)
    rw [hie]
    clear hie
    have hi1 : (i : Int) < (r.size : Int) := by omega
    have hi2 : (i : Int) ≤ (r.size : Int) := by omega
    have hi3 : (0 : Int) ≤ (i : Int) + 1 := by omega
    have hi4 : (i : Int) + 1 ≤ (r.size : Int) := by omega
    have hi5 : ((i : Int) + 1).toNat = i + 1 := by omega
    have hi6 : IntKind.i64.wrap ((i : Int) + 1) = (i : Int) + 1 := by rw [IntKind.wrap_i64]; omega
    obtain ⟨y, hy⟩ : ∃ y, y = r[i]'hi := ⟨_, rfl⟩
    have HYE : Hid (r[i]'hi = y) := hy.symm
    have hbx : bits .xor .u8 ((y.toNat : Nat) : Int) 1 = ((turnB y).toNat : Int) := by
      have e := u8_xor_nat y.toNat 1 y.toNat_lt (by decide)
      rw [show (turnB y).toNat = y.toNat ^^^ 1 from UInt8.toNat_xor y 1]
      exact e
    have hyr : r[i] = y := hy.symm
    clear hy
    have hcv : (convert 22 9 (.slice (some ⟨w4.heap.size, 0, none⟩) 1 1)).run Tryd.prog ((w4.alloc (.cells #[.int .u8 ((turnB y).toNat : Int)] 5)).drew) = .ok (.string (strOfNums [((turnB y).toNat : Int)])) ((w4.alloc (.cells #[.int .u8 ((turnB y).toNat : Int)] 5)).drew) := conv_one w4.drew _
    have hone : ∀ d : Int, (strOfNums [d]).size = 1 := fun d => strOfNums_size [d]
    refine wp_region_held_drew (S := fun _ => True) (by kernel_rfl) trivial (fun _ => ?_)
    refine wpAnyH_takeD (i := 0) (v := .string r) (some 63) rfl rfl (by kernel_rfl) (by kernel_rfl) (by kernel_rfl) (fun _ _ _ h => h) (Or.inl ⟨by rfl, by intro W _; go_simp⟩) trivial ?_
    simp only [Act.put, List.setIfInBounds_toArray, List.set_cons_zero, List.set_cons_succ]
    refine wpAnyH_takeD (i := 1) (v := .int .i64 (i : Int)) (some 64) rfl rfl (by kernel_rfl) (by kernel_rfl) (by kernel_rfl) (fun _ _ _ h => h) (Or.inl ⟨by rfl, by intro W _; go_simp⟩) trivial ?_
    simp only [Act.put, List.setIfInBounds_toArray, List.set_cons_zero, List.set_cons_succ]
    refine wpAnyH_takeD (i := 2) (v := .string (r.extract 0 i)) (some 65) rfl rfl (by kernel_rfl) (by kernel_rfl) (by kernel_rfl) (fun _ _ _ h => h) (Or.inl ⟨by rfl, by intro W _; go_simp⟩) trivial ?_
    simp only [Act.put, List.setIfInBounds_toArray, List.set_cons_zero, List.set_cons_succ]
    refine wpAnyH_takeD (i := 3) (v := .string r) (some 66) rfl rfl (by kernel_rfl) (by kernel_rfl) (by kernel_rfl) (fun _ _ _ h => h) (Or.inl ⟨by rfl, by intro W _; go_simp⟩) trivial ?_
    simp only [Act.put, List.setIfInBounds_toArray, List.set_cons_zero, List.set_cons_succ]
    refine wpAnyH_takeD (i := 4) (v := .int .i64 (i : Int)) (some 67) rfl rfl (by kernel_rfl) (by kernel_rfl) (by kernel_rfl) (fun _ _ _ h => h) (Or.inl ⟨by rfl, by intro W _; go_simp⟩) trivial ?_
    simp only [Act.put, List.setIfInBounds_toArray, List.set_cons_zero, List.set_cons_succ]
    refine wpAnyH_takeD (i := 5) (v := .int .u8 ((y.toNat : Nat) : Int)) (some 68) rfl rfl (by kernel_rfl) (by kernel_rfl) (by kernel_rfl) (fun _ _ _ h => h) (Or.inl ⟨by rfl, by intro W _; go_simp⟩) trivial ?_
    simp only [Act.put, List.setIfInBounds_toArray, List.set_cons_zero, List.set_cons_succ]
    refine wpAnyH_takeD (i := 6) (v := .int .u8 ((turnB y).toNat : Int)) (some 69) rfl rfl (by kernel_rfl) (by kernel_rfl) (by kernel_rfl) (fun _ _ _ h => h) (Or.inl ⟨by rfl, by intro W _; go_simp⟩) trivial ?_
    simp only [Act.put, List.setIfInBounds_toArray, List.set_cons_zero, List.set_cons_succ]
    refine wpAnyH_takeD (i := 10) (v := .string r) (some 73) rfl rfl (by kernel_rfl) (by kernel_rfl) (by kernel_rfl) (fun _ _ _ h => h) (Or.inl ⟨by rfl, by intro W _; go_simp⟩) trivial ?_
    simp only [Act.put, List.setIfInBounds_toArray, List.set_cons_zero, List.set_cons_succ]
    refine wpAnyH_takeD (i := 11) (v := .int .i64 (i : Int)) (some 74) rfl rfl (by kernel_rfl) (by kernel_rfl) (by kernel_rfl) (fun _ _ _ h => h) (Or.inl ⟨by rfl, by intro W _; go_simp⟩) trivial ?_
    simp only [Act.put, List.setIfInBounds_toArray, List.set_cons_zero, List.set_cons_succ]
    refine wpAnyH_takeD (i := 12) (v := .int .i64 ((i : Int) + 1)) (some 75) rfl rfl (by kernel_rfl) (by kernel_rfl) (by kernel_rfl) (fun _ _ _ h => h) (Or.inl ⟨by rfl, by intro W _; go_simp⟩) trivial ?_
    simp only [Act.put, List.setIfInBounds_toArray, List.set_cons_zero, List.set_cons_succ]
    refine wpAnyH_takeD (i := 13) (v := .string (r.extract (i + 1) r.size)) (some 76) rfl rfl (by kernel_rfl) (by kernel_rfl) (by kernel_rfl) (fun _ _ _ h => h) (Or.inl ⟨by rfl, by intro W _; go_simp⟩) trivial ?_
    simp only [Act.put, List.setIfInBounds_toArray, List.set_cons_zero, List.set_cons_succ]
    refine wpAnyH_ready (rs := [7]) (by kernel_rfl) (by simp) ?_
    refine AllReadyH.cons rfl (fun K hK => ?_) AllReadyH.nil
    go_simp
    refine hK.out _ _ trivial (fun _ => ?_)
    clear hK K
    refine wpAnyH_ready (rs := [8]) (by kernel_rfl) (by simp) ?_
    refine AllReadyH.cons rfl (fun K hK => ?_) AllReadyH.nil
    go_simp
    refine hK.out _ _ trivial (fun _ => ?_)
    clear hK K
    obtain ⟨n1, hn1⟩ : ∃ n, n = strOfNums [((turnB y).toNat : Int)] := ⟨_, rfl⟩
    have HN1 : Hid (strOfNums [((turnB y).toNat : Int)] = n1) := hn1.symm
    have hz1 : n1.size = 1 := by rw [hn1]; exact hone _
    rw [← hn1]
    clear hn1
    obtain ⟨n0, hn0⟩ : ∃ n, n = r.extract 0 i := ⟨_, rfl⟩
    have HN0 : Hid (r.extract 0 i = n0) := hn0.symm
    have hz0 : n0.size ≤ 3100 := by rw [hn0, ByteArray.size_extract]; omega
    rw [← hn0]
    clear hn0
    obtain ⟨n2, hn2⟩ : ∃ n, n = r.extract (i + 1) r.size := ⟨_, rfl⟩
    have HN2 : Hid (r.extract (i + 1) r.size = n2) := hn2.symm
    have hz2 : n2.size ≤ 3100 := by rw [hn2, ByteArray.size_extract]; omega
    rw [← hn2]
    clear hn2
    refine wpAnyH_takeD (i := 9) (v := .string (n0 ++ n1)) (some 72) rfl rfl (by kernel_rfl) (by kernel_rfl) (by kernel_rfl) (fun _ _ _ h => h) (Or.inl ⟨by rfl, by intro W _; go_simp <;> omega⟩) trivial ?_
    simp only [Act.put, List.setIfInBounds_toArray, List.set_cons_zero, List.set_cons_succ]
    refine wpAnyH_takeD (i := 14) (v := .string (n0 ++ n1 ++ n2)) (some 77) rfl rfl (by kernel_rfl) (by kernel_rfl) (by kernel_rfl) (fun _ _ _ h => h) (Or.inl ⟨by rfl, by intro W _; go_simp <;> (try simp only [ByteArray.size_append]) <;> omega⟩) trivial ?_
    simp only [Act.put, List.setIfInBounds_toArray, List.set_cons_zero, List.set_cons_succ]
    refine wpAnyH_takeD (i := 15) (v := .string (n0 ++ n1 ++ n2)) (some 10) rfl rfl (by kernel_rfl) (by kernel_rfl) (by kernel_rfl) (fun _ _ _ h => h) (Or.inl ⟨by rfl, by intro W _; go_simp⟩) trivial ?_
    simp only [Act.put, List.setIfInBounds_toArray, List.set_cons_zero, List.set_cons_succ]
    refine wpAnyH_done (by kernel_rfl) ?_ _
    obtain ⟨u2, hu2⟩ : ∃ u, u = n0 ++ n1 ++ n2 := ⟨_, rfl⟩
    have hlen : i < (bs r).length := by rw [bs_len]; exact hi
    have HU : Hid (bs u2 = (bs r).set i (turnB ((bs r)[i]'hlen))) := by
      have e1 : bs n1 = [turnB y] := by
        rw [← HN1.out]
        show (strOfNums [((turnB y).toNat : Int)]).data.toList = _
        rw [strOfNums_data]
        simp
      have e2 : (bs r)[i]'hlen = y := by
        have h1 := bsAt hi
        rw [HYE.out] at h1
        exact Option.some.inj ((List.getElem?_eq_getElem hlen).symm.trans h1)
      rw [Hid, e2, List.set_eq_take_append_cons_drop, if_pos hlen, hu2, bs_append, bs_append, e1, ← HN0.out, ← HN2.out, bs_extract, bs_extract, ← bs_len r, List.take_length]
      simp
    have hu2z : u2.size ≤ 7000 := by rw [hu2, ByteArray.size_append, ByteArray.size_append]; omega
    rw [← hu2]
    have HNO : Hid (∀ W e W', RecIs u2 W e W' → Below W.heap.size W W' ∧ e = .returned (.tuple #[.int .i64 0, .string ⟨#[]⟩, .bool false])) := told_no (rec_turn HIS.out i hlen HU.out)
    obtain ⟨w5, hw5⟩ : ∃ W, W = ((w4.alloc (.cells #[.int .u8 ((turnB y).toNat : Int)] 5)).drew) := ⟨_, rfl⟩
    rw [← hw5]
    have HB5 : Hid (Below w.heap.size w w5) := by rw [hw5]; exact (HB4.out.alloc HB4.out.size _).drew
    clear hcv hyr hbx hi1 hi2 hi3 hi4 hi5 hi6 hone hu2 hlen HU hw5 hz0 hz1 hz2
    go_wp2_with fail
    refine (implRecRead_any u2 _ (by omega) (HT.out _ HB5.out) (HLN.out _ HB5.out) (HH.out _ HB5.out)).mono ?_
    intro e w6 h6
    obtain ⟨b6, rfl⟩ := HNO.out _ _ _ h6
    have HB6 : Hid (Below w.heap.size w w6) := HB5.out.trans (b6.mono HB5.out.size)
    clear b6 h6
    go_upto_region 16 with fail
    go_wp2_with fail
    refine (drawRecRead_any a0 len0 cap0 zc0 _ (HCODE.out _ HB6.out)).mono ?_
    rintro e w20 ⟨u, rfl, huz, b20⟩
    have HB20 : Hid (Below w.heap.size w w20) := HB6.out.trans (b20.mono HB6.out.size)
    clear b20
    by_cases hk : ∃ q b, IsRec u q b
    · obtain ⟨k2, bb, hk⟩ := hk
      have HKY : Hid (∀ W e W', RecIs u W e W' → Below W.heap.size W W' ∧ e = .returned (.tuple #[.int .i64 k2, .string bb, .bool true])) := told_yes hk
      have HRI : Hid (recI k2 bb = u) := (rec_iff.2 hk).2
      have hbz : bb.size ≤ 2000 := hk.1.2.2
      clear hk
      go_wp2_with fail
      refine (implRecRead_any u _ (by omega) (HT.out _ HB20.out) (HLN.out _ HB20.out) (HH.out _ HB20.out)).mono ?_
      intro e w21 h21
      obtain ⟨b21, rfl⟩ := HKY.out _ _ _ h21
      have HB21 : Hid (Below w.heap.size w w21) := HB20.out.trans (b21.mono HB20.out.size)
      clear b21 h21
      go_wp2_with fail
      refine (specRecRead_any u _ (by omega)).mono ?_
      intro e w22 h22
      obtain ⟨b22, rfl⟩ := HKY.out _ _ _ h22
      have HB22 : Hid (Below w.heap.size w w22) := HB21.out.trans (b22.mono HB21.out.size)
      clear b22 h22
      go_wp2_with fail
      refine (drawSum_any a0 len0 cap0 zc0 _ (HCODE.out _ HB22.out)).mono ?_
      rintro e w23 ⟨y, rfl, hyz, b23⟩
      have HB23 : Hid (Below w.heap.size w w23) := HB22.out.trans (b23.mono HB22.out.size)
      clear b23
      obtain ⟨sm, hsm⟩ : ∃ n, n = sumP y := ⟨_, rfl⟩
      have HSM : Hid (sumP y = sm) := hsm.symm
      clear hsm
      go_wp2_with fail
      refine (implSum_any y _ (by unfold maxLen; omega)).mono ?_
      rintro e w24 ⟨rfl, b24⟩
      rw [HSM.out]
      have HB24 : Hid (Below w.heap.size w w24) := HB23.out.trans (b24.mono HB23.out.size)
      clear b24
      go_wp2_with fail
      refine (specSum_any y _ (by unfold maxLen; omega)).mono ?_
      rintro e w25 ⟨rfl, hw25⟩
      rw [HSM.out, hw25]
      clear hw25 w25
      go_wp2_with fail
      refine (implRecText_any k2 bb _ (by omega) (HT.out _ HB24.out)).mono ?_
      rintro e w26 ⟨rfl, b26⟩
      rw [HRI.out]
      have HB26 : Hid (Below w.heap.size w w26) := HB24.out.trans (b26.mono HB24.out.size)
      clear b26
      go_wp2_with fail
      go_ret
      exact ⟨rfl, HB26.out⟩
    · have HKN : Hid (∀ W e W', RecIs u W e W' → Below W.heap.size W W' ∧ e = .returned (.tuple #[.int .i64 0, .string ⟨#[]⟩, .bool false])) := told_no hk
      clear hk
      go_wp2_with fail
      refine (implRecRead_any u _ (by omega) (HT.out _ HB20.out) (HLN.out _ HB20.out) (HH.out _ HB20.out)).mono ?_
      intro e w21 h21
      obtain ⟨b21, rfl⟩ := HKN.out _ _ _ h21
      have HB21 : Hid (Below w.heap.size w w21) := HB20.out.trans (b21.mono HB20.out.size)
      clear b21 h21
      go_wp2_with fail
      refine (specRecRead_any u _ (by omega)).mono ?_
      intro e w22 h22
      obtain ⟨b22, rfl⟩ := HKN.out _ _ _ h22
      have HB22 : Hid (Below w.heap.size w w22) := HB21.out.trans (b22.mono HB21.out.size)
      clear b22 h22
      go_wp2_with fail
      refine (drawSum_any a0 len0 cap0 zc0 _ (HCODE.out _ HB22.out)).mono ?_
      rintro e w23 ⟨y, rfl, hyz, b23⟩
      have HB23 : Hid (Below w.heap.size w w23) := HB22.out.trans (b23.mono HB22.out.size)
      clear b23
      obtain ⟨sm, hsm⟩ : ∃ n, n = sumP y := ⟨_, rfl⟩
      have HSM : Hid (sumP y = sm) := hsm.symm
      clear hsm
      go_wp2_with fail
      refine (implSum_any y _ (by unfold maxLen; omega)).mono ?_
      rintro e w24 ⟨rfl, b24⟩
      rw [HSM.out]
      have HB24 : Hid (Below w.heap.size w w24) := HB23.out.trans (b24.mono HB23.out.size)
      clear b24
      go_wp2_with fail
      refine (specSum_any y _ (by unfold maxLen; omega)).mono ?_
      rintro e w25 ⟨rfl, hw25⟩
      rw [HSM.out, hw25]
      clear hw25 w25
      go_wp2_with fail
      go_ret
      exact ⟨rfl, HB24.out⟩

set_option maxRecDepth 100000 in
theorem contract (H : Type) (enc : TypeId × Value → H) (W : World) (base : Nat) (args : Array Value) (ds gs : List (DataW H)) (before : List MemPlace)
    (hval : ∀ (j : Nat) t v, Tryd.f3.params[j]? = some t → args[j]? = some v → Value.okWide Tryd.prog W .any base t v)
    (hW : DataW.Whole enc Tryd.prog Tryd.f3.params.toList Rows.fnRecordsSpec.vars false W args.toList ds gs before) (hL : laidMetH Tryd.prog Rows.fnRecordsRow.laid W) (hSh : W.ShapedOpen Tryd.prog) :
    Calls Tryd.prog 3 args W fun e W' => ∃ v, e = .returned v ∧ Rows.fnRecordsSpec.post enc Tryd.prog Tryd.f3 false true false false W args v W' := by
  obtain ⟨hT, hH⟩ := parts_of hL
  have hLN : LenOk W := Tryd.laysM145.s1_3 W hSh
  have hW' := hW
  obtain ⟨p, q, hA0, hV, rfl, hfz, hnd⟩ := hW
  have hA : DataW.TrodAll enc Tryd.prog W 0 (fun _ => true) true Tryd.f3.params.toList args.toList ds p := hA0
  rw [Tryd.params3] at hA hval
  obtain ⟨v0, vs0, d0, ds0, p0, q0, hargs, rfl, rfl, h0, r0⟩ := trodAll_cons hA
  obtain ⟨rfl, rfl, rfl⟩ := trodAll_nil r0
  obtain rfl : args = #[v0] := by cases args; simp_all
  obtain ⟨rfl, rfl⟩ := trodVars_none hV
  obtain ⟨a0, len0, cap0, rfl⟩ := okWide_slice Tryd.underlying22 (hval 0 22 v0 rfl rfl)
  have k0 := h0
  have lt0 : ∀ x ∈ p0, x.block < W.heap.size := by obtain ⟨m, hm⟩ := k0; exact DataW.trod_lt m _ _ _ hm
  obtain ⟨z0, w0⟩ : ∃ zs, IsRow .u8 W a0 len0 cap0 zs := by
    obtain ⟨fuel, hf⟩ := h0
    rcases open_ints Tryd.underlying22 Tryd.underlying5 (by kernel_rfl) hf with ⟨hcs, _⟩ | ⟨x, l, c, zs, hcs, _, hl, hm, hz, _, hcell, hwz⟩
    · simp [Value.cells] at hcs
      obtain ⟨rfl, rfl, rfl⟩ := hcs
      exact ⟨[], .inl ⟨rfl, rfl, rfl, rfl⟩⟩
    · simp [Value.cells] at hcs
      obtain ⟨rfl, rfl, rfl⟩ := hcs
      exact ⟨zs, .inr ⟨_, rfl, hl, hm, by simpa using hz, hcell, hwz⟩⟩
  clear hA0
  refine (walk1 W a0 len0 cap0 z0 w0 hT hLN hH).mono fun e W' ⟨he, bel⟩ => ?_
  subst he
  exact ⟨_, rfl, _, _, _, [], _, [], hW', trodAll_mk1 (shut_bool Tryd.underlying4 _), (trodAll_cons_mk (Below.trod laidOut (by kernel_rfl) (of_decide_eq_true (by kernel_rfl)) k0 bel lt0) trodAll_mk0), rfl, bel.frame _, fun h => by cases h⟩

theorem laid_met (os : Os) : laidMetH Tryd.prog Rows.fnRecordsRow.laid ((withHand (World.holding Tryd.prog os ⟨#[], #[], []⟩)).forCall (fun _ _ => 0) ⟨#[], #[.slice none 0 0], []⟩).memory :=
  laidMetH_of_parts (laidMet_of_run' 80 (by kernel_rfl) (by kernel_rfl)) (by kernel_rfl)
theorem reads (os : Os) {H : Type} (enc : TypeId × Value → H) : ∃ places, DataW.whole enc Tryd.prog ((withHand (World.holding Tryd.prog os ⟨#[], #[], []⟩)).forCall (fun _ _ => 0) ⟨#[], #[.slice none 0 0], []⟩).memory Tryd.f3.params.toList Rows.fnRecordsSpec.vars false #[(.slice none 0 0 : Value)].toList 8 = some ([.nil], [], places) :=
  ⟨[], by kernel_rfl⟩

set_option maxRecDepth 100000 in
theorem lifted (os : Os) (started : os.Started) (H : Type) (enc : TypeId × Value → H) (F : Stop.Interp) :
    ReturnsInHanded {} Tryd.checked os 3 .any ((OpenSpec.ofChange Rows.fnRecordsSpec).preRow enc Tryd.prog Tryd.f3 Rows.fnRecordsRow.domain false Rows.fnRecordsRow.laid) (((OpenSpec.ofChange Rows.fnRecordsSpec).at F).post enc Tryd.prog Tryd.f3 false true false false) := by
  obtain ⟨places, hx⟩ := reads os enc
  refine returnsInHanded_of_row (C := Tryd.checked) (s := OpenSpec.ofChange Rows.fnRecordsSpec) own started (by kernel_rfl) Tryd.func3
    (witness_row_at (enc := enc) (C := Tryd.checked) false (withHand (World.holding Tryd.prog os ⟨#[], #[], []⟩)) #[.slice none 0 0] rfl (by kernel_rfl) (by kernel_rfl) (by kernel_rfl)
      (OpenSpec.preRow_of_cond 8 hx (by kernel_rfl) (fun k hk => by cases hk) (by kernel_rfl) (laid_met os))) ?_
  intro W base args ds gs before hval hW _ _ _ hL hSh _
  exact contract H enc W base args ds gs before hval hW hL hSh

theorem said : Rows.FnRecordsSaid :=
  OpenClaim.holds_of_cond 3 Tryd.f3 rfl rfl rfl rfl rfl rfl rfl ⟨rfl, rfl, rfl, rfl, rfl⟩ rfl rfl rfl rfl rfl (by kernel_rfl) Tryd.func3 (by kernel_rfl)
    (of_decide_eq_true (by kernel_rfl)) (by unfold Func.isWrapper; first | (rw [if_pos (by decide +kernel)]; kernel_rfl) | (rw [if_neg (by decide +kernel)]; exact ⟨rfl, rfl⟩))
    (fun os started H enc _ F => by rw [OpenClaim.pre_eq_preRow]; exact lifted os started H enc F)

theorem plain (f : FuncId) (fn : Func) (hf : Tryd.pinned.checked.prog.funcNamed "loop.example/g00239/laws.FnRecords" = some f) (hfn : Tryd.pinned.checked.prog.funcs[f]? = some fn) :
    true = Tryd.pinned.checked.prog.looks [] ∧ ∀ (j : Nat) t, fn.params[j]? = some t → Tryd.pinned.checked.prog.wantsStandIn t = false := by
  obtain rfl : f = 3 := Option.some.inj ((show Tryd.prog.funcNamed "loop.example/g00239/laws.FnRecords" = some 3 by kernel_rfl).symm.trans hf) |>.symm
  obtain rfl : fn = Tryd.f3 := (Option.some.inj (Tryd.func3.symm.trans hfn)).symm
  refine ⟨by kernel_rfl, fun j t ht => ?_⟩
  rw [Tryd.params3] at ht
  obtain rfl : t = 22 := by simpa using Array.mem_of_getElem? ht
  exact (show Tryd.prog.wantsStandIn 22 = false by kernel_rfl)

theorem card : Rows.FnRecordsCardSaid :=
  Claim7.holds_tied_plain_at .later [] _ _ _ _ said (fun _ h => by cases h) (by kernel_rfl) (fun _ h => by cases h) fnRecords_row_tie rfl ⟨rfl, rfl⟩ (by kernel_rfl) rfl plain (by kernel_rfl)
end fnRecords

theorem fnRecords_holds : Rows.FnRecordsCardSaid := fnRecords.card
#print axioms fnRecords_holds
end Go.Proofs.YtalicfiadbmdeaaDoor
