/- 'place', 'newField', 'copied', 'Get', 'fieldOk', 'ok' and 'FieldsOk' of the program: contracts over the translation. -/
import Derived.Test.YtnabeailjbghjaaFieldDraw
namespace Go.Proofs.Ytnabeailjbghjaa
open Go.RowKit
open Go.Lib hiding intOf

set_option maxHeartbeats 1000000 in
theorem place_any (v : Value) (n base : Nat) (fs : List (ByteArray × ByteArray)) (name : ByteArray) (w : World) (hv : FieldsV w base v n fs) (hn : n ≤ 1073741824) :
    Calls Try.prog 33 #[v, .string name] w fun e w' => e = .returned (.int .i64 (atF fs name : Int)) ∧ w' = w := by
  have hl := hv.len
  obtain ⟨oa, cap, rfl, hrow⟩ := hv.slice
  clear hv
  go_enter Try.func33, Try.ntmps33
  go_wp2
  go_loop [8] (fun i => ∃ k : Nat, k ≤ n ∧ i = .int .i64 (k : Int) ∧ Hid (∀ j, j < k → nameAt fs j ≠ name)) (fun i => n - (intOf i).toNat)
  case atStart => exact ⟨0, Nat.zero_le _, rfl, fun j h => absurd h (by omega)⟩
  case round =>
    obtain ⟨k, hk, rfl, hb⟩ := hrel
    by_cases hlt : k < n
    · obtain ⟨g, rfl, row⟩ := hrow k hlt
      have hc := row.name k hlt
      have hlt2 : (k : Int) < (n : Int) := by omega
      clear hrow row
      by_cases he : nameAt fs k = name
      · have hT : Hid (atF fs name = k) := atF_uniq (by omega) hb.out he
        have ht : ((nameAt fs k).toList == name.toList) = true := (text_beq _ _).2 he
        clear he
        go_wp2
        go_ret
        exact ⟨by rw [hT.out]; rfl, rfl⟩
      · have ht := text_beq_no he
        have HE : Hid (nameAt fs k ≠ name) := he
        clear he
        go_wp2
        go_round
        case rel =>
          refine ⟨k + 1, by omega, by go_num, ?_⟩
          intro j hj
          by_cases e : j = k
          · subst e; exact HE.out
          · exact hb.out j (by omega)
        case measure => simp [intOf]; omega
    · have hT : Hid (atF fs name = n) := by
        have := atF_none (fs := fs) (name := name) (fun j hj => hb.out j (by omega))
        show _ = _
        omega
      clear hrow
      go_wp2
      go_ret
      exact ⟨by rw [hT.out]; rfl, rfl⟩

set_option maxHeartbeats 1000000 in
theorem newField_any (nm vl : ByteArray) (w : World) (h1 : nm.size ≤ 281474976710656) (h2 : vl.size ≤ 281474976710656) :
    Calls Try.prog 34 #[.string nm, .string vl] w fun e w' => e = .returned (.agg #[.string nm, .string vl]) ∧ Below w.heap.size w w' := by
  go_enter Try.func34, Try.ntmps34
  go_wp2_with fail
  refine (clone_any nm _ h1).mono ?_
  rintro e w1 ⟨rfl, hb1⟩
  go_wp2_with fail
  refine (clone_any vl _ h2).mono ?_
  rintro e w2 ⟨rfl, hb2⟩
  obtain ⟨r, hr⟩ : ∃ r, r = w.heap.size := ⟨_, rfl⟩
  have h0 : (w.alloc (.cells #[.string ⟨#[]⟩, .string ⟨#[]⟩] 33)).heap.size = w.heap.size + 1 := by simp
  have hb : Below w.heap.size w w2 := ((Below.refl _ w).alloc (Nat.le_refl _) _).trans ((hb1.trans (hb2.mono hb1.size)).mono (by omega))
  have hre2 : w2.heap[r]? = some (.cells #[.string ⟨#[]⟩, .string ⟨#[]⟩] 33) := by
    rw [hr, (hb1.trans (hb2.mono hb1.size)).block _ (by omega)]; exact heap_alloc_new w _
  have hc0 : w2.cell? ⟨r, 0, none⟩ = some (.string ⟨#[]⟩) := by simp [World.cell?, hre2]
  have hc1 : w2.cell? ⟨r, 1, none⟩ = some (.string ⟨#[]⟩) := by simp [World.cell?, hre2]
  have hf0 : w2.frozen? ⟨r, 0, none⟩ = false := by simp [World.frozen?, hre2]
  have hf1 : w2.frozen? ⟨r, 1, none⟩ = false := by simp [World.frozen?, hre2]
  have hre3 := twoSet_heap nm vl hre2
  have k0 : (twoSet w2 r nm vl).cell? ⟨r, 0, none⟩ = some (.string nm) := by simp [World.cell?, hre3]
  have k1 : (twoSet w2 r nm vl).cell? ⟨r, 1, none⟩ = some (.string vl) := by simp [World.cell?, hre3]
  have hb3 : Below w.heap.size w (twoSet w2 r nm vl) := (hb.setCell (p := ⟨r, 0, none⟩) (by simp [hr]) _).setCell (p := ⟨r, 1, none⟩) (by simp [hr]) _
  have HB3 : Hid (Below w.heap.size w (twoSet w2 r nm vl)) := hb3
  rw [← hr]
  unfold twoSet at k0 k1
  clear hre3 hre2 hb hb3 hb1 hb2 hr h0
  go_wp2
  exact bodyPost_ret (v := .agg #[.string nm, .string vl]) (by simp [results, Try.results34, go_sem, k0, k1]) rfl ⟨rfl, HB3.out⟩

theorem cell_set_other (w : World) (r o g p : Nat) (v : Value) (h : g ≠ r) : (w.setCell ⟨r, o, none⟩ v).cell? ⟨g, p, none⟩ = w.cell? ⟨g, p, none⟩ := by
  unfold World.cell?
  rw [heap_setCell_other _ _ g _ (fun e => h e)]
/-- Every text of the fields is short enough to be copied. -/
def CopyF (fs : List (ByteArray × ByteArray)) : Prop := ∀ i, i < fs.length → (nameAt fs i).size ≤ 281474976710656 ∧ (valAt fs i).size ≤ 281474976710656

set_option maxHeartbeats 1000000 in
theorem copied_any (v : Value) (n base : Nat) (fs : List (ByteArray × ByteArray)) (w : World) (hv : FieldsV w base v n fs) (hn : n ≤ 2000000) (hsz : CopyF fs) :
    Calls Try.prog 32 #[v] w fun e w' => RowF fs w e w' := by
  obtain ⟨i0, hi, hz0, hz1, hz2⟩ := info_parts info33
  obtain ⟨M, hM⟩ : ∃ M, M = madeCells (Value.agg #[.string ⟨#[]⟩, .string ⟨#[]⟩]).cells (((n : Nat) : Int).toNat * i0.size) := ⟨_, rfl⟩
  have hmk : ∀ W : World, (Instr.makeSlice 49 (.int .i64 (n : Int)) (.int .i64 (n : Int))).run Try.prog W = .ok (.slice (some ⟨W.heap.size, 0, none⟩) n n) (W.alloc (.cells M 33)) := fun W => by
    have h := run_make (P := Try.prog) W 49 33 i0 (.agg #[.string ⟨#[]⟩, .string ⟨#[]⟩]) Try.underlying49 hi hz0 .i64 .i64 (n : Int) (n : Int) (by omega) (by omega) (by rw [hz2]; omega) (by omega)
    rw [← hM] at h
    simpa using h
  have hMs : M.size = n * 2 := by rw [hM, size_madeCells, hz1]; simp
  have hlen := hv.len
  obtain ⟨oa, cap, rfl, hrow⟩ := hv.slice
  have HROW : Hid (∀ k, k < n → ∃ g, oa = some ⟨g, 0, none⟩ ∧ FieldRow base w g n cap fs) := hrow
  have HSZ : Hid (CopyF fs) := hsz
  clear hM hv hrow hsz
  have HP : Hid (PartRow (w.alloc (.cells M 33)) w.heap.size n 0 fs) := ⟨M, heap_alloc_new w _, hMs, fun i h => absurd h (by omega)⟩
  go_enter Try.func32, Try.ntmps32
  go_wp2
  go_loopw [10] (fun i wr => ∃ k : Nat, k ≤ n ∧ i = .int .i64 (k : Int) ∧ Hid (PartRow wr w.heap.size n k fs) ∧ Below w.heap.size w wr) (fun i _ => n - (intOf i).toNat)
  case atStart => exact ⟨0, Nat.zero_le _, rfl, HP, (Below.refl _ _).alloc (Nat.le_refl _) _⟩
  case round =>
    obtain ⟨k, hk, rfl, hpr, hbw⟩ := hrel
    by_cases hlt : k < n
    · have hlt2 : (k : Int) < (n : Int) := by omega
      obtain ⟨g, rfl, row⟩ := HROW.out k hlt
      have hrowlt := row.lt
      have HRW : Hid (FieldRow base w g n cap fs) := row
      have row1 := row.below hbw row.lt
      have hc1 := row1.name k hlt
      have hc2 := row1.val k hlt
      obtain ⟨z1, z2⟩ := HSZ.out k (by omega)
      obtain ⟨nm, hnm⟩ : ∃ y, y = nameAt fs k := ⟨_, rfl⟩
      obtain ⟨vl, hvl⟩ : ∃ y, y = valAt fs k := ⟨_, rfl⟩
      rw [← hnm] at hc1 z1
      rw [← hvl] at hc2 z2
      have HNM : Hid (nm = nameAt fs k) := hnm
      have HVL : Hid (vl = valAt fs k) := hvl
      clear hnm hvl row row1
      have hgr : g < w.heap.size := hrowlt
      have HA : Hid (∀ w0 w1, Below wr.heap.size wr w0 → Below w0.heap.size w0 w1 → (w1.cell? ⟨g, k * 2, none⟩ = some (.string nm) ∧ w1.cell? ⟨g, k * 2 + 1, none⟩ = some (.string vl)) ∧ (∃ u, w1.cell? ⟨w.heap.size, k * 2, none⟩ = some u) ∧ (∃ u, w1.cell? ⟨w.heap.size, k * 2 + 1, none⟩ = some u) ∧ w1.frozen? ⟨w.heap.size, k * 2, none⟩ = false ∧ w1.frozen? ⟨w.heap.size, k * 2 + 1, none⟩ = false ∧ Hid (PartRow ((w1.setCell ⟨w.heap.size, k * 2, none⟩ (.string nm)).setCell ⟨w.heap.size, k * 2 + 1, none⟩ (.string vl)) w.heap.size n (k + 1) fs) ∧ Below w.heap.size w w1 ∧ (((w1.setCell ⟨w.heap.size, k * 2, none⟩ (.string nm)).setCell ⟨w.heap.size, k * 2 + 1, none⟩ (.string vl)).cell? ⟨g, k * 2, none⟩ = some (.string nm) ∧ ((w1.setCell ⟨w.heap.size, k * 2, none⟩ (.string nm)).setCell ⟨w.heap.size, k * 2 + 1, none⟩ (.string vl)).cell? ⟨g, k * 2 + 1, none⟩ = some (.string vl))) := fun w0 w1 h h' => by
        have hx := h.trans (h'.mono h.size)
        have hy := hbw.trans (hx.mono hbw.size)
        have row1 := HRW.out.below hy hgr
        have a1 := row1.name k hlt
        have a2 := row1.val k hlt
        rw [← HNM.out] at a1
        rw [← HVL.out] at a2
        have hpr1 := hpr.out.below hx hpr.out.lt
        have hput := hpr1.put hlt
        rw [← HNM.out, ← HVL.out] at hput
        exact ⟨⟨a1, a2⟩, hpr1.cell (k * 2) (by omega), hpr1.cell (k * 2 + 1) (by omega), hpr1.frozen _, hpr1.frozen _, hput, hy, by rw [cell_set_other _ _ _ _ _ _ (by omega), cell_set_other _ _ _ _ _ _ (by omega)]; exact a1, by rw [cell_set_other _ _ _ _ _ _ (by omega), cell_set_other _ _ _ _ _ _ (by omega)]; exact a2⟩
      go_wp2
      go_region_held3 (fun w' => w'.cell? ⟨g, k * 2, none⟩ = some (.string nm) ∧ w'.cell? ⟨g, k * 2 + 1, none⟩ = some (.string vl)) (first | assumption | go_keep) (first | (go_at_call 34; refine (newField_any nm vl _ z1 z2).mono ?_; rintro e w1 ⟨rfl, hb1⟩; obtain ⟨hcc, ⟨u0, hu0⟩, ⟨u1, hu1⟩, f0, f1, HPUT, hb2, hs1, hs2⟩ := HA.out _ w1 ((Below.refl _ wr).drew) hb1))
      go_wp2
      go_roundw
      case rel => exact ⟨k + 1, by omega, by go_num, HPUT, (hb2.setCell (Nat.le_refl _) _).setCell (Nat.le_refl _) _⟩
      case measure => simp [intOf]; omega
    · obtain rfl : k = n := by omega
      go_wp2
      go_ret
      exact ⟨_, rfl, by rw [hlen]; exact hpr.out.owns hlen (by unfold maxLen; omega) (Nat.le_refl _), hbw⟩

set_option maxHeartbeats 1000000 in
theorem implGet_any (v : Value) (n base : Nat) (fs : List (ByteArray × ByteArray)) (name : ByteArray) (w : World) (hv : FieldsV w base v n fs) (hn : n ≤ 1073741824) (hsz : CopyF fs) :
    Calls Try.prog 16 #[v, .string name] w fun e w' => e = .returned (.tuple #[.string (getV fs name), .bool (getB fs name)]) ∧ Below w.heap.size w w' := by
  have hl := hv.len
  have hv0 := hv
  obtain ⟨oa, cap, rfl, hrow⟩ := hv0.slice
  clear hv0
  obtain ⟨k, hk⟩ : ∃ k, k = atF fs name := ⟨_, rfl⟩
  have hle := atF_le fs name
  by_cases hin : atF fs name < fs.length
  · have hV : Hid (getV fs name = valAt fs k) := by show _ = _; unfold getV; rw [if_pos hin, hk]
    have hB : Hid (getB fs name = true) := by show _ = _; unfold getB; simpa using hin
    obtain ⟨g, rfl, row⟩ := hrow k (by omega)
    have hc := row.val k (by omega)
    have hlt : (k : Int) < (n : Int) := by omega
    have hne : ((k : Int) == (n : Int)) = false := by rw [beq_eq_false_iff_ne]; omega
    obtain ⟨_, hz⟩ := hsz k (by omega)
    obtain ⟨vl, hvl⟩ : ∃ y, y = valAt fs k := ⟨_, rfl⟩
    rw [← hvl] at hV hc hz
    go_enter Try.func16, Try.ntmps16
    go_wp2_with fail
    refine (place_any _ n base fs name _ hv hn).mono ?_
    rintro e w1 ⟨rfl, rfl⟩
    rw [← hk]
    clear hv hrow row hk hvl hle hin hsz
    go_wp2_with fail
    refine (clone_any vl _ hz).mono ?_
    rintro e w2 ⟨rfl, hb2⟩
    go_wp2
    go_ret2
    exact ⟨by rw [hV.out, hB.out]; rfl, hb2⟩
  · have hV : Hid (getV fs name = ⟨#[]⟩) := by show _ = _; unfold getV; rw [if_neg hin]
    have hB : Hid (getB fs name = false) := by show _ = _; unfold getB; simpa using hin
    have hkn : k = n := by omega
    go_enter Try.func16, Try.ntmps16
    go_wp2_with fail
    refine (place_any _ n base fs name _ hv hn).mono ?_
    rintro e w1 ⟨rfl, rfl⟩
    rw [← hk, hkn]
    clear hv hrow hk hle hin hsz hkn
    go_wp2
    go_ret2
    exact ⟨by rw [hV.out, hB.out]; rfl, Below.refl _ _⟩

end Go.Proofs.Ytnabeailjbghjaa
