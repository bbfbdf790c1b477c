/- A drawn answer is read from its text as it was; a text that is read is that of the answer (the law answers true), and the code reads as it did: for every code. The three tables that strconv.Itoa's text names hold what the program's text lays (the card ties them). -/
import Derived.Test.YtmmkbgkiglmgeaaGreatDoorFnResponsesC
import Derived.Below
import Derived.ChangeOld
import Derived.ShutString
import Derived.Deep.RegionHeld3
import Derived.Deep.DrawnRows
namespace Go.Proofs.YtmmkbgkiglmgeaaGreatDoor
namespace fnResponses
open Go.ChangeShapes Go.WideShapes Go.ChangeAt Go.RowKit
open Go.ChangeMaps (open_string shut_string)
attribute [local go_sem ↓] Go.wp_at_zero Go.wp_at_succ

theorem own : ownKnob Tryz.prog.godebug = none := by kernel_rfl
theorem laidOut : laidOutB Tryz.prog = true := by kernel_rfl
def IsRow (k : IntKind) (w : World) (a : Option Addr) (len cap : Nat) (zs : List Int) : Prop :=
  (a = none ∧ len = 0 ∧ cap = 0 ∧ zs = []) ∨
  ∃ x, a = some x ∧ len ≤ cap ∧ cap ≤ maxLen ∧ zs.length = cap ∧ (∀ i, i < zs.length → w.cell? (x.add i) = some (.int k (zs.getD i 0))) ∧ ∀ n ∈ zs, (Lit.int k n).wf = true
theorem IsRow.code {w : World} {a : Option Addr} {len cap : Nat} {zs : List Int} (h : IsRow .u8 w a len cap zs) (hl : len ≤ 1048576) : CodeAt w w.heap.size a len zs := by
  refine ⟨hl, fun j hj => ?_⟩
  rcases h with ⟨rfl, rfl, _, _⟩ | ⟨x, rfl, h1, _, h3, h4, h5⟩
  · omega
  · obtain ⟨b, off, spot⟩ := x
    have hc := h4 j (by omega)
    have hspot : spot = none := by
      have := World.cell?_spot (h4 0 (by omega))
      simpa [Addr.add] using this
    subst hspot
    have hc2 : w.cell? ⟨b, off + j, none⟩ = some (.int .u8 (zs.getD j 0)) := by
      by_cases e : j = 0
      · subst e; simpa [Addr.add] using hc
      · simpa [Addr.add, e] using hc
    have hm : zs.getD j 0 ∈ zs := by
      rw [List.getD_eq_getElem?_getD, List.getElem?_eq_getElem (by omega)]
      exact List.getElem_mem _
    have hw := h5 _ hm
    have hr := bounds_u8 hw
    exact ⟨b, off, rfl, World.block_lt_of_cell? _ _ hc2, hc2, hr.1, by omega⟩


theorem respT_pos (m : Int) (fs : List (ByteArray × ByteArray)) (b : ByteArray) : 1 ≤ (respT m fs b).size := by
  have e1 : (⟨#[32]⟩ : ByteArray).size = 1 := rfl
  rw [← rest_resp]
  simp only [ByteArray.size_append]
  omega
set_option maxHeartbeats 4000000 in
set_option maxRecDepth 100000 in
theorem walk (a0 : Option Addr) (len0 cap0 : Nat) (z0 : List Int) (w : World) (w0 : IsRow .u8 w a0 len0 cap0 z0) (hT : TabOk w) (hL : LenOk w) :
    Calls Tryz.prog 3 #[.slice a0 len0 cap0] w fun e w' => e = .returned (.bool true) ∧ Below w.heap.size w w' := by
  by_cases hbig : (1048576 : Int) < (len0 : Int)
  · clear hT hL
    go_enter Tryz.func3, Tryz.ntmps3
    go_wp2_with (go_at_call 4; go_in)
    go_ret
    exact ⟨rfl, Below.refl _ _⟩
  · have hcode := w0.code (by omega)
    have HCODE : Hid (∀ W, Below w.heap.size w W → CodeAt W W.heap.size a0 len0 z0) := fun W h => (hcode.below h).upTo h.size
    have HT : Hid (∀ W, Below w.heap.size w W → TabOk W) := fun W h => hT.below h
    have HL : Hid (∀ W, Below w.heap.size w W → LenOk W) := fun W h => hL.below h hL.lt
    clear w0 hT hL
    go_enter Tryz.func3, Tryz.ntmps3
    go_wp2_with (go_at_call 4; go_in)
    refine (DrawRespText_any a0 len0 cap0 z0 _ hcode).mono ?_
    rintro e w1 ⟨m, v0, fs, b, rfl, own0, hfl, hsh, hbs, b1⟩
    have hwk : WalkF fs.length fs := fun i hi => by
      have := hsh.name i hi
      unfold maxLen; omega
    obtain ⟨n, hn⟩ : ∃ x, x = fs.length := ⟨_, rfl⟩
    rw [← hn] at own0 hwk hfl
    have HN : Hid (n = fs.length) := hn
    have HW : Hid (WalkF n fs) := hwk
    have HBM : Hid (b.size ≤ maxLen) := by show _ ≤ _; unfold maxLen; omega
    obtain ⟨o0, o0c, rfl⟩ := slice_of_owns own0
    have hb1 : Below w.heap.size w (w1.alloc (.cells #[.int .i64 m, .slice o0 n o0c, .string b] 26)) := b1.alloc b1.size _
    have L1 : Lies w1.heap.size #[.int .i64 m, .slice o0 n o0c, .string b] 26 w.heap.size w1.heap.size (.slice o0 n o0c) n fs (w1.alloc (.cells #[.int .i64 m, .slice o0 n o0c, .string b] 26)) := ⟨heap_alloc_new w1 _, own0.alloc _, fun j hj => (owns_block_lt own0 hj).2⟩
    have FV1 := FieldsV.of_owns L1.own
    have HL1 : Hid (Lies w1.heap.size #[.int .i64 m, .slice o0 n o0c, .string b] 26 w.heap.size w1.heap.size (.slice o0 n o0c) n fs (w1.alloc (.cells #[.int .i64 m, .slice o0 n o0c, .string b] 26))) := L1
    clear own0 b1 hsh hwk hn hcode L1
    go_wp2_with fail
    refine (implRespText_any m _ b n _ fs _ FV1 (by omega) HW.out HBM.out (HT.out _ hb1)).mono ?_
    rintro e w2 ⟨u, rfl, k1, k2, b2⟩
    have HK : Hid ((RespP m fs b → u = respT m fs b) ∧ (¬ RespP m fs b → u = ⟨#[]⟩)) := ⟨k1, k2⟩
    have hb2 := hb1.trans (b2.mono hb1.size)
    obtain ⟨q0, hq0⟩ : ∃ x, x = w1.heap.size := ⟨_, rfl⟩
    rw [← hq0] at HL1 ⊢
    have HL2 : Hid (Lies q0 #[.int .i64 m, .slice o0 n o0c, .string b] 26 w.heap.size q0 (.slice o0 n o0c) n fs w2) := HL1.out.below b2
    clear k1 k2 FV1 hb1 hq0 HL1 b2
    obtain ⟨⟨c0, c1, c2⟩, _⟩ := three_facts HL2.out.cell
    have FV2 := FieldsV.of_owns HL2.out.own
    go_wp2_with fail
    refine (specRespText_any m _ b n _ fs _ FV2 (by omega) HW.out HBM.out).mono ?_
    rintro e w3 ⟨u', rfl, k1, k2, b3⟩
    obtain rfl : u' = u := by
      by_cases h : RespP m fs b
      · rw [k1 h, HK.out.1 h]
      · rw [k2 h, HK.out.2 h]
    have hb3 := hb2.trans (b3.mono hb2.size)
    have HL3 : Hid (Lies q0 #[.int .i64 m, .slice o0 n o0c, .string b] 26 w.heap.size q0 (.slice o0 n o0c) n fs w3) := HL2.out.below b3
    have huu : (u'.toList == u'.toList) = true := by simp
    clear k1 k2 FV2 hb2 b3 HL2 c0 c1 c2
    obtain ⟨⟨c0, c1, c2⟩, _⟩ := three_facts HL3.out.cell
    have FV3 := FieldsV.of_owns HL3.out.own
    by_cases hP : RespP m fs b
    · have HI : Hid (IsResp u' m fs b) := ⟨hP, (HK.out.1 hP).symm⟩
      have hus : u'.size ≤ 3000000 := by
        have := respT_size hP
        rw [HK.out.1 hP]; omega
      have hue : u'.toList.isEmpty = false := isEmpty_no (by rw [HK.out.1 hP]; exact respT_pos m fs b)
      clear hP
      go_wp2_with fail
      refine (implRespOk_any m _ b n _ fs _ FV3 (by omega) HW.out HBM.out).mono ?_
      rintro e w4 ⟨x4, rfl, hx4, b4⟩
      obtain rfl : x4 = true := hx4.2 HI.out.1
      have hb4 := hb3.trans (b4.mono hb3.size)
      have HL4 : Hid (Lies q0 #[.int .i64 m, .slice o0 n o0c, .string b] 26 w.heap.size q0 (.slice o0 n o0c) n fs w4) := HL3.out.below b4
      clear hx4 FV3 hb3 b4 HL3 c0 c1 c2
      go_wp2_with fail
      refine (implRespRead_any u' _ hus (HT.out _ hb4) (HL.out _ hb4)).mono ?_
      intro e w5 h5
      obtain ⟨m', fs', b', v1, ok, rfl, own5, b5, G5, _⟩ := RespIs.form h5
      obtain ⟨e1, e2, e3, e4⟩ := RespGives.uniq (.inl ⟨rfl, HI.out⟩) G5.out
      subst e1 e2 e3 e4
      rw [← HN.out] at own5
      obtain ⟨o1, o1c, rfl⟩ := slice_of_owns own5
      obtain ⟨B5, hB5⟩ : ∃ x, x = w4.heap.size := ⟨_, rfl⟩
      rw [← hB5] at own5
      have hb5 := hb4.trans (b5.mono hb4.size)
      have bb5 : Below w5.heap.size w5 (w5.alloc (.cells #[.int .i64 m, .slice o1 n o1c, .string b] 26)) := (Below.refl _ _).alloc (Nat.le_refl _) _
      have hb6 : Below w.heap.size w (w5.alloc (.cells #[.int .i64 m, .slice o1 n o1c, .string b] 26)) := hb5.alloc hb5.size _
      have L6 := (HL4.out.below b5).below bb5
      have M6 : Lies w5.heap.size #[.int .i64 m, .slice o1 n o1c, .string b] 26 B5 w5.heap.size (.slice o1 n o1c) n fs (w5.alloc (.cells #[.int .i64 m, .slice o1 n o1c, .string b] 26)) := ⟨heap_alloc_new w5 _, own5.alloc _, fun j hj => (owns_block_lt own5 hj).2⟩
      obtain ⟨⟨c0, c1, c2⟩, _⟩ := three_facts L6.cell
      obtain ⟨⟨d0, d1, d2⟩, _⟩ := three_facts M6.cell
      have FVa := FieldsV.of_owns M6.own
      have FVb := FieldsV.of_owns L6.own
      have hmm : (m != m) = false := by simp
      have hbb : (b.toList == b.toList) = true := by simp
      clear h5 own5 b5 G5 hb5 bb5 L6 M6 hB5 HL4 hb4
      go_wp2_with fail
      refine (sameFields_any _ _ n _ _ fs _ FVa FVb (by omega)).mono ?_
      rintro e w7 ⟨rfl, b7⟩
      have hbT := hb6.trans (b7.mono hb6.size)
      clear b7 hb6 FVa FVb c0 c1 c2 d0 d1 d2 hmm hbb huu hue
      go_wp2_with fail
      refine (DrawRespRead_any a0 len0 cap0 z0 _ (HCODE.out _ hbT)).mono ?_
      rintro e t1 ⟨raw, rfl, hraw, bt1⟩
      have hbt1 := hbT.trans (bt1.mono hbT.size)
      clear bt1 hbT
      have hrw : raw.size ≤ 3000000 := by omega
      go_wp2_with fail
      refine (implRespRead_any raw _ hrw (HT.out _ hbt1) (HL.out _ hbt1)).mono ?_
      intro e t2 h2
      obtain ⟨m2, fs2, b2, v2, ok, rfl, own2, bt2, G2, hn8⟩ := RespIs.form h2
      obtain ⟨n2, hn2⟩ : ∃ x, x = fs2.length := ⟨_, rfl⟩
      rw [← hn2] at own2 hn8
      have HN2 : Hid (n2 = fs2.length) := hn2
      obtain ⟨o2, o2c, rfl⟩ := slice_of_owns own2
      have hbt2 := hbt1.trans (bt2.mono hbt1.size)
      have hbt3 : Below w.heap.size w (t2.alloc (.cells #[.int .i64 m2, .slice o2 n2 o2c, .string b2] 26)) := hbt2.alloc hbt2.size _
      obtain ⟨B2, hB2⟩ : ∃ x, x = t1.heap.size := ⟨_, rfl⟩
      rw [← hB2] at own2
      have L2 : Lies t2.heap.size #[.int .i64 m2, .slice o2 n2 o2c, .string b2] 26 B2 t2.heap.size (.slice o2 n2 o2c) n2 fs2 (t2.alloc (.cells #[.int .i64 m2, .slice o2 n2 o2c, .string b2] 26)) := ⟨heap_alloc_new t2 _, own2.alloc _, fun j hj => (owns_block_lt own2 hj).2⟩
      clear h2 own2 bt2 hbt2 hbt1 hn2 hB2
      go_wp2_with fail
      refine (specRespRead_any raw _ hrw).mono ?_
      intro e t3 h3
      obtain ⟨m3, fs3, b3, v3, ok', rfl, own3, bt3, G3, _⟩ := RespIs.form h3
      obtain ⟨e1, e2, e3, e4⟩ := G2.out.uniq G3.out
      subst e1 e2 e3 e4
      rw [← HN2.out] at own3
      obtain ⟨o3, o3c, rfl⟩ := slice_of_owns own3
      have hbt4 := hbt3.trans (bt3.mono hbt3.size)
      have bb4 : Below t3.heap.size t3 (t3.alloc (.cells #[.int .i64 m2, .slice o3 n2 o3c, .string b2] 26)) := (Below.refl _ _).alloc (Nat.le_refl _) _
      have hbt5 : Below w.heap.size w (t3.alloc (.cells #[.int .i64 m2, .slice o3 n2 o3c, .string b2] 26)) := hbt4.alloc hbt4.size _
      obtain ⟨q2, hq2⟩ : ∃ x, x = t2.heap.size := ⟨_, rfl⟩
      rw [← hq2] at L2 ⊢
      have HL5 : Hid (Lies q2 #[.int .i64 m2, .slice o2 n2 o2c, .string b2] 26 B2 q2 (.slice o2 n2 o2c) n2 fs2 (t3.alloc (.cells #[.int .i64 m2, .slice o3 n2 o3c, .string b2] 26))) := (L2.below bt3).below bb4
      obtain ⟨⟨d0, d1, d2⟩, _⟩ := three_facts HL5.out.cell
      clear L2 h3 own3 bt3 hbt3 hbt4 bb4 hq2 G3
      cases ok
      · have hm0 : m2 = 0 := by
          rcases G2.out with ⟨h, _⟩ | ⟨_, h, _⟩
          · cases h
          · exact h
        subst hm0
        have hok : (false == false) = true := rfl
        go_wp2_with fail
        go_ret
        exact ⟨rfl, hbt5⟩
      · have HI : Hid (IsResp raw m2 fs2 b2) := by
          rcases G2.out with ⟨_, h⟩ | ⟨h, _⟩
          · exact h
          · cases h
        have hok : (true == true) = true := rfl
        have HW2 : Hid (WalkF n2 fs2) := fun i hi => by
          have h8 := HI.out.1.2.1.2 i (by have := HN2.out; omega)
          have h9 := h8.1.2.1
          have h10 := h8.2.1.2.1
          unfold maxLen; omega
        have HBB : Hid (b2.size ≤ maxLen) := by
          have := HI.out.1.2.2
          show _ ≤ _
          unfold maxLen; omega
        have FV5 := FieldsV.of_owns HL5.out.own
        go_wp2_with fail
        refine (implRespText_any m2 _ b2 n2 _ fs2 _ FV5 (by omega) HW2.out HBB.out (HT.out _ hbt5)).mono ?_
        rintro e t6 ⟨u2, rfl, ku, _, bt6⟩
        have hu : u2 = raw := (ku HI.out.1).trans HI.out.2
        subst hu
        have hbt6 := hbt5.trans (bt6.mono hbt5.size)
        have HL6 : Hid (Lies q2 #[.int .i64 m2, .slice o2 n2 o2c, .string b2] 26 B2 q2 (.slice o2 n2 o2c) n2 fs2 t6) := HL5.out.below bt6
        have hrr : (u2.toList == u2.toList) = true := by simp
        clear ku bt6 hbt5 FV5 d0 d1 d2 HL5
        obtain ⟨⟨d0, d1, d2⟩, _⟩ := three_facts HL6.out.cell
        have FV6 := FieldsV.of_owns HL6.out.own
        go_wp2_with fail
        refine (implRespOk_any m2 _ b2 n2 _ fs2 _ FV6 (by omega) HW2.out HBB.out).mono ?_
        rintro e t7 ⟨k7, rfl, hk7, bt7⟩
        obtain rfl : k7 = true := hk7.2 HI.out.1
        have hbt7 := hbt6.trans (bt7.mono hbt6.size)
        clear hk7 bt7 hbt6 FV6 d0 d1 d2
        go_wp2_with fail
        go_ret
        exact ⟨rfl, hbt7⟩
    · have hu0 := HK.out.2 hP
      have HNP : Hid (¬ RespP m fs b) := hP
      clear HK
      subst hu0
      clear hP
      go_wp2_with fail
      refine (implRespOk_any m _ b n _ fs _ FV3 (by omega) HW.out HBM.out).mono ?_
      rintro e w4 ⟨x4, rfl, hx4, b4⟩
      obtain rfl : x4 = false := by
        cases x4
        · rfl
        · exact absurd (hx4.1 rfl) HNP.out
      have hbT := hb3.trans (b4.mono hb3.size)
      clear hx4 FV3 hb3 b4 HL3 c0 c1 c2
      go_wp2_with fail
      refine (DrawRespRead_any a0 len0 cap0 z0 _ (HCODE.out _ hbT)).mono ?_
      rintro e t1 ⟨raw, rfl, hraw, bt1⟩
      have hbt1 := hbT.trans (bt1.mono hbT.size)
      clear bt1 hbT
      have hrw : raw.size ≤ 3000000 := by omega
      go_wp2_with fail
      refine (implRespRead_any raw _ hrw (HT.out _ hbt1) (HL.out _ hbt1)).mono ?_
      intro e t2 h2
      obtain ⟨m2, fs2, b2, v2, ok, rfl, own2, bt2, G2, hn8⟩ := RespIs.form h2
      obtain ⟨n2, hn2⟩ : ∃ x, x = fs2.length := ⟨_, rfl⟩
      rw [← hn2] at own2 hn8
      have HN2 : Hid (n2 = fs2.length) := hn2
      obtain ⟨o2, o2c, rfl⟩ := slice_of_owns own2
      have hbt2 := hbt1.trans (bt2.mono hbt1.size)
      have hbt3 : Below w.heap.size w (t2.alloc (.cells #[.int .i64 m2, .slice o2 n2 o2c, .string b2] 26)) := hbt2.alloc hbt2.size _
      obtain ⟨B2, hB2⟩ : ∃ x, x = t1.heap.size := ⟨_, rfl⟩
      rw [← hB2] at own2
      have L2 : Lies t2.heap.size #[.int .i64 m2, .slice o2 n2 o2c, .string b2] 26 B2 t2.heap.size (.slice o2 n2 o2c) n2 fs2 (t2.alloc (.cells #[.int .i64 m2, .slice o2 n2 o2c, .string b2] 26)) := ⟨heap_alloc_new t2 _, own2.alloc _, fun j hj => (owns_block_lt own2 hj).2⟩
      clear h2 own2 bt2 hbt2 hbt1 hn2 hB2
      go_wp2_with fail
      refine (specRespRead_any raw _ hrw).mono ?_
      intro e t3 h3
      obtain ⟨m3, fs3, b3, v3, ok', rfl, own3, bt3, G3, _⟩ := RespIs.form h3
      obtain ⟨e1, e2, e3, e4⟩ := G2.out.uniq G3.out
      subst e1 e2 e3 e4
      rw [← HN2.out] at own3
      obtain ⟨o3, o3c, rfl⟩ := slice_of_owns own3
      have hbt4 := hbt3.trans (bt3.mono hbt3.size)
      have bb4 : Below t3.heap.size t3 (t3.alloc (.cells #[.int .i64 m2, .slice o3 n2 o3c, .string b2] 26)) := (Below.refl _ _).alloc (Nat.le_refl _) _
      have hbt5 : Below w.heap.size w (t3.alloc (.cells #[.int .i64 m2, .slice o3 n2 o3c, .string b2] 26)) := hbt4.alloc hbt4.size _
      obtain ⟨q2, hq2⟩ : ∃ x, x = t2.heap.size := ⟨_, rfl⟩
      rw [← hq2] at L2 ⊢
      have HL5 : Hid (Lies q2 #[.int .i64 m2, .slice o2 n2 o2c, .string b2] 26 B2 q2 (.slice o2 n2 o2c) n2 fs2 (t3.alloc (.cells #[.int .i64 m2, .slice o3 n2 o3c, .string b2] 26))) := (L2.below bt3).below bb4
      obtain ⟨⟨d0, d1, d2⟩, _⟩ := three_facts HL5.out.cell
      clear L2 h3 own3 bt3 hbt3 hbt4 bb4 hq2 G3
      cases ok
      · have hm0 : m2 = 0 := by
          rcases G2.out with ⟨h, _⟩ | ⟨_, h, _⟩
          · cases h
          · exact h
        subst hm0
        have hok : (false == false) = true := rfl
        go_wp2_with fail
        go_ret
        exact ⟨rfl, hbt5⟩
      · have HI : Hid (IsResp raw m2 fs2 b2) := by
          rcases G2.out with ⟨_, h⟩ | ⟨h, _⟩
          · exact h
          · cases h
        have hok : (true == true) = true := rfl
        have HW2 : Hid (WalkF n2 fs2) := fun i hi => by
          have h8 := HI.out.1.2.1.2 i (by have := HN2.out; omega)
          have h9 := h8.1.2.1
          have h10 := h8.2.1.2.1
          unfold maxLen; omega
        have HBB : Hid (b2.size ≤ maxLen) := by
          have := HI.out.1.2.2
          show _ ≤ _
          unfold maxLen; omega
        have FV5 := FieldsV.of_owns HL5.out.own
        go_wp2_with fail
        refine (implRespText_any m2 _ b2 n2 _ fs2 _ FV5 (by omega) HW2.out HBB.out (HT.out _ hbt5)).mono ?_
        rintro e t6 ⟨u2, rfl, ku, _, bt6⟩
        have hu : u2 = raw := (ku HI.out.1).trans HI.out.2
        subst hu
        have hbt6 := hbt5.trans (bt6.mono hbt5.size)
        have HL6 : Hid (Lies q2 #[.int .i64 m2, .slice o2 n2 o2c, .string b2] 26 B2 q2 (.slice o2 n2 o2c) n2 fs2 t6) := HL5.out.below bt6
        have hrr : (u2.toList == u2.toList) = true := by simp
        clear ku bt6 hbt5 FV5 d0 d1 d2 HL5
        obtain ⟨⟨d0, d1, d2⟩, _⟩ := three_facts HL6.out.cell
        have FV6 := FieldsV.of_owns HL6.out.own
        go_wp2_with fail
        refine (implRespOk_any m2 _ b2 n2 _ fs2 _ FV6 (by omega) HW2.out HBB.out).mono ?_
        rintro e t7 ⟨k7, rfl, hk7, bt7⟩
        obtain rfl : k7 = true := hk7.2 HI.out.1
        have hbt7 := hbt6.trans (bt7.mono hbt6.size)
        clear hk7 bt7 hbt6 FV6 d0 d1 d2
        go_wp2_with fail
        go_ret
        exact ⟨rfl, hbt7⟩

set_option maxRecDepth 100000 in
theorem contract (H : Type) (enc : TypeId × Value → H) (W : World) (base : Nat) (args : Array Value) (ds gs : List (DataW H)) (before : List MemPlace)
    (hval : ∀ (j : Nat) t v, Tryz.f3.params[j]? = some t → args[j]? = some v → Value.okWide Tryz.prog W .any base t v)
    (hW : DataW.Whole enc Tryz.prog Tryz.f3.params.toList Rows.fnResponsesSpec.vars false W args.toList ds gs before) (hL : laidMetH Tryz.prog Rows.fnResponsesRow.laid W) (hSh : W.ShapedOpen Tryz.prog) :
    Calls Tryz.prog 3 args W fun e W' => ∃ v, e = .returned v ∧ Rows.fnResponsesSpec.post enc Tryz.prog Tryz.f3 false true false false W args v W' := by
  have hT : TabOk W := table hL
  have hW' := hW
  obtain ⟨p, q, hA0, hV, rfl, hfz, hnd⟩ := hW
  have hA : DataW.TrodAll enc Tryz.prog W 0 (fun _ => true) true Tryz.f3.params.toList args.toList ds p := hA0
  rw [Tryz.params3] at hA hval
  obtain ⟨v0, vs0, d0, ds0, p0, q0, hargs, rfl, rfl, h0, r0⟩ := trodAll_cons hA
  obtain ⟨rfl, rfl, rfl⟩ := trodAll_nil r0
  obtain rfl : args = #[v0] := by cases args; simp_all
  obtain ⟨rfl, rfl⟩ := trodVars_none hV
  obtain ⟨a0, len0, cap0, rfl⟩ := okWide_slice Tryz.underlying22 (hval 0 22 v0 rfl rfl)
  have k0 := h0
  have lt0 : ∀ x ∈ p0, x.block < W.heap.size := by obtain ⟨m, hm⟩ := k0; exact DataW.trod_lt m _ _ _ hm
  obtain ⟨z0, w0⟩ : ∃ zs, IsRow .u8 W a0 len0 cap0 zs := by
    obtain ⟨fuel, hf⟩ := h0
    rcases open_ints Tryz.underlying22 Tryz.underlying5 (by kernel_rfl) hf with ⟨hcs, _⟩ | ⟨x, l, c, zs, hcs, _, hl, hm, hz, _, hcell, hwz⟩
    · simp [Value.cells] at hcs
      obtain ⟨rfl, rfl, rfl⟩ := hcs
      exact ⟨[], .inl ⟨rfl, rfl, rfl, rfl⟩⟩
    · simp [Value.cells] at hcs
      obtain ⟨rfl, rfl, rfl⟩ := hcs
      exact ⟨zs, .inr ⟨_, rfl, hl, hm, by simpa using hz, hcell, hwz⟩⟩
  clear hA0
  refine (walk a0 len0 cap0 z0 W w0 hT (Tryz.laysM145.s1_3 W hSh)).mono fun e W' ⟨he, bel⟩ => ?_
  subst he
  exact ⟨_, rfl, _, _, _, [], _, [], hW', trodAll_mk1 (shut_bool Tryz.underlying4 _), (trodAll_cons_mk (Below.trod laidOut (by kernel_rfl) (of_decide_eq_true (by kernel_rfl)) k0 bel lt0) trodAll_mk0), rfl, bel.frame _, fun h => by cases h⟩

theorem laid_met (os : Os) : laidMet Tryz.prog Rows.fnResponsesRow.laid ((withTables (World.holding Tryz.prog os ⟨#[], #[], []⟩)).forCall (fun _ _ => 0) ⟨#[], #[.slice none 0 0], []⟩).memory :=
  laidMet_of_run' 80 (by kernel_rfl) (by kernel_rfl)
theorem reads (os : Os) {H : Type} (enc : TypeId × Value → H) : ∃ places, DataW.whole enc Tryz.prog ((withTables (World.holding Tryz.prog os ⟨#[], #[], []⟩)).forCall (fun _ _ => 0) ⟨#[], #[.slice none 0 0], []⟩).memory Tryz.f3.params.toList Rows.fnResponsesSpec.vars false #[(.slice none 0 0 : Value)].toList 8 = some ([.nil], [], places) :=
  ⟨[], by kernel_rfl⟩

set_option maxRecDepth 100000 in
theorem lifted (os : Os) (started : os.Started) (H : Type) (enc : TypeId × Value → H) (F : Stop.Interp) :
    ReturnsInHanded {} Tryz.checked os 3 .any ((OpenSpec.ofChange Rows.fnResponsesSpec).preRow enc Tryz.prog Tryz.f3 Rows.fnResponsesRow.domain false Rows.fnResponsesRow.laid) (((OpenSpec.ofChange Rows.fnResponsesSpec).at F).post enc Tryz.prog Tryz.f3 false true false false) := by
  obtain ⟨places, hx⟩ := reads os enc
  refine returnsInHanded_of_row (C := Tryz.checked) (s := OpenSpec.ofChange Rows.fnResponsesSpec) own started (by kernel_rfl) Tryz.func3
    (witness_row_at (enc := enc) (C := Tryz.checked) false (withTables (World.holding Tryz.prog os ⟨#[], #[], []⟩)) #[.slice none 0 0] rfl (by kernel_rfl) (by kernel_rfl) (by kernel_rfl)
      (OpenSpec.preRow_of_cond 8 hx (by kernel_rfl) (fun k hk => by cases hk) (by kernel_rfl) (laid_met os))) ?_
  intro W base args ds gs before hval hW _ _ _ hL hSh _
  exact contract H enc W base args ds gs before hval hW hL hSh

theorem said : Rows.FnResponsesSaid :=
  OpenClaim.holds_of_cond 3 Tryz.f3 rfl rfl rfl rfl rfl rfl rfl ⟨rfl, rfl, rfl, rfl, rfl⟩ rfl rfl rfl rfl rfl (by kernel_rfl) Tryz.func3 (by kernel_rfl)
    (of_decide_eq_true (by kernel_rfl)) (by unfold Func.isWrapper; first | (rw [if_pos (by decide +kernel)]; kernel_rfl) | (rw [if_neg (by decide +kernel)]; exact ⟨rfl, rfl⟩))
    (fun os started H enc _ F => by rw [OpenClaim.pre_eq_preRow]; exact lifted os started H enc F)

theorem plain (f : FuncId) (fn : Func) (hf : Tryz.pinned.checked.prog.funcNamed "loop.example/g00239/laws.FnResponses" = some f) (hfn : Tryz.pinned.checked.prog.funcs[f]? = some fn) :
    false = Tryz.pinned.checked.prog.looks [] ∧ ∀ (j : Nat) t, fn.params[j]? = some t → Tryz.pinned.checked.prog.wantsStandIn t = false := by
  obtain rfl : f = 3 := Option.some.inj ((show Tryz.prog.funcNamed "loop.example/g00239/laws.FnResponses" = some 3 by kernel_rfl).symm.trans hf) |>.symm
  obtain rfl : fn = Tryz.f3 := (Option.some.inj (Tryz.func3.symm.trans hfn)).symm
  refine ⟨by kernel_rfl, fun j t ht => ?_⟩
  rw [Tryz.params3] at ht
  obtain rfl : t = 22 := by simpa using Array.mem_of_getElem? ht
  exact (show Tryz.prog.wantsStandIn 22 = false by kernel_rfl)

theorem card : Rows.FnResponsesCardSaid :=
  Claim7.holds_tied_plain_at .later [] _ _ _ _ said (fun _ h => by cases h) (by kernel_rfl) (fun _ h => by cases h) fnResponses_row_tie rfl ⟨rfl, rfl⟩ (by kernel_rfl) rfl plain (by kernel_rfl)
end fnResponses

theorem fnResponses_holds : Rows.FnResponsesCardSaid := fnResponses.card
#print axioms fnResponses_holds
end Go.Proofs.YtmmkbgkiglmgeaaGreatDoor
