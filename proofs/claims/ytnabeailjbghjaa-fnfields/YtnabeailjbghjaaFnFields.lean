/- What is put into drawn fields is got; dropped it is not; all others stay (the law answers true), and the code reads as it did: for every code, no condition. -/
import Derived.Test.YtnabeailjbghjaaFieldSame
import Derived.Test.YtnabeailjbghjaaRows
import Derived.WalkKit
import Derived.ProofKit
import Derived.OpenShut
import Derived.ShutString
import Derived.ChangeOld
import Derived.Below
namespace Go.Proofs.Ytnabeailjbghjaa
namespace fnFields
open Go.ChangeShapes Go.WideShapes Go.ChangeAt Go.RowKit

theorem own : ownKnob Try.prog.godebug = none := by kernel_rfl
theorem laidOut : laidOutB Try.prog = true := by kernel_rfl

def IsRow (k : IntKind) (w : World) (a : Option Addr) (len cap : Nat) (zs : List Int) : Prop :=
  (a = none ∧ len = 0 ∧ cap = 0 ∧ zs = []) ∨
  ∃ x, a = some x ∧ len ≤ cap ∧ cap ≤ maxLen ∧ zs.length = cap ∧ (∀ i, i < zs.length → w.cell? (x.add i) = some (.int k (zs.getD i 0))) ∧ ∀ n ∈ zs, (Lit.int k n).wf = true
theorem IsRow.code {w : World} {a : Option Addr} {len cap : Nat} {zs : List Int} (h : IsRow .u8 w a len cap zs) (hl : len ≤ 1048576) : CodeAt w w.heap.size a len zs := by
  refine ⟨hl, fun j hj => ?_⟩
  rcases h with ⟨rfl, rfl, _, _⟩ | ⟨x, rfl, h1, _, h3, h4, h5⟩
  · omega
  · obtain ⟨b, off, spot⟩ := x
    have hc := h4 j (by omega)
    have hspot : spot = none := by
      have := World.cell?_spot (h4 0 (by omega))
      simpa [Addr.add] using this
    subst hspot
    have hc2 : w.cell? ⟨b, off + j, none⟩ = some (.int .u8 (zs.getD j 0)) := by
      by_cases e : j = 0
      · subst e; simpa [Addr.add] using hc
      · simpa [Addr.add, e] using hc
    have hm : zs.getD j 0 ∈ zs := by
      rw [List.getD_eq_getElem?_getD, List.getElem?_eq_getElem (by omega)]
      exact List.getElem_mem _
    have hw := h5 _ hm
    have hr := bounds_u8 hw
    exact ⟨b, off, rfl, World.block_lt_of_cell? _ _ hc2, hc2, hr.1, by omega⟩

set_option maxHeartbeats 4000000 in
set_option maxRecDepth 100000 in
theorem walk (a0 : Option Addr) (len0 cap0 : Nat) (z0 : List Int) (w : World) (w0 : IsRow .u8 w a0 len0 cap0 z0) :
    Calls Try.prog 3 #[.slice a0 len0 cap0] w fun e w' => e = .returned (.bool true) ∧ Below w.heap.size w w' := by
  by_cases hbig : (1048576 : Int) < (len0 : Int)
  · go_enter Try.func3, Try.ntmps3
    go_wp2
    go_ret
    exact ⟨rfl, Below.refl _ _⟩
  · have hcode := w0.code (by omega)
    have HCODE : Hid (∀ W, Below w.heap.size w W → CodeAt W W.heap.size a0 len0 z0) := fun W h => (hcode.below h).upTo h.size
    clear w0
    go_enter Try.func3, Try.ntmps3
    go_wp2_with (go_at_call 9; go_in)
    refine (DrawPut_any a0 len0 cap0 z0 _ hcode).mono ?_
    rintro e w1 ⟨v0, fs, nm, tx, rfl, ownl, hfl, hsh, hnm, htx, hb1⟩
    clear hcode
    obtain ⟨nf, hnf⟩ : ∃ m, m = fs.length := ⟨_, rfl⟩
    obtain ⟨P, hP⟩ : ∃ P, P = putF fs nm tx := ⟨_, rfl⟩
    obtain ⟨np, hnp⟩ : ∃ m, m = P.length := ⟨_, rfl⟩
    obtain ⟨D, hD⟩ : ∃ D, D = dropF fs nm := ⟨_, rfl⟩
    obtain ⟨nd, hnd⟩ : ∃ m, m = D.length := ⟨_, rfl⟩
    have hnf2 : nf ≤ 40 := by omega
    have hnp2 : np ≤ 41 := by have := put_len fs nm tx; rw [← hP] at this; omega
    have hnd2 : nd ≤ 40 := by have := drop_len fs nm; rw [← hD] at this; omega
    have CF : Hid (CopyF fs) := hsh.copy
    have CP : Hid (CopyF P) := by show CopyF P; rw [hP]; exact (hsh.put hnm htx).copy
    have CD : Hid (CopyF D) := by show CopyF D; rw [hD]; exact (hsh.drop nm).copy
    have MF : Hid (∀ i, i < nf → (nameAt fs i).size ≤ maxLen ∧ (valAt fs i).size ≤ maxLen) := fun i hi => by
      have := hsh.name i (by omega)
      unfold maxLen; omega
    have TF : Hid ((fieldsText fs).size ≤ 1099511627776) := by
      show _ ≤ _
      unfold fieldsText
      have := hsh.sum fs.length (Nat.le_refl _)
      rw [ft_len]; omega
    have GOT : Hid (getV P nm = tx ∧ getB P nm = true) := by rw [hP]; exact put_got fs nm tx
    have OTH : Hid (∀ y, y ≠ nm → getV P y = getV fs y ∧ getB P y = getB fs y) := fun y hy => by rw [hP]; exact put_other fs nm tx y hy
    have GON : Hid (FldsOk fs → getB D nm = false) := fun h => by rw [hD]; exact drop_gone fs nm h
    have HPE : Hid (P = putF fs nm tx ∧ np = P.length) := ⟨hP, hnp⟩
    have HDE : Hid (D = dropF fs nm ∧ nd = D.length) := ⟨hD, hnd⟩
    have q1 : nm.size ≤ 281474976710656 := by omega
    have q2 : tx.size ≤ 281474976710656 := by omega
    rw [← hnf] at ownl
    have HL1 : Hid (w1.ownsRow w.heap.size 33 2 v0 nf (flatF fs)) := ownl
    clear ownl hP hnp hD hnd hfl hsh hnf hnm htx
    go_wp2_with fail
    refine (implPut_any v0 nf _ fs nm tx _ (FieldsV.of_owns HL1.out) (by omega) CF.out q1 q2).mono ?_
    rintro e w2 ⟨out, rfl, owno, b2⟩
    rw [← HPE.out.1, ← HPE.out.2] at owno
    have hb2 : Below w.heap.size w w2 := hb1.trans (b2.mono hb1.size)
    have HO2 : Hid (w2.ownsRow w.heap.size 33 2 out np (flatF P)) := owns_wide owno hb1.size
    have HL2 : Hid (w2.ownsRow w.heap.size 33 2 v0 nf (flatF fs)) := owns_below HL1.out b2 (fun g hg => owns_lt HL1.out hg)
    clear b2 owno
    clear hb1 HL1
    go_wp2_with fail
    refine (specPut_any v0 nf _ fs nm tx _ (FieldsV.of_owns HL2.out) (by omega)).mono ?_
    rintro e w3 ⟨s0, rfl, owns, b3⟩
    rw [← HPE.out.1, ← HPE.out.2] at owns
    have hb3 : Below w.heap.size w w3 := hb2.trans (b3.mono hb2.size)
    have HS3 : Hid (w3.ownsRow w.heap.size 33 2 s0 np (flatF P)) := owns_wide owns hb2.size
    have HL3 : Hid (w3.ownsRow w.heap.size 33 2 v0 nf (flatF fs)) := owns_below HL2.out b3 (fun g hg => owns_lt HL2.out hg)
    have HO3 : Hid (w3.ownsRow w.heap.size 33 2 out np (flatF P)) := owns_below HO2.out b3 (fun g hg => owns_lt HO2.out hg)
    clear b3 owns
    clear hb2 HL2 HO2
    go_wp2_with fail
    refine (sameFields_any out s0 np _ _ P _ (FieldsV.of_owns HO3.out) (FieldsV.of_owns HS3.out) (by omega)).mono ?_
    rintro e w4 ⟨rfl, b4⟩
    have hb4 : Below w.heap.size w w4 := hb3.trans (b4.mono hb3.size)
    have HL4 : Hid (w4.ownsRow w.heap.size 33 2 v0 nf (flatF fs)) := owns_below HL3.out b4 (fun g hg => owns_lt HL3.out hg)
    have HO4 : Hid (w4.ownsRow w.heap.size 33 2 out np (flatF P)) := owns_below HO3.out b4 (fun g hg => owns_lt HO3.out hg)
    clear b4
    clear hb3 HL3 HO3 HS3
    go_wp2_with fail
    refine (implFieldsOk_any v0 nf _ fs _ (FieldsV.of_owns HL4.out) (by omega) MF.out).mono ?_
    rintro e w5 ⟨o1, rfl, ho1, b5⟩
    have hb5 : Below w.heap.size w w5 := hb4.trans (b5.mono hb4.size)
    have HL5 : Hid (w5.ownsRow w.heap.size 33 2 v0 nf (flatF fs)) := owns_below HL4.out b5 (fun g hg => owns_lt HL4.out hg)
    have HO5 : Hid (w5.ownsRow w.heap.size 33 2 out np (flatF P)) := owns_below HO4.out b5 (fun g hg => owns_lt HO4.out hg)
    clear b5
    clear hb4 HL4 HO4
    go_wp2_with fail
    refine (specFieldsOk_any v0 nf _ fs _ (FieldsV.of_owns HL5.out) (by omega) MF.out).mono ?_
    rintro e w6 ⟨o2, rfl, ho2, b6⟩
    obtain rfl : o2 = o1 := Bool.eq_iff_iff.2 (ho2.trans ho1.symm)
    have HOK : Hid (o2 = true ↔ FldsOk fs) := ho2
    have tb : (o2 != o2) = false := by simp
    have hb6 : Below w.heap.size w w6 := hb5.trans (b6.mono hb5.size)
    have HL6 : Hid (w6.ownsRow w.heap.size 33 2 v0 nf (flatF fs)) := owns_below HL5.out b6 (fun g hg => owns_lt HL5.out hg)
    have HO6 : Hid (w6.ownsRow w.heap.size 33 2 out np (flatF P)) := owns_below HO5.out b6 (fun g hg => owns_lt HO5.out hg)
    clear b6 ho1 ho2
    clear hb5 HL5 HO5
    go_wp2_with fail
    refine (implGet_any out np _ P nm _ (FieldsV.of_owns HO6.out) (by omega) CP.out).mono ?_
    rintro e w7 ⟨rfl, b7⟩
    rw [GOT.out.1, GOT.out.2]
    have tx1 : (tx.toList == tx.toList) = true := by simp
    have hb7 : Below w.heap.size w w7 := hb6.trans (b7.mono hb6.size)
    have HL7 : Hid (w7.ownsRow w.heap.size 33 2 v0 nf (flatF fs)) := owns_below HL6.out b7 (fun g hg => owns_lt HL6.out hg)
    have HO7 : Hid (w7.ownsRow w.heap.size 33 2 out np (flatF P)) := owns_below HO6.out b7 (fun g hg => owns_lt HO6.out hg)
    clear b7 tb
    clear hb6 HL6 HO6
    obtain ⟨oa, ca, rfl, hrow7⟩ := (FieldsV.of_owns HL7.out).slice
    have HROW : Hid (∀ W, Below w7.heap.size w7 W → ∀ k, k < nf → ∃ g, oa = some ⟨g, 0, none⟩ ∧ W.cell? ⟨g, k * 2, none⟩ = some (.string (nameAt fs k))) := fun W h k hk => by
      obtain ⟨g, e, r⟩ := hrow7 k hk
      exact ⟨g, e, (r.below h r.lt).name k hk⟩
    have HLW : Hid (∀ W, Below w7.heap.size w7 W → W.ownsRow w.heap.size 33 2 (.slice oa nf ca) nf (flatF fs)) := fun W h => owns_below HL7.out h (fun g hg => owns_lt HL7.out hg)
    have HOW : Hid (∀ W, Below w7.heap.size w7 W → W.ownsRow w.heap.size 33 2 out np (flatF P)) := fun W h => owns_below HO7.out h (fun g hg => owns_lt HO7.out hg)
    clear hrow7 HL7 HO7 tx1
    go_wp2
    go_loopw [9] (fun i wr => ∃ k : Nat, k ≤ nf ∧ i = .int .i64 (k : Int) ∧ Below w7.heap.size w7 wr) (fun i _ => nf - (intOf i).toNat)
    case atStart => exact ⟨0, Nat.zero_le _, rfl, Below.refl _ _⟩
    case round =>
      obtain ⟨k, hk, rfl, hbr⟩ := hrel
      by_cases hlt : k < nf
      · have hlt2 : (k : Int) < (nf : Int) := by omega
        obtain ⟨g, rfl, hc⟩ := HROW.out _ hbr k hlt
        have HC : Hid (∀ W, Below w7.heap.size w7 W → W.cell? ⟨g, k * 2, none⟩ = some (.string (nameAt fs k))) := fun W h => by
          obtain ⟨g2, e2, h2⟩ := HROW.out W h k hlt
          cases e2
          exact h2
        obtain ⟨y, hy⟩ : ∃ y, y = nameAt fs k := ⟨_, rfl⟩
        rw [← hy] at hc HC
        clear hy
        go_wp2_with fail
        refine (implGet_any _ nf _ fs y _ (FieldsV.of_owns (HLW.out _ hbr)) (by omega) CF.out).mono ?_
        rintro e w8 ⟨rfl, b8⟩
        have hb8 : Below w7.heap.size w7 w8 := hbr.trans (b8.mono hbr.size)
        have hc8 := HC.out w8 hb8
        clear b8 hbr hc
        go_wp2_with fail
        refine (implGet_any _ np _ P y _ (FieldsV.of_owns (HOW.out _ hb8)) (by omega) CP.out).mono ?_
        rintro e w9 ⟨rfl, b9⟩
        have hb9 : Below w7.heap.size w7 w9 := hb8.trans (b9.mono hb8.size)
        have hc9 := HC.out w9 hb9
        clear b9 hb8 hc8
        by_cases hyn : y = nm
        · have ht := (text_beq _ _).2 hyn
          clear hyn
          go_wp2
          go_roundw
          case rel => exact ⟨k + 1, by omega, by go_num, hb9⟩
          case measure => simp [intOf]; omega
        · have ht := text_beq_no hyn
          rw [(OTH.out y hyn).1, (OTH.out y hyn).2]
          obtain ⟨gv, hgv⟩ : ∃ z, z = getV fs y := ⟨_, rfl⟩
          obtain ⟨gb, hgb⟩ : ∃ z, z = getB fs y := ⟨_, rfl⟩
          rw [← hgv, ← hgb]
          clear hgv hgb hyn
          have tv : (gv.toList == gv.toList) = true := by simp
          have tb : (gb != gb) = false := by simp
          go_wp2
          go_roundw
          case rel => exact ⟨k + 1, by omega, by go_num, hb9⟩
          case measure => simp [intOf]; omega
      · have HLr : Hid (wr.ownsRow w.heap.size 33 2 (.slice oa nf ca) nf (flatF fs)) := HLW.out wr hbr
        have hbwr : Below w.heap.size w wr := hb7.trans (hbr.mono hb7.size)
        clear HROW HLW HOW hbr
        go_wp2_with fail
        refine (implDrop_any _ nf _ fs nm _ (FieldsV.of_owns HLr.out) (by omega) CF.out).mono ?_
        rintro e w10 ⟨less, rfl, ownd, b10⟩
        rw [← HDE.out.1, ← HDE.out.2] at ownd
        have hb10 : Below w.heap.size w w10 := hbwr.trans (b10.mono hbwr.size)
        have HE10 : Hid (w10.ownsRow w.heap.size 33 2 less nd (flatF D)) := owns_wide ownd hbwr.size
        have HL10 : Hid (w10.ownsRow w.heap.size 33 2 (.slice oa nf ca) nf (flatF fs)) := owns_below HLr.out b10 (fun g hg => owns_lt HLr.out hg)
        clear b10 ownd HLr hbwr
        go_wp2_with fail
        refine (implGet_any less nd _ D nm _ (FieldsV.of_owns HE10.out) (by omega) CD.out).mono ?_
        rintro e w11 ⟨rfl, b11⟩
        obtain ⟨dv, hdv⟩ : ∃ z, z = getV D nm := ⟨_, rfl⟩
        obtain ⟨db, hdb⟩ : ∃ z, z = getB D nm := ⟨_, rfl⟩
        rw [← hdv, ← hdb]
        have GO2 : Hid (FldsOk fs → db = false) := by rw [hdb]; exact GON.out
        clear hdv hdb GON
        have hb11 : Below w.heap.size w w11 := hb10.trans (b11.mono hb10.size)
        have HE11 : Hid (w11.ownsRow w.heap.size 33 2 less nd (flatF D)) := owns_below HE10.out b11 (fun g hg => owns_lt HE10.out hg)
        have HL11 : Hid (w11.ownsRow w.heap.size 33 2 (.slice oa nf ca) nf (flatF fs)) := owns_below HL10.out b11 (fun g hg => owns_lt HL10.out hg)
        clear b11 HE10 HL10 hb10
        go_wp2_with fail
        refine (DrawGet_any a0 len0 cap0 z0 _ (HCODE.out w11 hb11)).mono ?_
        rintro e w12 ⟨x0, xs, y, rfl, ownx, hxl, hxs, hy, b12⟩
        obtain ⟨nx, hnx⟩ : ∃ m, m = xs.length := ⟨_, rfl⟩
        rw [← hnx] at ownx
        have hnx2 : nx ≤ 40 := by omega
        have CX : Hid (CopyF xs) := hxs.copy
        have hb12 : Below w.heap.size w w12 := hb11.trans (b12.mono hb11.size)
        have HX12 : Hid (w12.ownsRow w.heap.size 33 2 x0 nx (flatF xs)) := owns_wide ownx hb11.size
        have HE12 : Hid (w12.ownsRow w.heap.size 33 2 less nd (flatF D)) := owns_below HE11.out b12 (fun g hg => owns_lt HE11.out hg)
        have HL12 : Hid (w12.ownsRow w.heap.size 33 2 (.slice oa nf ca) nf (flatF fs)) := owns_below HL11.out b12 (fun g hg => owns_lt HL11.out hg)
        clear b12 HE11 HL11 hb11 ownx hxl hxs hy hnx HCODE
        go_wp2_with fail
        refine (implGet_any x0 nx _ xs y _ (FieldsV.of_owns HX12.out) (by omega) CX.out).mono ?_
        rintro e w13 ⟨rfl, b13⟩
        have hb13 : Below w.heap.size w w13 := hb12.trans (b13.mono hb12.size)
        have HX13 : Hid (w13.ownsRow w.heap.size 33 2 x0 nx (flatF xs)) := owns_below HX12.out b13 (fun g hg => owns_lt HX12.out hg)
        have HE13 : Hid (w13.ownsRow w.heap.size 33 2 less nd (flatF D)) := owns_below HE12.out b13 (fun g hg => owns_lt HE12.out hg)
        have HL13 : Hid (w13.ownsRow w.heap.size 33 2 (.slice oa nf ca) nf (flatF fs)) := owns_below HL12.out b13 (fun g hg => owns_lt HL12.out hg)
        clear b13 HX12 HE12 HL12 hb12
        go_wp2_with fail
        refine (specGet_any x0 nx _ xs y _ (FieldsV.of_owns HX13.out) (by omega)).mono ?_
        rintro e w14 ⟨rfl, rfl⟩
        obtain ⟨gv, hgv⟩ : ∃ z, z = getV xs y := ⟨_, rfl⟩
        obtain ⟨gb, hgb⟩ : ∃ z, z = getB xs y := ⟨_, rfl⟩
        rw [← hgv, ← hgb]
        have tv : (gv.toList == gv.toList) = true := by simp
        have tb : (gb == gb) = true := by simp
        clear hgv hgb HX13 CX
        go_wp2_with fail
        refine (specDrop_any _ nf _ fs nm _ (FieldsV.of_owns HL13.out) (by omega)).mono ?_
        rintro e w15 ⟨d0, rfl, ownq, b15⟩
        rw [← HDE.out.1, ← HDE.out.2] at ownq
        have hb15 : Below w.heap.size w w15 := hb13.trans (b15.mono hb13.size)
        have HQ15 : Hid (w15.ownsRow w.heap.size 33 2 d0 nd (flatF D)) := owns_wide ownq hb13.size
        have HE15 : Hid (w15.ownsRow w.heap.size 33 2 less nd (flatF D)) := owns_below HE13.out b15 (fun g hg => owns_lt HE13.out hg)
        have HL15 : Hid (w15.ownsRow w.heap.size 33 2 (.slice oa nf ca) nf (flatF fs)) := owns_below HL13.out b15 (fun g hg => owns_lt HL13.out hg)
        clear b15 HE13 HL13 hb13 ownq
        go_wp2_with fail
        refine (sameFields_any less d0 nd _ _ D _ (FieldsV.of_owns HE15.out) (FieldsV.of_owns HQ15.out) (by omega)).mono ?_
        rintro e w16 ⟨rfl, b16⟩
        have hb16 : Below w.heap.size w w16 := hb15.trans (b16.mono hb15.size)
        have HL16 : Hid (w16.ownsRow w.heap.size 33 2 (.slice oa nf ca) nf (flatF fs)) := owns_below HL15.out b16 (fun g hg => owns_lt HL15.out hg)
        clear b16 HE15 HL15 HQ15 hb15
        obtain ⟨ft, hft⟩ : ∃ z, z = fieldsText fs := ⟨_, rfl⟩
        have HFT : Hid (fieldsText fs = ft) := hft.symm
        have tf : (ft.toList == ft.toList) = true := by simp
        clear hft
        cases db
        · clear GO2
          go_wp2_with fail
          refine (implFieldsText_any _ nf _ fs _ (FieldsV.of_owns HL16.out) (by omega) TF.out).mono ?_
          rintro e w18 ⟨rfl, b18⟩
          rw [HFT.out]
          have hb18 : Below w.heap.size w w18 := hb16.trans (b18.mono hb16.size)
          have HL18 : Hid (w18.ownsRow w.heap.size 33 2 (.slice oa nf ca) nf (flatF fs)) := owns_below HL16.out b18 (fun g hg => owns_lt HL16.out hg)
          clear b18 HL16 hb16
          go_wp2_with fail
          refine (specFieldsText_any _ nf _ fs _ (FieldsV.of_owns HL18.out) (by omega) TF.out).mono ?_
          rintro e w19 ⟨rfl, b19⟩
          rw [HFT.out]
          have hb19 : Below w.heap.size w w19 := hb18.trans (b19.mono hb18.size)
          clear b19 HL18 hb18
          go_wp2_with fail
          go_ret
          exact ⟨rfl, hb19⟩
        · go_wp2_with fail
          refine (implFieldsOk_any _ nf _ fs _ (FieldsV.of_owns HL16.out) (by omega) MF.out).mono ?_
          rintro e w17 ⟨o3, rfl, ho3, b17⟩
          obtain rfl : o3 = false := by
            cases o3
            · rfl
            · have := GO2.out (ho3.1 rfl); cases this
          have hb17 : Below w.heap.size w w17 := hb16.trans (b17.mono hb16.size)
          have HL17 : Hid (w17.ownsRow w.heap.size 33 2 (.slice oa nf ca) nf (flatF fs)) := owns_below HL16.out b17 (fun g hg => owns_lt HL16.out hg)
          clear b17 HL16 hb16 ho3 GO2
          go_wp2_with fail
          refine (implFieldsText_any _ nf _ fs _ (FieldsV.of_owns HL17.out) (by omega) TF.out).mono ?_
          rintro e w18 ⟨rfl, b18⟩
          rw [HFT.out]
          have hb18 : Below w.heap.size w w18 := hb17.trans (b18.mono hb17.size)
          have HL18 : Hid (w18.ownsRow w.heap.size 33 2 (.slice oa nf ca) nf (flatF fs)) := owns_below HL17.out b18 (fun g hg => owns_lt HL17.out hg)
          clear b18 HL17 hb17
          go_wp2_with fail
          refine (specFieldsText_any _ nf _ fs _ (FieldsV.of_owns HL18.out) (by omega) TF.out).mono ?_
          rintro e w19 ⟨rfl, b19⟩
          rw [HFT.out]
          have hb19 : Below w.heap.size w w19 := hb18.trans (b19.mono hb18.size)
          clear b19 HL18 hb18
          go_wp2_with fail
          go_ret
          exact ⟨rfl, hb19⟩

set_option maxRecDepth 100000 in
theorem lifted (os : Os) (started : os.Started) (H : Type) (enc : TypeId × Value → H) :
    ReturnsInHanded {} Try.checked os 3 .any (Rows.fnFieldsSpec.pre6 enc Try.prog Try.f3 Rows.fnFieldsRow.domain false) (Rows.fnFieldsSpec.post enc Try.prog Try.f3 false true false false) := by
  refine returnsInHanded_of_change (C := Try.checked) own started (by kernel_rfl) Try.func3
    (ChangeSpec.witness6 (enc := enc) (C := Try.checked) false ⟨#[], #[.slice none 0 0], []⟩ 8 (by kernel_rfl) (by kernel_rfl) (by kernel_rfl) (by kernel_rfl)) ?_
  intro W base args ds gs before hval0 hW _ _
  have hval : ∀ (j : Nat) t v, Try.f3.params[j]? = some t → args[j]? = some v → Value.okWide Try.prog W .any base t v := hval0
  have hW' := hW
  obtain ⟨p, q, hA0, hV, rfl, hfz, hnd⟩ := hW
  have hA : DataW.TrodAll enc Try.prog W 0 (fun _ => true) true Try.f3.params.toList args.toList ds p := hA0
  rw [Try.params3] at hA hval
  obtain ⟨v0, vs0, d0, ds0, p0, q0, hargs, rfl, rfl, h0, r0⟩ := trodAll_cons hA
  obtain ⟨rfl, rfl, rfl⟩ := trodAll_nil r0
  obtain rfl : args = #[v0] := by cases args; simp_all
  obtain ⟨rfl, rfl⟩ := trodVars_none hV
  obtain ⟨a0, len0, cap0, rfl⟩ := okWide_slice Try.underlying22 (hval 0 22 v0 rfl rfl)
  have k0 := h0
  have lt0 : ∀ x ∈ p0, x.block < W.heap.size := by obtain ⟨m, hm⟩ := k0; exact DataW.trod_lt m _ _ _ hm
  obtain ⟨z0, w0⟩ : ∃ zs, IsRow .u8 W a0 len0 cap0 zs := by
    obtain ⟨fuel, hf⟩ := h0
    rcases open_ints Try.underlying22 Try.underlying5 (by kernel_rfl) hf with ⟨hcs, _⟩ | ⟨x, l, c, zs, hcs, _, hl, hm, hz, _, hcell, hwz⟩
    · simp [Value.cells] at hcs
      obtain ⟨rfl, rfl, rfl⟩ := hcs
      exact ⟨[], .inl ⟨rfl, rfl, rfl, rfl⟩⟩
    · simp [Value.cells] at hcs
      obtain ⟨rfl, rfl, rfl⟩ := hcs
      exact ⟨zs, .inr ⟨_, rfl, hl, hm, by simpa using hz, hcell, hwz⟩⟩
  clear hA0 hval0
  refine (walk a0 len0 cap0 z0 W w0).mono fun e W' ⟨he, bel⟩ => ?_
  subst he
  exact ⟨_, rfl, _, _, _, [], _, [], hW', trodAll_mk1 (shut_bool Try.underlying4 _), (trodAll_cons_mk (Below.trod laidOut (by kernel_rfl) (of_decide_eq_true (by kernel_rfl)) k0 bel lt0) trodAll_mk0), rfl, bel.frame _, fun h => by cases h⟩

theorem over : Rows.fnFieldsRow.holds Try.pinned (OpenSpec.ofChange Rows.fnFieldsSpec) :=
  OpenClaim.holds_of_wide 3 Try.f3 rfl rfl rfl rfl rfl rfl rfl ⟨rfl, rfl, rfl, rfl, rfl⟩ rfl rfl rfl rfl rfl (by kernel_rfl) Try.func3 (by kernel_rfl)
    (of_decide_eq_true (by kernel_rfl)) (by unfold Func.isWrapper; first | (rw [if_pos (by decide +kernel)]; kernel_rfl) | (rw [if_neg (by decide +kernel)]; exact ⟨rfl, rfl⟩))
    (fun os started H enc _ => lifted os started H enc)
end fnFields

theorem fnFields_holds : Rows.FnFieldsSaid := fnFields.over
#print axioms fnFields_holds
end Go.Proofs.Ytnabeailjbghjaa
