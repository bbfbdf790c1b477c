/- At every line and every piece Feed of the program answers as the specification's (the law answers true), its answer owns its memory, and the arguments read as they did: no condition. The tables that strconv's text names hold what the program's text lays (the card ties them). -/
import Derived.Test.YtacfajnagbeocaaGreatDoorFnExactFeedC
import Derived.Below
import Derived.ChangeOld
import Derived.ShutString
import Derived.Deep.RegionHeld3
import Derived.Deep.DrawnRows
namespace Go.Proofs.YtacfajnagbeocaaGreatDoor
namespace fnExactFeed
open Go.ChangeShapes Go.WideShapes Go.ChangeAt Go.RowKit
open Go.ChangeMaps (open_string shut_string)
attribute [local go_sem ↓] Go.wp_at_zero Go.wp_at_succ

theorem own : ownKnob Tryz.prog.godebug = none := by kernel_rfl
theorem laidOut : laidOutB Tryz.prog = true := by kernel_rfl

set_option maxHeartbeats 4000000 in
set_option maxRecDepth 100000 in
theorem walk1 (w : World) (s : ByteArray) (b : Bool) (hs : s.size ≤ maxLen) (p : ByteArray) (hp : p.size ≤ maxLen) (hT : TabOk w) (hL : LenOk w) :
    Calls Tryz.prog 3 #[.agg #[.string s, .bool b], .string p] w fun e w' => e = .returned (.bool true) ∧ Below w.heap.size w w' := by
  have HT : Hid (∀ W, Below w.heap.size w W → TabOk W) := fun W h => hT.below h
  have HL : Hid (∀ W, Below w.heap.size w W → LenOk W) := fun W h => hL.below h hL.lt
  have HSM : Hid (s.size ≤ maxLen) := hs
  unfold maxLen at hp
  clear hT hL hs
  obtain ⟨r, hr⟩ : ∃ r, r = w.heap.size := ⟨_, rfl⟩
  have HC : Hid (∀ W, Below (w.alloc (Obj.cells #[.string s, .bool b] 23)).heap.size (w.alloc (Obj.cells #[.string s, .bool b] 23)) W → (W.cell? ⟨r, 0, none⟩ = some (.string s) ∧ W.cell? ⟨r, 1, none⟩ = some (.bool b)) ∧ Below w.heap.size w W) := fun W h => by
    have hh := kept_new h
    rw [← hr] at hh
    exact ⟨⟨by simp [World.cell?, hh], by simp [World.cell?, hh]⟩, below_new h⟩
  have HB0 : Hid (Below (w.alloc (Obj.cells #[.string s, .bool b] 23)).heap.size (w.alloc (Obj.cells #[.string s, .bool b] 23)) (w.alloc (Obj.cells #[.string s, .bool b] 23))) := Below.refl _ _
  have HBW : Hid (Below w.heap.size w (w.alloc (Obj.cells #[.string s, .bool b] 23))) := below_new (Below.refl _ _)
  by_cases hbig : (1048576 : Int) < (p.size : Int)
  · go_enter Tryz.func3, Tryz.ntmps3
    go_wp2_with fail
    go_ret
    exact ⟨rfl, HBW.out⟩
  · go_enter Tryz.func3, Tryz.ntmps3
    go_wp2_with fail
    refine (szStream_any s b 1048576 _ HSM.out (by omega)).mono ?_
    rintro e w1 ⟨z, rfl, hz, b1⟩
    rw [← hr]
    have HB1 : Hid (Below (w.alloc (Obj.cells #[.string s, .bool b] 23)).heap.size (w.alloc (Obj.cells #[.string s, .bool b] 23)) w1) := b1
    obtain ⟨⟨c0, c1⟩, bw1⟩ := HC.out w1 b1
    clear b1 hr
    by_cases hz0 : z < 0
    · clear hz
      go_wp2_with fail
      go_ret
      exact ⟨rfl, bw1⟩
    · have hsz : s.size ≤ 1048576 := hz hz0
      have hsp : s.size + p.size ≤ 2200000 := by omega
      clear hz
      go_wp2_with fail
      refine (toStream_any s b _).mono ?_
      rintro e w2 ⟨rfl, b2⟩
      have HB2 : Hid (Below (w.alloc (Obj.cells #[.string s, .bool b] 23)).heap.size (w.alloc (Obj.cells #[.string s, .bool b] 23)) w2) := HB1.out.trans (b2.mono HB1.out.size)
      clear b2 c0 c1 bw1
      go_wp2_with fail
      refine (specFeed_any s b p _ hsp).mono ?_
      rintro e w3 ⟨u, c, V1, rv1, rfl, O1, K1, F1, b3⟩
      have HB3 : Hid (Below (w.alloc (Obj.cells #[.string s, .bool b] 23)).heap.size (w.alloc (Obj.cells #[.string s, .bool b] 23)) (w3.alloc (Obj.cells #[.string u, .bool c] 25))) := (HB2.out.trans (b3.mono HB2.out.size)).alloc (HB2.out.trans (b3.mono HB2.out.size)).size _
      have HO1 : Hid (ReqsO (w3.alloc (Obj.cells #[.string u, .bool c] 25)) w2.heap.size V1 rv1) := O1.later ((Below.refl _ w3).alloc (Nat.le_refl _) _)
      have HX1 : Hid (∀ j, V1.ownBlock = some j ∨ (∃ x ∈ rv1, x.2.ownBlock = some j) → j < w3.heap.size) := fun j hj => (O1.lt j hj).2
      have HK1 : Hid (∀ x ∈ rv1, x.1.ok) := K1
      have HF1 : Hid (FeedP okL lenL (bs s) b (bs p) (bs u) c (rv1.map (fun x => x.1.text))) := F1
      obtain ⟨q1, hq1⟩ : ∃ x, x = w3.heap.size := ⟨_, rfl⟩
      rw [← hq1] at HX1
      have HQ1 : Hid ((w3.alloc (Obj.cells #[.string u, .bool c] 25)).heap[q1]? = some (Obj.cells #[.string u, .bool c] 25)) := by show _ = _; rw [hq1]; exact heap_alloc_new _ _
      obtain ⟨⟨c0, c1⟩, _⟩ := HC.out _ HB3.out
      clear O1 K1 F1 b3
      go_wp2_with fail
      refine (toStream_any s b _).mono ?_
      rintro e w4 ⟨rfl, b4⟩
      rw [← hq1]
      clear hq1
      have HB4 : Hid (Below (w.alloc (Obj.cells #[.string s, .bool b] 23)).heap.size (w.alloc (Obj.cells #[.string s, .bool b] 23)) w4) := HB3.out.trans (b4.mono HB3.out.size)
      have HO1b : Hid (ReqsO w4 w2.heap.size V1 rv1) := HO1.out.later b4
      have HQ1b : Hid (w4.heap[q1]? = some (Obj.cells #[.string u, .bool c] 25)) := by show _ = _; rw [b4.block q1 (Array.getElem?_eq_some_iff.1 HQ1.out).1]; exact HQ1.out
      clear b4 c0 c1 HO1 HQ1 HB3
      go_wp2_with fail
      refine (implFeed_any s b p _ hsp (HT.out _ (HC.out _ HB4.out).2) (HL.out _ (HC.out _ HB4.out).2)).mono ?_
      rintro e w5 ⟨u', c', V2, rv2, rfl, O2, K2, F2, b5⟩
      obtain ⟨e1, e2, HE2⟩ := told_same F2 HF1.out K2 HK1.out
      have e1 := bs_inj e1
      subst e1 e2
      obtain ⟨B, hB⟩ : ∃ x, x = w4.heap.size := ⟨_, rfl⟩
      rw [← hB] at O2
      have HXB : Hid (∀ j, V1.ownBlock = some j ∨ (∃ x ∈ rv1, x.2.ownBlock = some j) → j < B) := fun j hj => by rw [hB]; exact (HO1b.out.lt j hj).2
      have HQB : Hid (q1 < B) := by show _ < _; rw [hB]; exact (Array.getElem?_eq_some_iff.1 HQ1b.out).1
      have HCB : Hid ((w.alloc (Obj.cells #[.string s, .bool b] 23)).heap.size ≤ B) := by show _ ≤ _; rw [hB]; exact HB4.out.size
      have HBB : Hid (B ≤ w5.heap.size) := by show _ ≤ _; rw [hB]; exact b5.size
      obtain ⟨q2, hq2⟩ : ∃ x, x = w5.heap.size := ⟨_, rfl⟩
      have b5' : Below w4.heap.size w4 (w5.alloc (Obj.cells #[.string u', .bool c'] 25)) := b5.alloc b5.size _
      have HB5 : Hid (Below (w.alloc (Obj.cells #[.string s, .bool b] 23)).heap.size (w.alloc (Obj.cells #[.string s, .bool b] 23)) (w5.alloc (Obj.cells #[.string u', .bool c'] 25))) := HB4.out.trans (b5'.mono HB4.out.size)
      have HO1c : Hid (ReqsO (w5.alloc (Obj.cells #[.string u', .bool c'] 25)) w2.heap.size V1 rv1) := HO1b.out.later b5'
      have HO2 : Hid (ReqsO (w5.alloc (Obj.cells #[.string u', .bool c'] 25)) B V2 rv2) := O2.later ((Below.refl _ w5).alloc (Nat.le_refl _) _)
      have HQ2 : Hid ((w5.alloc (Obj.cells #[.string u', .bool c'] 25)).heap[q2]? = some (Obj.cells #[.string u', .bool c'] 25)) := by show _ = _; rw [hq2]; exact heap_alloc_new _ _
      have HQ1c : Hid ((w5.alloc (Obj.cells #[.string u', .bool c'] 25)).heap[q1]? = some (Obj.cells #[.string u', .bool c'] 25)) := by show _ = _; rw [b5'.block q1 (Array.getElem?_eq_some_iff.1 HQ1b.out).1]; exact HQ1b.out
      have HK2 : Hid (∀ x ∈ rv2, x.1.ok) := K2
      have HE : Hid (rv2.map Prod.fst = rv1.map Prod.fst) := HE2
      have hn2 : 4 * rv2.length ≤ s.size + p.size := by have := F2.few; rw [bs_len, bs_len, List.length_map] at this; exact this
      have HF2 : Hid (FeedP okL lenL (bs s) b (bs p) (bs u') c' (rv2.map (fun x => x.1.text))) := F2
      have HKB : Hid (kAt rv2 rv2.length ≤ 9999000) := by
        have := kAt_le rv2 rv2.length (fun x hx => ok_few (K2 x hx))
        show _ ≤ _
        omega
      have k0 : (w5.alloc (Obj.cells #[.string u', .bool c'] 25)).cell? ⟨q1, 0, none⟩ = some (.string u') := by simp [World.cell?, HQ1c.out]
      have k1 : (w5.alloc (Obj.cells #[.string u', .bool c'] 25)).cell? ⟨q1, 1, none⟩ = some (.bool c') := by simp [World.cell?, HQ1c.out]
      clear O2 K2 F2 HE2 b5 b5' hB HO1b HQ1b HF1 HB4
      go_wp2_with fail
      refine (eqStream_any u' c' _).mono ?_
      rintro e w6 ⟨rfl, b6⟩
      rw [← hq2]
      clear hq2 HQ2
      have HB6 : Hid (Below (w.alloc (Obj.cells #[.string s, .bool b] 23)).heap.size (w.alloc (Obj.cells #[.string s, .bool b] 23)) w6) := HB5.out.trans (b6.mono HB5.out.size)
      have HO1d : Hid (ReqsO w6 w2.heap.size V1 rv1) := HO1c.out.later b6
      have HO2d : Hid (ReqsO w6 B V2 rv2) := HO2.out.later b6
      have HQ1d : Hid (w6.heap[q1]? = some (Obj.cells #[.string u', .bool c'] 25)) := by show _ = _; rw [b6.block q1 (Array.getElem?_eq_some_iff.1 HQ1c.out).1]; exact HQ1c.out
      have HBd : Hid (B ≤ w6.heap.size) := by show _ ≤ _; have h1 := b6.size; simp at h1; have := HBB.out; omega
      have H8 : Hid (∀ x ∈ rv2, x.1.fs.length ≤ 2000000) := fun x hx => by have := ok_few (HK2.out x hx); omega
      clear b6 k0 k1 HO1c HO2 HQ1c HB5 HBB
      go_wp2_with fail
      refine (eqReqS_any B w2.heap.size V2 V1 rv2 rv1 _ HO2d.out HO1d.out HE.out (by omega) H8.out).mono ?_
      rintro e w7 ⟨rfl, b7⟩
      have HB7 : Hid (Below (w.alloc (Obj.cells #[.string s, .bool b] 23)).heap.size (w.alloc (Obj.cells #[.string s, .bool b] 23)) w7) := HB6.out.trans (b7.mono HB6.out.size)
      have HO1e : Hid (ReqsO w7 w2.heap.size V1 rv1) := HO1d.out.later b7
      have HO2e : Hid (ReqsO w7 B V2 rv2) := HO2d.out.later b7
      have HQ1e : Hid (w7.heap[q1]? = some (Obj.cells #[.string u', .bool c'] 25)) := by show _ = _; rw [b7.block q1 (Array.getElem?_eq_some_iff.1 HQ1d.out).1]; exact HQ1d.out
      have HBe : Hid (B ≤ w7.heap.size) := Nat.le_trans HBd.out b7.size
      clear b7 HO1d HO2d HQ1d HB6 HBd
      go_wp2_with fail
      refine (markReqS_any B V2 rv2 _ HO2e.out HBe.out HKB.out).mono ?_
      rintro e w8 ⟨rfl, O8, b8⟩
      obtain ⟨kk, hkk⟩ : ∃ x, x = kAt rv2 rv2.length := ⟨_, rfl⟩
      have hkp := kAt_pos rv2 rv2.length
      rw [← hkk] at hkp
      rw [← hkk]
      have HKK : Hid (kAt rv2 rv2.length = kk) := hkk.symm
      have hkb : kk ≤ 9999000 := by rw [hkk]; exact HKB.out
      have HB8 : Hid (Below (w.alloc (Obj.cells #[.string s, .bool b] 23)).heap.size (w.alloc (Obj.cells #[.string s, .bool b] 23)) w8) := HB7.out.trans (b8.mono HCB.out)
      have HO1f : Hid (ReqsO w8 w2.heap.size V1 rv1) := HO1e.out.below HXB.out b8
      have HO2f : Hid (ReqsO w8 B V2 (mkR rv2 rv2.length)) := O8
      have HQ1f : Hid (w8.heap[q1]? = some (Obj.cells #[.string u', .bool c'] 25)) := by show _ = _; rw [b8.block q1 HQB.out]; exact HQ1e.out
      clear b8 O8 hkk HO1e HO2e HQ1e HB7 HBe
      go_wp2_with fail
      refine (heldReqS_any B V2 rv2 _ HO2f.out HKB.out).mono ?_
      rintro e w9 ⟨rfl, b9⟩
      rw [HKK.out]
      have t9 : ((kk : Int) != (kk : Int)) = false := by simp
      have hk0 : ¬ (kk : Int) < 0 := by omega
      have HB9 : Hid (Below (w.alloc (Obj.cells #[.string s, .bool b] 23)).heap.size (w.alloc (Obj.cells #[.string s, .bool b] 23)) w9) := HB8.out.trans (b9.mono HB8.out.size)
      have HO1g : Hid (ReqsO w9 w2.heap.size V1 rv1) := HO1f.out.later b9
      have HO2g : Hid (ReqsO w9 B V2 (mkR rv2 rv2.length)) := HO2f.out.later b9
      have HQ1g : Hid (w9.heap[q1]? = some (Obj.cells #[.string u', .bool c'] 25)) := by show _ = _; rw [b9.block q1 (Array.getElem?_eq_some_iff.1 HQ1f.out).1]; exact HQ1f.out
      obtain ⟨⟨c0, c1⟩, _⟩ := HC.out _ HB9.out
      clear b9 HO1f HO2f HQ1f HB8
      go_wp2_with fail
      refine (toStream_any s b _).mono ?_
      rintro e x1 ⟨rfl, d1⟩
      have HD1 : Hid (Below (w.alloc (Obj.cells #[.string s, .bool b] 23)).heap.size (w.alloc (Obj.cells #[.string s, .bool b] 23)) x1) := HB9.out.trans (d1.mono HB9.out.size)
      have HP1 : Hid (ReqsO x1 w2.heap.size V1 rv1) := HO1g.out.later d1
      have HP2 : Hid (ReqsO x1 B V2 (mkR rv2 rv2.length)) := HO2g.out.later d1
      have HR1 : Hid (x1.heap[q1]? = some (Obj.cells #[.string u', .bool c'] 25)) := by show _ = _; rw [d1.block q1 (Array.getElem?_eq_some_iff.1 HQ1g.out).1]; exact HQ1g.out
      clear d1 c0 c1 HO1g HO2g HQ1g HB9
      go_wp2_with fail
      refine (implFeed_any s b p _ hsp (HT.out _ (HC.out _ HD1.out).2) (HL.out _ (HC.out _ HD1.out).2)).mono ?_
      rintro e x2 ⟨u3, c3, V3, rv3, rfl, O3, K3, F3, d2⟩
      obtain ⟨e1, e2, HE3⟩ := told_same F3 HF2.out K3 HK2.out
      have e1 := bs_inj e1
      subst e1 e2
      have d2' : Below x1.heap.size x1 (x2.alloc (Obj.cells #[.string u3, .bool c3] 25)) := d2.alloc d2.size _
      have HD2 : Hid (Below (w.alloc (Obj.cells #[.string s, .bool b] 23)).heap.size (w.alloc (Obj.cells #[.string s, .bool b] 23)) (x2.alloc (Obj.cells #[.string u3, .bool c3] 25))) := HD1.out.trans (d2'.mono HD1.out.size)
      have HP1b : Hid (ReqsO (x2.alloc (Obj.cells #[.string u3, .bool c3] 25)) w2.heap.size V1 rv1) := HP1.out.later d2'
      have HP2b : Hid (ReqsO (x2.alloc (Obj.cells #[.string u3, .bool c3] 25)) B V2 (mkR rv2 rv2.length)) := HP2.out.later d2'
      have HP3 : Hid (ReqsO (x2.alloc (Obj.cells #[.string u3, .bool c3] 25)) x1.heap.size V3 rv3) := O3.later ((Below.refl _ x2).alloc (Nat.le_refl _) _)
      have HR1b : Hid ((x2.alloc (Obj.cells #[.string u3, .bool c3] 25)).heap[q1]? = some (Obj.cells #[.string u3, .bool c3] 25)) := by show _ = _; rw [d2'.block q1 (Array.getElem?_eq_some_iff.1 HR1.out).1]; exact HR1.out
      have HE4 : Hid (rv3.map Prod.fst = rv1.map Prod.fst) := HE3.trans HE.out
      have hn3 : 4 * rv3.length ≤ s.size + p.size := by have := F3.few; rw [bs_len, bs_len, List.length_map] at this; exact this
      have H83 : Hid (∀ x ∈ rv3, x.1.fs.length ≤ 2000000) := fun x hx => by have := ok_few (K3 x hx); omega
      have k0 : (x2.alloc (Obj.cells #[.string u3, .bool c3] 25)).cell? ⟨q1, 0, none⟩ = some (.string u3) := by simp [World.cell?, HR1b.out]
      have k1 : (x2.alloc (Obj.cells #[.string u3, .bool c3] 25)).cell? ⟨q1, 1, none⟩ = some (.bool c3) := by simp [World.cell?, HR1b.out]
      clear O3 K3 F3 HE3 d2 d2' HP1 HP2 HR1 HD1
      go_wp2_with fail
      refine (eqStream_any u3 c3 _).mono ?_
      rintro e x3 ⟨rfl, d3⟩
      have HD3 : Hid (Below (w.alloc (Obj.cells #[.string s, .bool b] 23)).heap.size (w.alloc (Obj.cells #[.string s, .bool b] 23)) x3) := HD2.out.trans (d3.mono HD2.out.size)
      have HP1c : Hid (ReqsO x3 w2.heap.size V1 rv1) := HP1b.out.later d3
      have HP2c : Hid (ReqsO x3 B V2 (mkR rv2 rv2.length)) := HP2b.out.later d3
      have HP3c : Hid (ReqsO x3 x1.heap.size V3 rv3) := HP3.out.later d3
      clear d3 k0 k1 HP1b HP2b HP3 HR1b HD2
      go_wp2_with fail
      refine (eqReqS_any x1.heap.size w2.heap.size V3 V1 rv3 rv1 _ HP3c.out HP1c.out HE4.out (by omega) H83.out).mono ?_
      rintro e x4 ⟨rfl, d4⟩
      have HD4 : Hid (Below (w.alloc (Obj.cells #[.string s, .bool b] 23)).heap.size (w.alloc (Obj.cells #[.string s, .bool b] 23)) x4) := HD3.out.trans (d4.mono HD3.out.size)
      have HP2d : Hid (ReqsO x4 B V2 (mkR rv2 rv2.length)) := HP2c.out.later d4
      clear d4 HP1c HP2c HP3c HD3
      go_wp2_with fail
      refine (heldReqS_any B V2 rv2 _ HP2d.out HKB.out).mono ?_
      rintro e x5 ⟨rfl, d5⟩
      rw [HKK.out]
      have HD5 : Hid (Below w.heap.size w x5) := (HC.out _ (HD4.out.trans (d5.mono HD4.out.size))).2
      clear d5 HD4 HP2d
      go_wp2_with fail
      go_ret
      exact ⟨rfl, HD5.out⟩

set_option maxRecDepth 100000 in
theorem contract (H : Type) (enc : TypeId × Value → H) (W : World) (base : Nat) (args : Array Value) (ds gs : List (DataW H)) (before : List MemPlace)
    (hval : ∀ (j : Nat) t v, Tryz.f3.params[j]? = some t → args[j]? = some v → Value.okWide Tryz.prog W .any base t v)
    (hW : DataW.Whole enc Tryz.prog Tryz.f3.params.toList Rows.fnExactFeedSpec.vars false W args.toList ds gs before) (hL : laidMetH Tryz.prog Rows.fnExactFeedRow.laid W) (hSh : W.ShapedOpen Tryz.prog) :
    Calls Tryz.prog 3 args W fun e W' => ∃ v, e = .returned v ∧ Rows.fnExactFeedSpec.post enc Tryz.prog Tryz.f3 false true false false W args v W' := by
  have hT : TabOk W := table hL
  have hLN : LenOk W := Tryz.laysM145.s1_3 W hSh
  have hW' := hW
  obtain ⟨p, q, hA0, hV, rfl, hfz, hnd⟩ := hW
  have hA : DataW.TrodAll enc Tryz.prog W 0 (fun _ => true) true Tryz.f3.params.toList args.toList ds p := hA0
  rw [Tryz.params3] at hA hval
  obtain ⟨v0, vs0, d0, ds0, p0, q0, hargs, rfl, rfl, h0, r0⟩ := trodAll_cons hA
  obtain ⟨v1, vs1, d1, ds1, p1, q1, hargs1, rfl, rfl, h1, r1⟩ := trodAll_cons r0
  obtain ⟨rfl, rfl, rfl⟩ := trodAll_nil r1
  obtain rfl : args = #[v0, v1] := by cases args; simp_all
  obtain ⟨rfl, rfl⟩ := trodVars_none hV
  have k0 := h0
  have lt0 : ∀ x ∈ p0, x.block < W.heap.size := by obtain ⟨m, hm⟩ := k0; exact DataW.trod_lt m _ _ _ hm
  obtain ⟨a0, f0, rfl, w0⟩ := openStream (hval 0 23 v0 rfl rfl) h0
  obtain ⟨a1, rfl, rfl, rfl, w1⟩ := open_string Tryz.underlying9 (hval 1 9 v1 rfl rfl) h1
  clear hA0
  simp only [List.append_nil] at hW'
  refine (walk1 W a0 f0 w0 a1 w1 hT hLN).mono fun e W' ⟨he, bel⟩ => ?_
  subst he
  exact ⟨_, rfl, _, _, _, [], _, [], hW', trodAll_mk1 (shut_bool Tryz.underlying4 _), (trodAll_cons_mk (Below.trod laidOut (by kernel_rfl) (of_decide_eq_true (by kernel_rfl)) k0 bel lt0) (trodAll_cons_mk (shut_string Tryz.underlying9 w1) trodAll_mk0)), rfl, bel.frame _, fun h => by cases h⟩

theorem laid_met (os : Os) : laidMet Tryz.prog Rows.fnExactFeedRow.laid ((withTables (World.holding Tryz.prog os ⟨#[], #[], []⟩)).forCall (fun _ _ => 0) ⟨#[], #[.agg #[.string ByteArray.empty, .bool false], .string ByteArray.empty], []⟩).memory :=
  laidMet_of_run' 80 (by kernel_rfl) (by kernel_rfl)
theorem reads (os : Os) {H : Type} (enc : TypeId × Value → H) : ∃ places, DataW.whole enc Tryz.prog ((withTables (World.holding Tryz.prog os ⟨#[], #[], []⟩)).forCall (fun _ _ => 0) ⟨#[], #[.agg #[.string ByteArray.empty, .bool false], .string ByteArray.empty], []⟩).memory Tryz.f3.params.toList Rows.fnExactFeedSpec.vars false #[(.agg #[.string ByteArray.empty, .bool false] : Value), (.string ByteArray.empty : Value)].toList 8 = some ([.agg [.lit (.string []), .lit (.bool false)], .lit (.string [])], [], places) :=
  ⟨[], by kernel_rfl⟩

set_option maxRecDepth 100000 in
theorem lifted (os : Os) (started : os.Started) (H : Type) (enc : TypeId × Value → H) (F : Stop.Interp) :
    ReturnsInHanded {} Tryz.checked os 3 .any ((OpenSpec.ofChange Rows.fnExactFeedSpec).preRow enc Tryz.prog Tryz.f3 Rows.fnExactFeedRow.domain false Rows.fnExactFeedRow.laid) (((OpenSpec.ofChange Rows.fnExactFeedSpec).at F).post enc Tryz.prog Tryz.f3 false true false false) := by
  obtain ⟨places, hx⟩ := reads os enc
  refine returnsInHanded_of_row (C := Tryz.checked) (s := OpenSpec.ofChange Rows.fnExactFeedSpec) own started (by kernel_rfl) Tryz.func3
    (witness_row_at (enc := enc) (C := Tryz.checked) false (withTables (World.holding Tryz.prog os ⟨#[], #[], []⟩)) #[.agg #[.string ByteArray.empty, .bool false], .string ByteArray.empty] rfl (by kernel_rfl) (by kernel_rfl) (by kernel_rfl)
      (OpenSpec.preRow_of_cond 8 hx (by kernel_rfl) (fun k hk => by cases hk) (by kernel_rfl) (laid_met os))) ?_
  intro W base args ds gs before hval hW _ _ _ hL hSh _
  exact contract H enc W base args ds gs before hval hW hL hSh

theorem said : Rows.FnExactFeedSaid :=
  OpenClaim.holds_of_cond 3 Tryz.f3 rfl rfl rfl rfl rfl rfl rfl ⟨rfl, rfl, rfl, rfl, rfl⟩ rfl rfl rfl rfl rfl (by kernel_rfl) Tryz.func3 (by kernel_rfl)
    (of_decide_eq_true (by kernel_rfl)) (by unfold Func.isWrapper; first | (rw [if_pos (by decide +kernel)]; kernel_rfl) | (rw [if_neg (by decide +kernel)]; exact ⟨rfl, rfl⟩))
    (fun os started H enc _ F => by rw [OpenClaim.pre_eq_preRow]; exact lifted os started H enc F)

theorem plain (f : FuncId) (fn : Func) (hf : Tryz.pinned.checked.prog.funcNamed "loop.example/g00239/laws.FnExactFeed" = some f) (hfn : Tryz.pinned.checked.prog.funcs[f]? = some fn) :
    false = Tryz.pinned.checked.prog.looks [] ∧ ∀ (j : Nat) t, fn.params[j]? = some t → Tryz.pinned.checked.prog.wantsStandIn t = false := by
  obtain rfl : f = 3 := Option.some.inj ((show Tryz.prog.funcNamed "loop.example/g00239/laws.FnExactFeed" = some 3 by kernel_rfl).symm.trans hf) |>.symm
  obtain rfl : fn = Tryz.f3 := (Option.some.inj (Tryz.func3.symm.trans hfn)).symm
  refine ⟨by kernel_rfl, fun j t ht => ?_⟩
  rw [Tryz.params3] at ht
  have hm : t = 23 ∨ t = 9 := by simpa using Array.mem_of_getElem? ht
  rcases hm with rfl | rfl
  · exact (show Tryz.prog.wantsStandIn 23 = false by kernel_rfl)
  · exact (show Tryz.prog.wantsStandIn 9 = false by kernel_rfl)

theorem card : Rows.FnExactFeedCardSaid :=
  Claim7.holds_tied_plain_at .later [] _ _ _ _ said (fun _ h => by cases h) (by kernel_rfl) (fun _ h => by cases h) fnExactFeed_row_tie rfl ⟨rfl, rfl⟩ (by kernel_rfl) rfl plain (by kernel_rfl)
end fnExactFeed

theorem fnExactFeed_holds : Rows.FnExactFeedCardSaid := fnExactFeed.card
#print axioms fnExactFeed_holds
end Go.Proofs.YtacfajnagbeocaaGreatDoor
