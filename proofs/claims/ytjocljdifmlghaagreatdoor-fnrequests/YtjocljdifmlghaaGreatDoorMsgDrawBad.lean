/- What chapter 3's law draws: requests, right or not: contract over the translation. -/
import Derived.Test.YtjocljdifmlghaaGreatDoorMsgDraw
namespace Go.Proofs.YtjocljdifmlghaaGreatDoor
open Go.RowKit
open Go.Lib hiding intOf

theorem DReq.setMethod {w : World} {c R r : Nat} {m : Int} {p : ByteArray} {fv : Value} {fs : List (ByteArray × ByteArray)} {b : ByteArray} {a : Option Addr} {len cap : Nat} {W : World} (h : DReq w c R r m p fv fs b a len cap W) (hcw : c < w.heap.size) (hrw : w.heap.size ≤ r) (hrR : R ≠ r) (m' : Int) : DReq w c R r m' p fv fs b a len cap (W.setCell ⟨r, 0, none⟩ (.int .i64 m')) := by
  refine ⟨?_, ?_, ?_, ?_, grown_later h.grow (grown_set W r 0 _) (fun g e => by cases e; exact hrw), h.apart⟩
  · rw [heap_setCell_other _ _ R _ (fun e => hrR e)]; exact h.hR
  · have := heap_set W r 0 _ _ _ (.int .i64 m') h.hr
    simpa using this
  · exact h.own.kept (grown_set W r 0 _) (by cases h3 : fv.ownBlock <;> simp; exact (h.apart _ h3).2)
  · obtain ⟨i, hh, hi, h4⟩ := h.cur
    refine ⟨i, hh, hi, ?_⟩
    rw [heap_setCell_other _ _ c _ (fun e => by have e2 : c = r := e; omega)]
    exact h4
theorem DReq.setPath {w : World} {c R r : Nat} {m : Int} {p : ByteArray} {fv : Value} {fs : List (ByteArray × ByteArray)} {b : ByteArray} {a : Option Addr} {len cap : Nat} {W : World} (h : DReq w c R r m p fv fs b a len cap W) (hcw : c < w.heap.size) (hrw : w.heap.size ≤ r) (hrR : R ≠ r) (p' : ByteArray) : DReq w c R r m p' fv fs b a len cap (W.setCell ⟨r, 1, none⟩ (.string p')) := by
  refine ⟨?_, ?_, ?_, ?_, grown_later h.grow (grown_set W r 1 _) (fun g e => by cases e; exact hrw), h.apart⟩
  · rw [heap_setCell_other _ _ R _ (fun e => hrR e)]; exact h.hR
  · have := heap_set W r 1 _ _ _ (.string p') h.hr
    simpa using this
  · exact h.own.kept (grown_set W r 1 _) (by cases h3 : fv.ownBlock <;> simp; exact (h.apart _ h3).2)
  · obtain ⟨i, hh, hi, h4⟩ := h.cur
    refine ⟨i, hh, hi, ?_⟩
    rw [heap_setCell_other _ _ c _ (fun e => by have e2 : c = r := e; omega)]
    exact h4
theorem DReq.setFields {w : World} {c R r : Nat} {m : Int} {p : ByteArray} {fv : Value} {fs : List (ByteArray × ByteArray)} {b : ByteArray} {a : Option Addr} {len cap : Nat} {W : World} {gv : Value} {gs : List (ByteArray × ByteArray)} (h : DReq w c R r m p fv fs b a len cap W) (hcw : c < w.heap.size) (hrw : w.heap.size ≤ r) (hrR : R ≠ r) (hown : W.ownsRow w.heap.size 55 2 gv gs.length (flatF gs)) : DReq w c R r m p gv gs b a len cap (W.setCell ⟨r, 2, none⟩ gv) := by
  have hap : ∀ j, gv.ownBlock = some j → j ≠ R ∧ j ≠ r := fun j hj => by
    obtain ⟨cur, hcj⟩ := owns_heap hown hj
    refine ⟨fun e => ?_, fun e => ?_⟩
    · rw [e, h.hR] at hcj
      simp at hcj
    · rw [e, h.hr] at hcj
      simp at hcj
  refine ⟨?_, ?_, ?_, ?_, grown_later h.grow (grown_set W r 2 _) (fun g e => by cases e; exact hrw), hap⟩
  · rw [heap_setCell_other _ _ R _ (fun e => hrR e)]; exact h.hR
  · have := heap_set W r 2 _ _ _ gv h.hr
    simpa using this
  · exact hown.kept (grown_set W r 2 _) (by cases h3 : gv.ownBlock <;> simp; exact (hap _ h3).2)
  · obtain ⟨i, hh, hi, h4⟩ := h.cur
    refine ⟨i, hh, hi, ?_⟩
    rw [heap_setCell_other _ _ c _ (fun e => by have e2 : c = r := e; omega)]
    exact h4

/-- How long the body is that lies there. -/
def bodyLen (r : Nat) (W : World) : Nat := match W.cell? ⟨r, 3, none⟩ with | some (.string t) => t.size | _ => 0

set_option maxHeartbeats 4000000 in
set_option maxRecDepth 100000 in
theorem l3DrawBadReq_any (c B : Nat) (a : Option Addr) (len cap : Nat) (zs : List Int) (w : World) (hcur : CurAt w c a len cap) (hcode : CodeAt w B a len zs) (hB : B ≤ c) :
    Calls Tryz.prog 13 #[.pointer (some ⟨c, 0, none⟩)] w fun e w' => ReqDrawn 140 w c a len cap e w' := by
  have hcw := hcur.lt
  have HCO : Hid (∀ W, w.grownBy W (some c) → CodeAt W B a len zs) := fun W h => hcode.grown h hB
  obtain ⟨R, hR⟩ : ∃ R, R = w.heap.size := ⟨_, rfl⟩
  have hg0 : w.grownBy (w.alloc (.cells #[.int .i64 0, .string ⟨#[]⟩, .slice none 0 0, .string ⟨#[]⟩] 26)) (some c) := World.grownBy_alloc w _ _
  have hcu0 := hcur.below ((Below.refl _ w).alloc (Nat.le_refl _) (.cells #[.int .i64 0, .string ⟨#[]⟩, .slice none 0 0, .string ⟨#[]⟩] 26)) hcw
  have hco0 := HCO.out _ hg0
  have hz0' : (w.alloc (.cells #[.int .i64 0, .string ⟨#[]⟩, .slice none 0 0, .string ⟨#[]⟩] 26)).heap[R]? = some (.cells #[.int .i64 0, .string ⟨#[]⟩, .slice none 0 0, .string ⟨#[]⟩] 26) := by rw [hR]; exact heap_alloc_new w _
  have hRlt : R < (w.alloc (.cells #[.int .i64 0, .string ⟨#[]⟩, .slice none 0 0, .string ⟨#[]⟩] 26)).heap.size := by rw [hR]; simp
  have hRc : R ≠ c := by omega
  have hRw : w.heap.size ≤ R := by omega
  have HRE : Hid (R = w.heap.size) := hR
  obtain ⟨w0, hw0⟩ : ∃ W, W = w.alloc (.cells #[.int .i64 0, .string ⟨#[]⟩, .slice none 0 0, .string ⟨#[]⟩] 26) := ⟨_, rfl⟩
  have HW0 : Hid (w0 = w.alloc (.cells #[.int .i64 0, .string ⟨#[]⟩, .slice none 0 0, .string ⟨#[]⟩] 26)) := hw0
  rw [← hw0] at hg0 hcu0 hco0 hz0' hRlt
  clear hcur hcode hR hw0
  go_enter Tryz.func13, Tryz.ntmps13
  go_wp2_with fail
  rw [← HW0.out]
  refine (l3DrawReq_any c B a len cap zs _ hcu0 hco0 hB).mono ?_
  rintro e w1 ⟨m, p, fv, fs, b, rfl, hm, hp, hown, hfl, hsh, hb, hcu1, hg1⟩
  obtain ⟨fo, fc, rfl⟩ := slice_of_owns hown
  have hz1' : w1.heap[R]? = some (.cells #[.int .i64 0, .string ⟨#[]⟩, .slice none 0 0, .string ⟨#[]⟩] 26) := by rw [hg1.block R hRlt (fun e => hRc (Option.some.inj e))]; exact hz0'
  have hR1 : R < w1.heap.size := (Array.getElem?_eq_some_iff.1 hz1').1
  obtain ⟨r, hr⟩ : ∃ r, r = w1.heap.size := ⟨_, rfl⟩
  have hga1 := grownBy_trans hg0 hg1
  have hrw : w.heap.size ≤ r := by rw [hr]; exact hga1.size
  have hrR : R ≠ r := by omega
  have HD0 : Hid (DReq w c R r m p (.slice fo fs.length fc) fs b a len cap (w1.alloc (.cells #[.int .i64 m, .string p, .slice fo fs.length fc, .string b] 26))) := by
    have hgal : w1.grownBy (w1.alloc (.cells #[.int .i64 m, .string p, .slice fo fs.length fc, .string b] 26)) (some c) := World.grownBy_alloc w1 _ _
    have how : w1.ownsRow w.heap.size 55 2 (.slice fo fs.length fc) fs.length (flatF fs) := by
      refine ⟨hown.1, ?_⟩
      rcases hown.2 with h6 | ⟨g6, cap6, cur6, h7, h8, h9⟩
      · exact .inl h6
      · exact .inr ⟨g6, cap6, cur6, h7, by have := hg0.size; omega, h9⟩
    refine ⟨?_, by rw [hr]; exact heap_alloc_new w1 _, how.alloc _, hcu1.below ((Below.refl _ w1).alloc (Nat.le_refl _) _) hcu1.lt, grownBy_trans hga1 hgal, fun j hj => ⟨by have := owns_ge hown hj; omega, by have := owns_lt hown hj; omega⟩⟩
    rw [hgal.block R hR1 (fun e => hRc (Option.some.inj e))]; exact hz1'
  have HR' : Hid (r = w1.heap.size) := hr
  obtain ⟨w2, hw2⟩ : ∃ W, W = w1.alloc (.cells #[.int .i64 m, .string p, .slice fo fs.length fc, .string b] 26) := ⟨_, rfl⟩
  have HW2 : Hid (w2 = w1.alloc (.cells #[.int .i64 m, .string p, .slice fo fs.length fc, .string b] 26)) := hw2
  rw [← hw2] at HD0
  rw [← HRE.out]
  clear hr hz1' hR1 hcu1 hga1 hw2 hown hg1 hg0 hcu0 hco0 hz0' hRlt
  go_wp2_with fail
  rw [← HR'.out, ← HW2.out]
  refine (l1Below_any c B 20 a len cap zs _ HD0.out.cur (HCO.out _ HD0.out.grow) hB (by omega) (by omega)).mono ?_
  rintro e wa ⟨x, rfl, hx0, hx1, hcua, hgaa⟩
  have hda : Hid (DReq w c R r m p (.slice fo fs.length fc) fs b a len cap wa) := HD0.out.later hcw hRw hrw hcua hgaa
  clear hcua hgaa HD0
  obtain ⟨⟨c0, c1, c2, c3⟩, f0, f1, f2, f3⟩ := four_facts hda.out.hr
  obtain ⟨⟨d0, d1, d2, d3⟩, g0, g1, g2, g3⟩ := four_facts hda.out.hR
  by_cases x0 : x = 0
  · subst x0
    go_wp2_with fail
    refine (l1Below_any c B 7 a len cap zs _ hda.out.cur (HCO.out _ hda.out.grow) hB (by omega) (by omega)).mono ?_
    rintro e wb ⟨y, rfl, hy0, hy1, hcub, hgb⟩
    have hdb : Hid (DReq w c R r m p (.slice fo fs.length fc) fs b a len cap wb) := hda.out.later hcw hRw hrw hcub hgb
    have hdc : Hid (DReq w c R r (y - 1) p (.slice fo fs.length fc) fs b a len cap (wb.setCell ⟨r, 0, none⟩ (.int .i64 (y - 1)))) := hdb.out.setMethod hcw hrw hrR (y - 1)
    clear c0 c1 c2 c3 f0 f1 f2 f3 d0 d1 d2 d3 g0 g1 g2 g3 hcub hgb hda
    obtain ⟨⟨c0, c1, c2, c3⟩, f0, f1, f2, f3⟩ := four_facts hdb.out.hr
    obtain ⟨⟨i0, i1, i2, i3⟩, j0, j1, j2, j3⟩ := four_facts hdc.out.hr
    obtain ⟨⟨d0, d1, d2, d3⟩, g0, g1, g2, g3⟩ := four_facts hdc.out.hR
    obtain ⟨hh, hfin⟩ := hdc.out.fin (bmax := 140) hcw hRw ⟨by omega, by omega⟩ hp hfl hsh (by omega)
    obtain ⟨⟨k0, k1, k2, k3⟩, _⟩ := four_facts hh
    have HFIN : Hid _ := hfin
    unfold fourSet at k0 k1 k2 k3
    clear hh hfin
    go_wp2_with fail
    exact bodyPost_ret (v := .agg #[.int .i64 (y - 1), .string p, (.slice fo fs.length fc), .string b]) (by simp [results, Tryz.results13, go_sem, k0, k1, k2, k3]) rfl HFIN.out
  · by_cases x1 : x = 1
    · subst x1
      go_wp2_with fail
      refine (pick_new c B [⟨#[]⟩, ⟨#[97]⟩, ⟨#[47, 32, 98]⟩, ⟨#[47, 127]⟩, ⟨#[47, 48, 49, 50, 51, 52, 53, 54, 55, 56, 57, 48, 49, 50, 51, 52, 53, 54, 55, 56, 57, 48, 49, 50, 51, 52, 53, 54, 55, 56, 57, 48, 49, 50, 51, 52, 53, 54, 55, 56, 57, 48, 49, 50, 51, 52, 53, 54, 55, 56, 57, 48, 49, 50, 51, 52, 53, 54, 55, 56, 57]⟩] 64 (by decide) a len cap zs wa hda.out.cur (HCO.out _ hda.out.grow) hB (by decide) (by decide)).mono ?_
      rintro e wb ⟨q, rfl, hq, hcub, hgb⟩
      have hdb : Hid (DReq w c R r m p (.slice fo fs.length fc) fs b a len cap wb) := hda.out.later hcw hRw hrw hcub hgb
      have hdc : Hid (DReq w c R r m q (.slice fo fs.length fc) fs b a len cap (wb.setCell ⟨r, 1, none⟩ (.string q))) := hdb.out.setPath hcw hrw hrR q
      clear c0 c1 c2 c3 f0 f1 f2 f3 d0 d1 d2 d3 g0 g1 g2 g3 hcub hgb hda
      obtain ⟨⟨c0, c1, c2, c3⟩, f0, f1, f2, f3⟩ := four_facts hdb.out.hr
      obtain ⟨⟨i0, i1, i2, i3⟩, j0, j1, j2, j3⟩ := four_facts hdc.out.hr
      obtain ⟨⟨d0, d1, d2, d3⟩, g0, g1, g2, g3⟩ := four_facts hdc.out.hR
      obtain ⟨hh, hfin⟩ := hdc.out.fin (bmax := 140) hcw hRw hm hq hfl hsh (by omega)
      obtain ⟨⟨k0, k1, k2, k3⟩, _⟩ := four_facts hh
      have HFIN : Hid _ := hfin
      unfold fourSet at k0 k1 k2 k3
      clear hh hfin
      go_wp2_with fail
      exact bodyPost_ret (v := .agg #[.int .i64 m, .string q, (.slice fo fs.length fc), .string b]) (by simp [results, Tryz.results13, go_sem, k0, k1, k2, k3]) rfl HFIN.out
    · by_cases x2 : x = 2
      · subst x2
        go_wp2_with fail
        refine (l2Draw_any c B a len cap zs _ hda.out.cur (HCO.out _ hda.out.grow) hB).mono ?_
        rintro e wb ⟨gv, gs, rfl, howng, hgl, hgsh, hcub, hgb⟩
        obtain ⟨go, gc, rfl⟩ := slice_of_owns howng
        have hdb : Hid (DReq w c R r m p (.slice fo fs.length fc) fs b a len cap wb) := hda.out.later hcw hRw hrw hcub hgb
        have hwid : wb.ownsRow w.heap.size 55 2 (.slice go gs.length gc) gs.length (flatF gs) := by
          refine ⟨howng.1, ?_⟩
          rcases howng.2 with h6 | ⟨g6, cap6, cur6, h7, h8, h9⟩
          · exact .inl h6
          · exact .inr ⟨g6, cap6, cur6, h7, by have := hda.out.grow.size; omega, h9⟩
        have hdc : Hid (DReq w c R r m p (.slice go gs.length gc) gs b a len cap (wb.setCell ⟨r, 2, none⟩ (.slice go gs.length gc))) := hdb.out.setFields hcw hrw hrR hwid
        clear c0 c1 c2 c3 f0 f1 f2 f3 d0 d1 d2 d3 g0 g1 g2 g3 hcub hgb hda howng hwid
        obtain ⟨⟨c0, c1, c2, c3⟩, f0, f1, f2, f3⟩ := four_facts hdb.out.hr
        obtain ⟨⟨i0, i1, i2, i3⟩, j0, j1, j2, j3⟩ := four_facts hdc.out.hr
        obtain ⟨⟨d0, d1, d2, d3⟩, g0, g1, g2, g3⟩ := four_facts hdc.out.hR
        obtain ⟨hh, hfin⟩ := hdc.out.fin (bmax := 140) hcw hRw hm hp hgl hgsh (by omega)
        obtain ⟨⟨k0, k1, k2, k3⟩, _⟩ := four_facts hh
        have HFIN : Hid _ := hfin
        unfold fourSet at k0 k1 k2 k3
        clear hh hfin
        go_wp2_with fail
        exact bodyPost_ret (v := .agg #[.int .i64 m, .string p, .slice go gs.length gc, .string b]) (by simp [results, Tryz.results13, go_sem, k0, k1, k2, k3]) rfl HFIN.out
      · by_cases x3 : x = 3
        · subst x3
          clear c0 c1 c2 c3 f0 f1 f2 f3 d0 d1 d2 d3 g0 g1 g2 g3
          go_wp2_with fail
          go_loopw [] (fun wr => ∃ b2 : ByteArray, b2.size ≤ 121 ∧ Hid (DReq w c R r m p (.slice fo fs.length fc) fs b2 a len cap wr)) (fun wr => 122 - bodyLen r wr)
          case atStart => exact ⟨b, by omega, hda⟩
          case round =>
            obtain ⟨b2, hb2, hdr⟩ := hrel
            have hdw : Hid (DReq w c R r m p (.slice fo fs.length fc) fs b2 a len cap wr.drew) := hdr.out.later hcw hRw hrw hdr.out.cur (grown_below ((Below.refl _ wr).drew) _)
            obtain ⟨⟨c0, c1, c2, c3⟩, f0, f1, f2, f3⟩ := four_facts hdr.out.hr
            have HL0 : Hid (bodyLen r wr = b2.size) := by show _ = _; unfold bodyLen; rw [c3]
            have HA : Hid (∀ wb, CurAt wb c a len cap → wr.drew.grownBy wb (some c) → wb.cell? ⟨r, 3, none⟩ = some (.string b2) ∧ Hid (DReq w c R r m p (.slice fo fs.length fc) fs b2 a len cap wb)) := fun wb h1 h2 => by
              have h3 := hdw.out.later hcw hRw hrw h1 h2
              exact ⟨(four_facts h3.hr).1.2.2.2, h3⟩
            clear c0 c1 c2 f0 f1 f2 f3
            go_wp2_with fail
            go_region_held3 (fun W => W.cell? ⟨r, 3, none⟩ = some (.string b2)) (first | assumption | go_keep) (first | (go_at_call 29; refine (l1Below_any c B 2 a len cap zs _ hdw.out.cur (HCO.out _ hdw.out.grow) hB (by omega) (by omega)).mono ?_; rintro e wb ⟨y, rfl, hy0, hy1, hcub, hgb⟩; obtain ⟨hcb, hdb⟩ := HA.out wb hcub hgb; have hwy : IntKind.i64.wrap (120 + y) = 120 + y := by rw [IntKind.wrap_i64]; omega))
            clear hcub hgb hdw HA c3
            have hdc : Hid (DReq w c R r m p (.slice fo fs.length fc) fs (b2 ++ ⟨#[98]⟩) a len cap (wb.setCell ⟨r, 3, none⟩ (.string (b2 ++ ⟨#[98]⟩)))) := hdb.out.setBody hcw hrw hrR _
            obtain ⟨⟨c0, c1, c2, c3⟩, f0, f1, f2, f3⟩ := four_facts hdb.out.hr
            obtain ⟨⟨d0, d1, d2, d3⟩, g0, g1, g2, g3⟩ := four_facts hdb.out.hR
            have e98 : (⟨#[98]⟩ : ByteArray).size = 1 := rfl
            by_cases hlt : (b2.size : Int) < 120 + y
            · have HL1 : Hid (bodyLen r (wb.setCell ⟨r, 3, none⟩ (.string (b2 ++ ⟨#[98]⟩))) = b2.size + 1) := by
                show _ = _
                have := (four_facts hdc.out.hr).1.2.2.2
                unfold bodyLen; rw [this]; simp only [ByteArray.size_append]; omega
              have q1 : ¬ 9223372036854775807 < b2.size + 1 := by omega
              clear d0 d1 d2 d3 g0 g1 g2 g3
              go_wp2
              go_roundw
              case rel => exact ⟨_, by simp only [ByteArray.size_append]; omega, hdc⟩
              case measure => rw [HL1.out, HL0.out]; omega
            · have hdec : decide ((b2.size : Int) < 120 + y) = false := by simpa using hlt
              clear hdc hdr hda HL0
              obtain ⟨hh, hfin⟩ := hdb.out.fin (bmax := 140) hcw hRw hm hp hfl hsh (by omega)
              obtain ⟨⟨k0, k1, k2, k3⟩, _⟩ := four_facts hh
              have HFIN : Hid _ := hfin
              unfold fourSet at k0 k1 k2 k3
              clear hh hfin
              go_wp2_with fail
              exact bodyPost_ret (v := .agg #[.int .i64 m, .string p, (.slice fo fs.length fc), .string b2]) (by simp [results, Tryz.results13, go_sem, k0, k1, k2, k3]) rfl HFIN.out
        · have e0 : (x == 0) = false := by rw [beq_eq_false_iff_ne]; exact x0
          have e1 : (x == 1) = false := by rw [beq_eq_false_iff_ne]; exact x1
          have e2 : (x == 2) = false := by rw [beq_eq_false_iff_ne]; exact x2
          have e3 : (x == 3) = false := by rw [beq_eq_false_iff_ne]; exact x3
          obtain ⟨hh, hfin⟩ := hda.out.fin (bmax := 140) hcw hRw hm hp hfl hsh (by omega)
          obtain ⟨⟨k0, k1, k2, k3⟩, _⟩ := four_facts hh
          have HFIN : Hid _ := hfin
          unfold fourSet at k0 k1 k2 k3
          clear hh hfin
          go_wp2_with fail
          exact bodyPost_ret (v := .agg #[.int .i64 m, .string p, (.slice fo fs.length fc), .string b]) (by simp [results, Tryz.results13, go_sem, k0, k1, k2, k3]) rfl HFIN.out

end Go.Proofs.YtjocljdifmlghaaGreatDoor
