/- At every text and every list of sizes Pieces of the program answers as the specification's (the law answers true), writes into no argument, its answer owns its memory, and the arguments read as they did: no condition. -/
import Derived.Test.YtffjnfaneeejnaaStreamPcs
import Derived.Test.YtffjnfaneeejnaaStreamPcsI
import Derived.Test.YtffjnfaneeejnaaStreamRows
import Derived.Test.YtffjnfaneeejnaaRowsOf
import Derived.Test.YtffjnfaneeejnaaDraw
import Derived.Test.YtffjnfaneeejnaaRows
import Derived.WalkKit
import Derived.ProofKit
import Derived.OpenShut
import Derived.ShutString
import Derived.ChangeOld
import Derived.Below
import Derived.Deep.RegionHeld3
import Derived.Deep.DrawnRows
namespace Go.Proofs.Ytffjnfaneeejnaa
namespace fnExactPieces
open Go.ChangeShapes Go.WideShapes Go.ChangeAt Go.RowKit
open Go.ChangeMaps (open_string shut_string)
attribute [local go_sem ↓] Go.wp_at_zero Go.wp_at_succ

theorem own : ownKnob Try.prog.godebug = none := by kernel_rfl
theorem laidOut : laidOutB Try.prog = true := by kernel_rfl
def IsRow (k : IntKind) (w : World) (a : Option Addr) (len cap : Nat) (zs : List Int) : Prop :=
  (a = none ∧ len = 0 ∧ cap = 0 ∧ zs = []) ∨
  ∃ x, a = some x ∧ len ≤ cap ∧ cap ≤ maxLen ∧ zs.length = cap ∧ (∀ i, i < zs.length → w.cell? (x.add i) = some (.int k (zs.getD i 0))) ∧ ∀ n ∈ zs, (Lit.int k n).wf = true
theorem row_cell {k : IntKind} {w : World} {x : Addr} {zs : List Int} (h : ∀ i, i < zs.length → w.cell? (x.add i) = some (.int k (zs.getD i 0))) (j : Nat) (hj : j < zs.length) : ∃ b off, x = ⟨b, off, none⟩ ∧ w.cell? ⟨b, off + j, none⟩ = some (.int k (zs.getD j 0)) := by
  obtain ⟨b, off, spot⟩ := x
  have hc := h j hj
  have hspot : spot = none := by
    have := World.cell?_spot (h 0 (by omega))
    simpa [Addr.add] using this
  subst hspot
  refine ⟨b, off, rfl, ?_⟩
  by_cases e : j = 0
  · subst e; simpa [Addr.add] using hc
  · simpa [Addr.add, e] using hc
theorem row_code {w : World} {a : Option Addr} {len cap : Nat} {zs : List Int} (h : IsRow .u8 w a len cap zs) (hl : len ≤ 1048576) : CodeAt w w.heap.size a len zs := by
  refine ⟨hl, fun j hj => ?_⟩
  rcases h with ⟨rfl, rfl, _, _⟩ | ⟨x, rfl, h1, _, h3, h4, h5⟩
  · omega
  · obtain ⟨b, off, rfl, hc2⟩ := row_cell h4 j (by omega)
    have hm : zs.getD j 0 ∈ zs := by
      rw [List.getD_eq_getElem?_getD, List.getElem?_eq_getElem (by omega)]
      exact List.getElem_mem _
    have hr := bounds_u8 (h5 _ hm)
    exact ⟨b, off, rfl, World.block_lt_of_cell? _ _ hc2, hc2, hr.1, by omega⟩
theorem row_ints {w : World} {a : Option Addr} {len cap : Nat} {zs : List Int} (h : IsRow .i64 w a len cap zs) : ArgI w w.heap.size a len (zs.take len) := by
  rcases h with ⟨rfl, rfl, rfl, rfl⟩ | ⟨x, rfl, h1, _, h3, h4, _⟩
  · exact ⟨rfl, fun i hi => absurd hi (by omega)⟩
  · refine ⟨by rw [List.length_take]; omega, fun i hi => ?_⟩
    obtain ⟨b, off, rfl, hc⟩ := row_cell h4 i (by omega)
    refine ⟨b, off, rfl, World.block_lt_of_cell? _ _ hc, ?_⟩
    rw [hc, List.getD_eq_getElem?_getD, List.getD_eq_getElem?_getD, List.getElem?_take_of_lt hi]

set_option maxHeartbeats 4000000 in
set_option maxRecDepth 100000 in
theorem walk1 (w : World) (s : ByteArray) (hs : s.size ≤ maxLen) (a : Option Addr) (n cap : Nat) (zs0 : List Int) (hrow : IsRow .i64 w a n cap zs0) :
    Calls Try.prog 3 #[.string s, .slice a n cap] w fun e w' => e = .returned (.bool true) ∧ Below w.heap.size w w' := by
  have harg := row_ints hrow
  have hnm : n ≤ maxLen := by
    rcases hrow with ⟨_, h, _, _⟩ | ⟨x, _, h1, h2, _⟩
    · omega
    · omega
  clear hrow
  generalize zs0.take n = zs at harg
  unfold maxLen at hs hnm
  by_cases hbig : (1048576 : Int) < (s.size : Int)
  · clear harg
    go_enter Try.func3, Try.ntmps3
    go_wp2_with fail
    go_ret
    exact ⟨rfl, Below.refl _ _⟩
  · by_cases hbn : (1048576 : Int) < (n : Int)
    · clear harg
      go_enter Try.func3, Try.ntmps3
      go_wp2_with fail
      go_ret
      exact ⟨rfl, Below.refl _ _⟩
    · have HA : Hid (∀ W, Below w.heap.size w W → ArgI W w.heap.size a n zs) := fun W h => harg.below h
      have hlen : zs.length = n := harg.len
      have HLEN : Hid (zs.length = n) := hlen
      have hpl : (pcsB zs s).length ≤ 1048577 := by
        have := pcs_len zs (bs s)
        unfold pcsB
        rw [List.length_map]
        omega
      clear hlen
      have hn1 : n ≤ 1048576 := by omega
      have hs1 : s.size ≤ 1048576 := by omega
      go_enter Try.func3, Try.ntmps3
      go_wp2_with fail
      refine (toIntS_any w.heap.size a n cap zs _ harg (Nat.le_refl _) hn1).mono ?_
      rintro e w1 ⟨o1, rfl, hv1, hb1⟩
      clear harg
      go_wp2_with fail
      refine (specPieces_any s o1 n n zs _ hv1 hn1 hs1).mono ?_
      rintro e w2 ⟨V1, rfl, O1, b2⟩
      have hb2 := hb1.trans (b2.mono hb1.size)
      have HO1 : Hid (w2.ownsRow w1.heap.size 9 1 V1 (pcsB zs s).length ((pcsB zs s).map Value.string)) := O1
      clear O1 b2 hv1 hb1
      go_wp2_with fail
      refine (toIntSO_any w.heap.size a n cap zs _ (HA.out _ hb2) hb2.size hn1).mono ?_
      rintro e w3 ⟨rfl, hp3, b3⟩
      have hb3 := hb2.trans (b3.mono hb2.size)
      obtain ⟨g, hg⟩ : ∃ x, x = w2.heap.size := ⟨_, rfl⟩
      rw [← hg] at hp3
      rw [← hg]
      have HP3 : Hid (PartI w3 g n n zs) := hp3
      have HX1 : Hid (∀ j, V1.ownBlock = some j → j < g) := fun j hj => by rw [hg]; exact (own_ltR HO1.out hj).2
      have HO1b : Hid (w3.ownsRow w1.heap.size 9 1 V1 (pcsB zs s).length ((pcsB zs s).map Value.string)) := owns_same HO1.out (fun j hj => b3.block j (own_ltR HO1.out hj).2)
      have HGW : Hid (w.heap.size ≤ g) := by show _ ≤ _; rw [hg]; exact hb2.size
      clear hp3 b3 hb2 HO1 hg
      go_wp2_with fail
      refine (implPieces_any s (some ⟨g, 0, none⟩) n n zs _ (HP3.out.ints HLEN.out) hn1 hs1).mono ?_
      rintro e w4 ⟨V2, rfl, O2, b4⟩
      have hb4 := hb3.trans (b4.mono hb3.size)
      obtain ⟨B, hB⟩ : ∃ x, x = w3.heap.size := ⟨_, rfl⟩
      rw [← hB] at O2
      have HO2 : Hid (w4.ownsRow B 9 1 V2 (pcsB zs s).length ((pcsB zs s).map Value.string)) := O2
      have HGB : Hid (g < B) := by show _ < _; rw [hB]; exact HP3.out.lt
      have HWB : Hid (w.heap.size ≤ B) := by show _ ≤ _; rw [hB]; exact hb3.size
      have HB4 : Hid (B ≤ w4.heap.size) := by show _ ≤ _; rw [hB]; exact b4.size
      have HP4 : Hid (PartI w4 g n n zs) := HP3.out.same (b4.block g HP3.out.lt)
      have HO1c : Hid (w4.ownsRow w1.heap.size 9 1 V1 (pcsB zs s).length ((pcsB zs s).map Value.string)) := owns_same HO1b.out (fun j hj => b4.block j (own_ltR HO1b.out hj).2)
      clear O2 b4 hb3 HO1b HP3 hB
      go_wp2_with fail
      refine (eqS_any V2 V1 _ B w1.heap.size (pcsB zs s) _ HO2.out HO1c.out (by omega)).mono ?_
      rintro e w5 ⟨rfl, b5⟩
      have hb5 := hb4.trans (b5.mono hb4.size)
      have HP5 : Hid (PartI w5 g n n zs) := HP4.out.same (b5.block g HP4.out.lt)
      have HO1d : Hid (w5.ownsRow w1.heap.size 9 1 V1 (pcsB zs s).length ((pcsB zs s).map Value.string)) := owns_same HO1c.out (fun j hj => b5.block j (own_ltR HO1c.out hj).2)
      have HO2d : Hid (w5.ownsRow B 9 1 V2 (pcsB zs s).length ((pcsB zs s).map Value.string)) := owns_same HO2.out (fun j hj => b5.block j (own_ltR HO2.out hj).2)
      have HB5 : Hid (B ≤ w5.heap.size) := Nat.le_trans HB4.out b5.size
      clear b5 hb4 HP4 HO1c HO2
      go_wp2_with fail
      refine (toIntS_any w.heap.size a n cap zs _ (HA.out _ hb5) hb5.size hn1).mono ?_
      rintro e w6 ⟨o3, rfl, hv6, b6⟩
      have hb6 := hb5.trans (b6.mono hb5.size)
      have HP6 : Hid (PartI w6 g n n zs) := HP5.out.same (b6.block g HP5.out.lt)
      have HO1e : Hid (w6.ownsRow w1.heap.size 9 1 V1 (pcsB zs s).length ((pcsB zs s).map Value.string)) := owns_same HO1d.out (fun j hj => b6.block j (own_ltR HO1d.out hj).2)
      have HO2e : Hid (w6.ownsRow B 9 1 V2 (pcsB zs s).length ((pcsB zs s).map Value.string)) := owns_same HO2d.out (fun j hj => b6.block j (own_ltR HO2d.out hj).2)
      have HB6 : Hid (B ≤ w6.heap.size) := Nat.le_trans HB5.out b6.size
      clear b6 hb5 HP5 HO1d HO2d
      go_wp2_with fail
      refine (eqIntS_any (some ⟨g, 0, none⟩) o3 n n n zs _ (HP6.out.ints HLEN.out) hv6 (by omega)).mono ?_
      rintro e w7 ⟨rfl, b7⟩
      have hb7 := hb6.trans (b7.mono hb6.size)
      have HP7 : Hid (PartI w7 g n n zs) := HP6.out.same (b7.block g HP6.out.lt)
      have HO1f : Hid (w7.ownsRow w1.heap.size 9 1 V1 (pcsB zs s).length ((pcsB zs s).map Value.string)) := owns_same HO1e.out (fun j hj => b7.block j (own_ltR HO1e.out hj).2)
      have HO2f : Hid (w7.ownsRow B 9 1 V2 (pcsB zs s).length ((pcsB zs s).map Value.string)) := owns_same HO2e.out (fun j hj => b7.block j (own_ltR HO2e.out hj).2)
      have HB7 : Hid (B ≤ w7.heap.size) := Nat.le_trans HB6.out b7.size
      clear b7 hb6 HP6 HO1e HO2e hv6
      go_wp2_with fail
      refine (markIntS_any g n n zs _ HP7.out hn1).mono ?_
      rintro e w8 ⟨rfl, b8⟩
      have hb8 : Below w.heap.size w w8 := hb7.trans (below_grown b8 hb7.size HGW.out)
      have HO1g : Hid (w8.ownsRow w1.heap.size 9 1 V1 (pcsB zs s).length ((pcsB zs s).map Value.string)) := owns_same HO1f.out (fun j hj => b8.block j (own_ltR HO1f.out hj).2 (fun e => by
        cases e
        have := HX1.out _ hj
        omega))
      have HO2g : Hid (w8.ownsRow B 9 1 V2 (pcsB zs s).length ((pcsB zs s).map Value.string)) := owns_same HO2f.out (fun j hj => b8.block j (own_ltR HO2f.out hj).2 (fun e => by
        cases e
        have h1 := (own_ltR HO2f.out hj).1
        have h2 := HGB.out
        omega))
      have HBS8 : Hid (B ≤ w8.heap.size) := Nat.le_trans HB7.out b8.size
      have hk0 : ¬ (n : Int) + 1 < 0 := by omega
      clear b8 hb7 HP7 HO1f HO2f
      go_wp2_with fail
      refine (eqS_any V2 V1 _ B w1.heap.size (pcsB zs s) _ HO2g.out HO1g.out (by omega)).mono ?_
      rintro e w9 ⟨rfl, b9⟩
      have hb9 := hb8.trans (b9.mono hb8.size)
      have HO1h : Hid (w9.ownsRow w1.heap.size 9 1 V1 (pcsB zs s).length ((pcsB zs s).map Value.string)) := owns_same HO1g.out (fun j hj => b9.block j (own_ltR HO1g.out hj).2)
      have HO2h : Hid (w9.ownsRow B 9 1 V2 (pcsB zs s).length ((pcsB zs s).map Value.string)) := owns_same HO2g.out (fun j hj => b9.block j (own_ltR HO2g.out hj).2)
      have HB9 : Hid (B ≤ w9.heap.size) := Nat.le_trans HBS8.out b9.size
      clear b9 hb8 HO1g HO2g hk0
      go_wp2_with fail
      refine (markS_any V2 _ B (pcsB zs s) _ HO2h.out HB9.out (by omega)).mono ?_
      rintro e y1 ⟨rfl, O10, d1⟩
      have hd1 : Below w.heap.size w y1 := hb9.trans (d1.mono HWB.out)
      have HQ2 : Hid (y1.ownsRow B 9 1 V2 (pcsB zs s).length ((mkTo (pcsB zs s) (pcsB zs s).length).map Value.string)) := O10
      have HQ1 : Hid (y1.ownsRow w1.heap.size 9 1 V1 (pcsB zs s).length ((pcsB zs s).map Value.string)) := owns_same HO1h.out (fun j hj => d1.block j (by have := HX1.out j hj; have := HGB.out; omega))
      have HMK : Hid (∀ j, j < (pcsB zs s).length → textAt (mkTo (pcsB zs s) (pcsB zs s).length) j = markOf (j + 1)) := fun j hj => mkTo_at _ j hj _ hj
      clear O10 d1 hb9 HO1h HO2h HB9
      obtain ⟨np, hnp⟩ : ∃ x, x = (pcsB zs s).length := ⟨_, rfl⟩
      rw [← hnp] at hpl
      rw [← hnp]
      have HNP : Hid ((pcsB zs s).length = np) := hnp.symm
      have hk1 : ¬ (np : Int) + 1 < 0 := by omega
      have tk : ((np : Int) + 1 != (np : Int) + 1) = false := by simp
      clear hnp
      go_wp2_with fail
      refine (heldS_any V2 _ B (mkTo (pcsB zs s) (pcsB zs s).length) _ HQ2.out (by rw [HNP.out]; omega) HMK.out).mono ?_
      rintro e y2 ⟨rfl, d2⟩
      rw [HNP.out]
      have hd2 := hd1.trans (d2.mono hd1.size)
      have HQ1b : Hid (y2.ownsRow w1.heap.size 9 1 V1 (pcsB zs s).length ((pcsB zs s).map Value.string)) := owns_same HQ1.out (fun j hj => d2.block j (own_ltR HQ1.out hj).2)
      have HQ2b : Hid (y2.ownsRow B 9 1 V2 (pcsB zs s).length ((mkTo (pcsB zs s) (pcsB zs s).length).map Value.string)) := owns_same HQ2.out (fun j hj => d2.block j (own_ltR HQ2.out hj).2)
      clear d2 hd1 HQ1 HQ2
      go_wp2_with fail
      refine (toIntS_any w.heap.size a n cap zs _ (HA.out _ hd2) hd2.size hn1).mono ?_
      rintro e y3 ⟨o4, rfl, hv7, d3⟩
      have hd3 := hd2.trans (d3.mono hd2.size)
      have HQ1c : Hid (y3.ownsRow w1.heap.size 9 1 V1 (pcsB zs s).length ((pcsB zs s).map Value.string)) := owns_same HQ1b.out (fun j hj => d3.block j (own_ltR HQ1b.out hj).2)
      have HQ2c : Hid (y3.ownsRow B 9 1 V2 (pcsB zs s).length ((mkTo (pcsB zs s) (pcsB zs s).length).map Value.string)) := owns_same HQ2b.out (fun j hj => d3.block j (own_ltR HQ2b.out hj).2)
      clear d3 hd2 HQ1b HQ2b
      go_wp2_with fail
      refine (implPieces_any s o4 n n zs _ hv7 hn1 hs1).mono ?_
      rintro e y4 ⟨V3, rfl, O3, d4⟩
      have hd4 := hd3.trans (d4.mono hd3.size)
      have HQ3 : Hid (y4.ownsRow y3.heap.size 9 1 V3 (pcsB zs s).length ((pcsB zs s).map Value.string)) := O3
      have HQ1d : Hid (y4.ownsRow w1.heap.size 9 1 V1 (pcsB zs s).length ((pcsB zs s).map Value.string)) := owns_same HQ1c.out (fun j hj => d4.block j (own_ltR HQ1c.out hj).2)
      have HQ2d : Hid (y4.ownsRow B 9 1 V2 (pcsB zs s).length ((mkTo (pcsB zs s) (pcsB zs s).length).map Value.string)) := owns_same HQ2c.out (fun j hj => d4.block j (own_ltR HQ2c.out hj).2)
      clear O3 d4 hd3 HQ1c HQ2c hv7
      go_wp2_with fail
      refine (eqS_any V3 V1 _ y3.heap.size w1.heap.size (pcsB zs s) _ HQ3.out HQ1d.out (by rw [HNP.out]; omega)).mono ?_
      rintro e y5 ⟨rfl, d5⟩
      have hd5 := hd4.trans (d5.mono hd4.size)
      have HQ2e : Hid (y5.ownsRow B 9 1 V2 (pcsB zs s).length ((mkTo (pcsB zs s) (pcsB zs s).length).map Value.string)) := owns_same HQ2d.out (fun j hj => d5.block j (own_ltR HQ2d.out hj).2)
      clear d5 hd4 HQ1d HQ2d HQ3
      go_wp2_with fail
      refine (heldS_any V2 _ B (mkTo (pcsB zs s) (pcsB zs s).length) _ HQ2e.out (by rw [HNP.out]; omega) HMK.out).mono ?_
      rintro e y6 ⟨rfl, d6⟩
      rw [HNP.out]
      have hd6 := hd5.trans (d6.mono hd5.size)
      clear d6 hd5 HQ2e
      go_wp2_with fail
      go_ret
      exact ⟨rfl, hd6⟩

set_option maxRecDepth 100000 in
theorem lifted (os : Os) (started : os.Started) (H : Type) (enc : TypeId × Value → H) :
    ReturnsInHanded {} Try.checked os 3 .any (Rows.fnExactPiecesSpec.pre6 enc Try.prog Try.f3 Rows.fnExactPiecesRow.domain false) (Rows.fnExactPiecesSpec.post enc Try.prog Try.f3 false true false false) := by
  refine returnsInHanded_of_change (C := Try.checked) own started (by kernel_rfl) Try.func3
    (ChangeSpec.witness6 (enc := enc) (C := Try.checked) false ⟨#[], #[.string ByteArray.empty, .slice none 0 0], []⟩ 8 (by kernel_rfl) (by kernel_rfl) (by kernel_rfl) (by kernel_rfl)) ?_
  intro W base args ds gs before hval0 hW _ _
  have hval : ∀ (j : Nat) t v, Try.f3.params[j]? = some t → args[j]? = some v → Value.okWide Try.prog W .any base t v := hval0
  have hW' := hW
  obtain ⟨p, q, hA0, hV, rfl, hfz, hnd⟩ := hW
  have hA : DataW.TrodAll enc Try.prog W 0 (fun _ => true) true Try.f3.params.toList args.toList ds p := hA0
  rw [Try.params3] at hA hval
  obtain ⟨v0, vs0, d0, ds0, p0, q0, hargs, rfl, rfl, h0, r0⟩ := trodAll_cons hA
  obtain ⟨v1, vs1, d1, ds1, p1, q1, hargs1, rfl, rfl, h1, r1⟩ := trodAll_cons r0
  obtain ⟨rfl, rfl, rfl⟩ := trodAll_nil r1
  obtain rfl : args = #[v0, v1] := by cases args; simp_all
  obtain ⟨rfl, rfl⟩ := trodVars_none hV
  obtain ⟨a0, rfl, rfl, rfl, w0⟩ := open_string Try.underlying9 (hval 0 9 v0 rfl rfl) h0
  obtain ⟨a1, len1, cap1, rfl⟩ := okWide_slice Try.underlying22 (hval 1 22 v1 rfl rfl)
  have k1 := h1
  have lt1 : ∀ x ∈ p1, x.block < W.heap.size := by obtain ⟨m, hm⟩ := k1; exact DataW.trod_lt m _ _ _ hm
  obtain ⟨z1, w1⟩ : ∃ zs, IsRow .i64 W a1 len1 cap1 zs := by
    obtain ⟨fuel, hf⟩ := h1
    rcases open_ints Try.underlying22 Try.underlying3 (by kernel_rfl) hf with ⟨hcs, _⟩ | ⟨x, l, c, zs, hcs, _, hl, hm, hz, _, hcell, hwz⟩
    · simp [Value.cells] at hcs
      obtain ⟨rfl, rfl, rfl⟩ := hcs
      exact ⟨[], .inl ⟨rfl, rfl, rfl, rfl⟩⟩
    · simp [Value.cells] at hcs
      obtain ⟨rfl, rfl, rfl⟩ := hcs
      exact ⟨zs, .inr ⟨_, rfl, hl, hm, by simpa using hz, hcell, hwz⟩⟩
  clear hA0 hval0
  refine (walk1 W a0 w0 a1 len1 cap1 z1 w1).mono fun e W' ⟨he, bel⟩ => ?_
  subst he
  exact ⟨_, rfl, _, _, _, [], _, [], hW', trodAll_mk1 (shut_bool Try.underlying4 _), (trodAll_cons_mk (shut_string Try.underlying9 w0) (trodAll_cons_mk (Below.trod laidOut (by kernel_rfl) (of_decide_eq_true (by kernel_rfl)) k1 bel lt1) trodAll_mk0)), rfl, bel.frame _, fun h => by cases h⟩

theorem over : Rows.fnExactPiecesRow.holds Try.pinned (OpenSpec.ofChange Rows.fnExactPiecesSpec) :=
  OpenClaim.holds_of_wide 3 Try.f3 rfl rfl rfl rfl rfl rfl rfl ⟨rfl, rfl, rfl, rfl, rfl⟩ rfl rfl rfl rfl rfl (by kernel_rfl) Try.func3 (by kernel_rfl)
    (of_decide_eq_true (by kernel_rfl)) (by unfold Func.isWrapper; first | (rw [if_pos (by decide +kernel)]; kernel_rfl) | (rw [if_neg (by decide +kernel)]; exact ⟨rfl, rfl⟩))
    (fun os started H enc _ => lifted os started H enc)
end fnExactPieces

theorem fnExactPieces_holds : Rows.FnExactPiecesSaid := fnExactPieces.over
#print axioms fnExactPieces_holds
end Go.Proofs.Ytffjnfaneeejnaa
