/- What the proof of FnExactFind leans on: contracts of the program's and the specification's functions, and plain facts (part 8 of 8). -/
import Derived.Test.YtcipbkkpkhameaaGreatFnExactFindG
namespace Go.Proofs.YtcipbkkpkhameaaGreat
open Go.RowKit
open Go.Lib hiding intOf

set_option maxHeartbeats 16000000 in
set_option maxRecDepth 100000 in
theorem findWalk (w : World) (a1 : Option Addr) (n1 c1 : Nat) (cs : List ByteArray) (a2 : Option Addr) (n2 c2 : Nat) (ws : List (Int × ByteArray)) (a3 : Option Addr) (n3 c3 : Nat) (ks : List KpD) (a4 : Option Addr) (n4 c4 : Nat) (bl : List (Int × ByteArray × ByteArray × Int)) (nx sq : Int) (h1 : ArgT w w.heap.size a1 n1 cs) (h2 : ArgWrite w w.heap.size a2 n2 ws) (h3 : ArgKept w w.heap.size a3 n3 ks) (h4 : ArgBan w w.heap.size a4 n4 bl) (hm : n1 ≤ maxLen ∧ n2 ≤ maxLen ∧ n3 ≤ maxLen ∧ n4 ≤ maxLen ∧ (∀ i, i < n1 → (textAt cs i).size ≤ maxLen) ∧ (∀ x ∈ ws, (x.2).size ≤ maxLen) ∧ (∀ k ∈ ks, KpMax k) ∧ ∀ x ∈ bl, (x.2.1).size ≤ maxLen ∧ (x.2.2.1).size ≤ maxLen) (mt : Int) (p : ByteArray) (aQ : Option Addr) (n5 cQ : Nat) (bd : ByteArray) (gs : List (ByteArray × ByteArray)) (h5 : ArgF w w.heap.size aQ n5 gs) (hn5 : n5 ≤ maxLen) (hs5 : WalkF n5 gs) (hp : p.size ≤ maxLen) (hbd : bd.size ≤ maxLen) (ko : KpD) (fb : Bool) (hK : IsFound (⟨cs, ws, ks, bl, nx, sq⟩ : ShD) p gs ko fb) :
    Calls Tryz.prog 4 #[.agg #[.slice a1 n1 c1, .slice a2 n2 c2, .slice a3 n3 c3, .slice a4 n4 c4, .int .i64 nx, .int .i64 sq], .agg #[.int .i64 mt, .string p, .slice aQ n5 cQ, .string bd]] w fun e w' => e = .returned (.bool true) ∧ Below w.heap.size w w' := by
  have HA1 : Hid (∀ W, Below w.heap.size w W → ArgT W w.heap.size a1 n1 cs) := fun W h => h1.below h
  have HA2 : Hid (∀ W, Below w.heap.size w W → ArgWrite W w.heap.size a2 n2 ws) := fun W h => h2.below h
  have HA3 : Hid (∀ W, Below w.heap.size w W → ArgKept W w.heap.size a3 n3 ks) := fun W h => h3.below h
  have HA4 : Hid (∀ W, Below w.heap.size w W → ArgBan W w.heap.size a4 n4 bl) := fun W h => h4.below h
  have HL : Hid (cs.length = n1 ∧ ws.length = n2 ∧ ks.length = n3 ∧ bl.length = n4) := ⟨h1.len, h2.1, h3.1, h4.1⟩
  have HMX : Hid (n1 ≤ maxLen ∧ n2 ≤ maxLen ∧ n3 ≤ maxLen ∧ n4 ≤ maxLen ∧ (∀ i, i < n1 → (textAt cs i).size ≤ maxLen) ∧ (∀ x ∈ ws, (x.2).size ≤ maxLen) ∧ (∀ k ∈ ks, KpMax k) ∧ ∀ x ∈ bl, (x.2.1).size ≤ maxLen ∧ (x.2.2.1).size ≤ maxLen) := hm
  clear h1 h2 h3 h4 hm
  have HA5 : Hid (∀ W, Below w.heap.size w W → ArgF W w.heap.size aQ n5 gs) := fun W h => h5.below h
  have HL5 : Hid (gs.length = n5) := h5.len
  have HN5 : Hid (n5 ≤ maxLen) := hn5
  have HS5 : Hid (WalkF n5 gs) := hs5
  have HPM : Hid (p.size ≤ maxLen) := hp
  have HBM : Hid (bd.size ≤ maxLen) := hbd
  clear h5 hn5 hs5 hp hbd
  have HKK : Hid (IsFound (⟨cs, ws, ks, bl, nx, sq⟩ : ShD) p gs ko fb) := hK
  clear hK
  have hb0 : Below w.heap.size w w := Below.refl _ _
  go_enter Tryz.func4, Tryz.ntmps4
  go_upto_region 1 with fail
  obtain ⟨qv1, hqv1⟩ : ∃ q, q = (w).heap.size := ⟨_, rfl⟩
  obtain ⟨w1, hW1⟩ : ∃ W, W = (w).alloc (.cells #[.slice a1 n1 c1, .slice a2 n2 c2, .slice a3 n3 c3, .slice a4 n4 c4, .int .i64 nx, .int .i64 sq] 29) := ⟨_, rfl⟩
  have hz1 : (w).heap.size = qv1 := hqv1.symm
  first | rw [← hW1, ← hqv1] | rw [← hW1]
  have hs1 : w1.heap.size = qv1 + 1 := by rw [hW1, ← hz1]; simp
  have bw : Below (w).heap.size (w) w1 := by rw [hW1]; exact (Below.refl _ _).alloc (Nat.le_refl _) _
  have hb1 := hbt hb0 bw
  have HBv1_1 : Hid ((w1).heap[qv1]? = some (.cells #[.slice a1 n1 c1, .slice a2 n2 c2, .slice a3 n3 c3, .slice a4 n4 c4, .int .i64 nx, .int .i64 sq] 29)) := by show _ = _; rw [hW1, ← hz1]; exact heap_alloc_new _ _
  clear hb0 bw hW1 hz1
  obtain ⟨qv2, hqv2⟩ : ∃ q, q = qv1 + 1 := ⟨_, rfl⟩
  obtain ⟨w2, hW2⟩ : ∃ W, W = (w1).alloc (.cells #[.int .i64 mt, .string p, .slice aQ n5 cQ, .string bd] 44) := ⟨_, rfl⟩
  have hz2 : (w1).heap.size = qv2 := by rw [hqv2]; exact hs1
  first | rw [← hW2, ← hqv2] | rw [← hW2]
  have hs2 : w2.heap.size = qv2 + 1 := by rw [hW2, ← hz2]; simp
  have bw : Below (w1).heap.size (w1) w2 := by rw [hW2]; exact (Below.refl _ _).alloc (Nat.le_refl _) _
  have hb2 := hbt hb1 bw
  have HBv1_2 := hblk HBv1_1 bw
  have HBv2_2 : Hid ((w2).heap[qv2]? = some (.cells #[.int .i64 mt, .string p, .slice aQ n5 cQ, .string bd] 44)) := by show _ = _; rw [hW2, ← hz2]; exact heap_alloc_new _ _
  clear hb1 HBv1_1 bw hW2 hz2
  clear hs2 hqv2 hs1 hqv1
  have cv1_0 : (w2).cell? ⟨qv1, 0, none⟩ = some (.slice a1 n1 c1) := (cell_of HBv1_2.out 0).trans rfl
  have cv1_1 : (w2).cell? ⟨qv1, 1, none⟩ = some (.slice a2 n2 c2) := (cell_of HBv1_2.out 1).trans rfl
  have cv1_2 : (w2).cell? ⟨qv1, 2, none⟩ = some (.slice a3 n3 c3) := (cell_of HBv1_2.out 2).trans rfl
  have cv1_3 : (w2).cell? ⟨qv1, 3, none⟩ = some (.slice a4 n4 c4) := (cell_of HBv1_2.out 3).trans rfl
  have cv1_4 : (w2).cell? ⟨qv1, 4, none⟩ = some (.int .i64 nx) := (cell_of HBv1_2.out 4).trans rfl
  have cv1_5 : (w2).cell? ⟨qv1, 5, none⟩ = some (.int .i64 sq) := (cell_of HBv1_2.out 5).trans rfl
  go_wp2_with fail
  refine (szShelf_any 1048576 (by omega) (by omega) a1 n1 c1 cs a2 n2 c2 ws a3 n3 c3 ks a4 n4 c4 bl nx sq w.heap.size _ (HA1.out _ hb2) (HA2.out _ hb2) (HA3.out _ hb2) (HA4.out _ hb2) hb2.size HMX.out).mono ?_
  rintro e w3 ⟨r1, rfl, hl1, hr1, bw⟩
  have hb3 := hbt hb2 bw
  have HBv1_3 := hblk HBv1_2 bw
  have HBv2_3 := hblk HBv2_2 bw
  clear hb2 HBv1_2 HBv2_2 bw
  clear cv1_0 cv1_1 cv1_2 cv1_3 cv1_4 cv1_5
  by_cases hc1 : r1 < 0
  · clear hr1
    go_wp2_with fail
    go_ret
    exact ⟨rfl, hb3⟩
  · obtain ⟨hr2, ⟨hm1, hz1⟩, ⟨hm2, hz2⟩, hz3, hm4, hz4⟩ := hr1 (by omega)
    obtain ⟨sa, hsa⟩ : ∃ s, s = (⟨cs, ws, ks, bl, nx, sq⟩ : ShD) := ⟨_, rfl⟩
    have hwt : ks.length ≤ wtK ks := wtK_ge ks
    have HKL : Hid (n3 ≤ 1048576) := by rw [← HL.out.2.2.1]; show _ ≤ _; omega
    have HSMALL : Hid (ShSmall sa) := by
      show ShSmall sa
      rw [hsa]
      exact ⟨by rw [HL.out.1]; exact hm1, by rw [HL.out.2.1]; exact hm2, by rw [HL.out.2.2.1]; exact HKL.out, by rw [HL.out.2.2.2]; exact hm4, by rw [HL.out.1]; exact hz1, hz2, hz3, hz4⟩
    have HLIMsa : Hid (ShLim sa) := by
      have hs := HSMALL.out
      refine ⟨Nat.le_trans hs.c (by decide), Nat.le_trans hs.w (by decide), Nat.le_trans hs.k (by decide), Nat.le_trans hs.b (by decide), fun k hk => ⟨Nat.le_trans (hs.ks k hk).2.1.1 (by decide), Nat.le_trans (hs.ks k hk).2.2.1.1 (by decide), Nat.le_trans (hs.ks k hk).2.2.2.1 (by decide)⟩, fun kv hk => ?_⟩
      have h1 := wms_le kv
      rw [hk] at h1
      rw [hsa] at h1 ⊢
      dsimp only at h1 ⊢
      have := HL.out
      omega
    have HROOM : Hid (∀ kv : List (KpD × Value × Value × Value), kv.map (·.1) = sa.ks → 1 + sa.cs.length + 2 * sa.ws.length + wms kv + 4 * sa.bl.length + 6 * r1.toNat ≤ 6291457) := fun kv hk => by
      have h1 := wms_le kv
      rw [hk] at h1
      rw [hsa] at h1 ⊢
      dsimp only at h1 ⊢
      have := HL.out
      omega
    have HTO : Hid (∀ W : World, Below w.heap.size w W → Calls Tryz.prog 7 #[.agg #[.slice a1 n1 c1, .slice a2 n2 c2, .slice a3 n3 c3, .slice a4 n4 c4, .int .i64 nx, .int .i64 sq]] W fun e w' => ShelfIs sa W e w') := fun W hW => by
      rw [hsa]
      exact toShelf_any a1 n1 c1 cs a2 n2 c2 ws a3 n3 c3 ks a4 n4 c4 bl nx sq w.heap.size W (HA1.out W hW) (HA2.out W hW) (HA3.out W hW) (HA4.out W hW) hW.size hm1 hm2 HKL.out hm4 (fun k hk => ⟨(hz3 k hk).2.1.1, (hz3 k hk).2.2.1.1, (hz3 k hk).2.2.2.1⟩)
    have HK2 : Hid (IsFound sa p gs ko fb) := by rw [hsa]; exact HKK.out
    have HLV : Hid (ko.xs.length ≤ 1048576 ∧ ko.ys.length ≤ 1048576 ∧ ko.fs.length ≤ 1048576) := HK2.out.small HSMALL.out
    have hfb : (fb != fb) = false := by simp
    clear hsa hr1 hr2 hz1 hz2 hz3 hz4 hwt
    have cv2_0 : (w3).cell? ⟨qv2, 0, none⟩ = some (.int .i64 mt) := (cell_of HBv2_3.out 0).trans rfl
    have cv2_1 : (w3).cell? ⟨qv2, 1, none⟩ = some (.string p) := (cell_of HBv2_3.out 1).trans rfl
    have cv2_2 : (w3).cell? ⟨qv2, 2, none⟩ = some (.slice aQ n5 cQ) := (cell_of HBv2_3.out 2).trans rfl
    have cv2_3 : (w3).cell? ⟨qv2, 3, none⟩ = some (.string bd) := (cell_of HBv2_3.out 3).trans rfl
    go_wp2_with fail
    refine (szReq_room r1 (by omega) (by omega) mt p aQ n5 cQ bd gs _ (argUpS (HA5.out _ hb3) hb3.size) HN5.out HS5.out HPM.out HBM.out).mono ?_
    rintro e w4 ⟨r2, rfl, hl2, hr2, bw⟩
    have hb4 := hbt hb3 bw
    have HBv1_4 := hblk HBv1_3 bw
    have HBv2_4 := hblk HBv2_3 bw
    clear hb3 HBv1_3 HBv2_3 bw
    clear cv2_0 cv2_1 cv2_2 cv2_3
    by_cases hc2 : r2 < 0
    · clear hr2
      go_wp2_with fail
      go_ret
      exact ⟨rfl, hb4⟩
    · obtain ⟨hrm2, _, hm5, hz5⟩ := hr2 (by omega)
      clear hr2
      have HCQ : Hid (CopyF gs) := fun i hi => by
        have := szTo_get gs n5 i (by rw [← HL5.out]; exact hi)
        omega
      have HSP : Hid (∀ W : World, Below w.heap.size w W → ∀ (v1 v2 V VB : Value) (kv : List (KpD × Value × Value × Value)) (B : Nat), ShelfO W B v1 v2 V VB kv sa → ∀ (u : Value) (B2 : Nat), W.ownsRow B2 132 2 u n5 (flatF gs) → Calls Tryz.prog 11 #[.agg #[v1, v2, V, VB, .int .i64 sa.nx, .int .i64 sa.sq], .agg #[.int .i64 mt, .string p, u, .string bd]] W fun e w' => FoundG ko fb W e w') := fun W _ v1 v2 V VB kv B ho u B2 hu => by
        exact findG HK2.out (specFind_any v1 v2 V VB kv sa B W ho HSMALL.out mt p u n5 B2 gs bd (FieldsV.of_owns hu) (by omega))
      have HIM : Hid (∀ W : World, Below w.heap.size w W → ∀ (v1 v2 V VB : Value) (kv : List (KpD × Value × Value × Value)) (B : Nat), ShelfO W B v1 v2 V VB kv sa → ∀ (u : Value) (B2 : Nat), W.ownsRow B2 132 2 u n5 (flatF gs) → Calls Tryz.prog 13 #[.agg #[v1, v2, V, VB, .int .i64 sa.nx, .int .i64 sa.sq], .agg #[.int .i64 mt, .string p, u, .string bd]] W fun e w' => FoundG ko fb W e w') := fun W _ v1 v2 V VB kv B ho u B2 hu => by
        exact findG HK2.out (implFind_any v1 v2 V VB kv sa B W ho HSMALL.out mt p u n5 B2 gs bd (FieldsV.of_owns hu) (by omega) HCQ.out)
      clear hz5
      go_upto_region 8 with fail
      have HSS : Hid (∀ W, Below w4.heap.size w4 W → W.heap[qv1]? = some (.cells #[.slice a1 n1 c1, .slice a2 n2 c2, .slice a3 n3 c3, .slice a4 n4 c4, .int .i64 nx, .int .i64 sq] 29) ∧ W.heap[qv2]? = some (.cells #[.int .i64 mt, .string p, .slice aQ n5 cQ, .string bd] 44)) := fun W h => ⟨blk_below HBv1_4.out h, blk_below HBv2_4.out h⟩
      go_cut [6, 7] (fun sx sx7 wx => ∃ (q : Nat) (oX3 : Option Addr) (pX3 : Nat) (oY3 : Option Addr) (pY3 : Nat) (oG3 : Option Addr) (pG3 : Nat), sx = .pointer (some ⟨q, 0, none⟩) ∧ sx7 = .bool fb ∧ Hid (Below w4.heap.size w4 wx ∧ wx.heap[q]? = some (.cells #[.string ko.p, .slice oX3 ko.xs.length pX3, .slice oY3 ko.ys.length pY3, .int .i64 ko.st, .slice oG3 ko.fs.length pG3, .string ko.b, .int .i64 ko.t] 50) ∧ w4.heap.size ≤ q ∧ (wx).ownsRow w4.heap.size 9 1 (.slice oX3 ko.xs.length pX3) ko.xs.length (ko.xs.map Value.string) ∧ (wx).ownsRow w4.heap.size 9 1 (.slice oY3 ko.ys.length pY3) ko.ys.length (ko.ys.map Value.string) ∧ (wx).ownsRow w4.heap.size 132 2 (.slice oG3 ko.fs.length pG3) ko.fs.length (flatF ko.fs) ∧ (∀ g, (Value.ownBlock (.slice oX3 ko.xs.length pX3)) = some g → (Value.ownBlock (.slice oY3 ko.ys.length pY3)) ≠ some g)))
      case first =>
        refine wp_region_held_drew (S := fun W => W.heap[qv1]? = some (.cells #[.slice a1 n1 c1, .slice a2 n2 c2, .slice a3 n3 c3, .slice a4 n4 c4, .int .i64 nx, .int .i64 sq] 29) ∧ W.heap[qv2]? = some (.cells #[.int .i64 mt, .string p, .slice aQ n5 cQ, .string bd] 44)) (by kernel_rfl) (HSS.out _ (Below.refl _ _).drew) (fun _ => ?_)
        obtain ⟨w5, hX⟩ : ∃ X, X = w4.drew := ⟨_, rfl⟩
        have bw : Below w4.heap.size w4 w5 := by rw [hX]; exact (Below.refl _ _).drew
        rw [← hX]
        have hb5 := hbt hb4 bw
        have HM5 : Hid ((w4).heap.size ≤ (w5).heap.size) := bw.size
        have HBv1_5 := hblk HBv1_4 bw
        have HBv2_5 := hblk HBv2_4 bw
        have HX_5 : Hid (Below w4.heap.size w4 w5) := bw
        clear bw hX
        refine tkL 0 (.agg #[.slice a1 n1 c1, .slice a2 n2 c2, .slice a3 n3 c3, .slice a4 n4 c4, .int .i64 nx, .int .i64 sq]) 28 rfl rfl (Or.inl ⟨by rfl, by intro W hW; obtain ⟨hhv1, hhv2⟩ := hW; have y0 := (cell_of hhv1 0).trans rfl; have y1 := (cell_of hhv1 1).trans rfl; have y2 := (cell_of hhv1 2).trans rfl; have y3 := (cell_of hhv1 3).trans rfl; have y4 := (cell_of hhv1 4).trans rfl; have y5 := (cell_of hhv1 5).trans rfl; go_simp⟩) (HSS.out _ HX_5.out) ?_
        go_frame
        refine tkL 2 (.agg #[.int .i64 mt, .string p, .slice aQ n5 cQ, .string bd]) 30 rfl rfl (Or.inl ⟨by rfl, by intro W hW; obtain ⟨hhv1, hhv2⟩ := hW; have y0 := (cell_of hhv2 0).trans rfl; have y1 := (cell_of hhv2 1).trans rfl; have y2 := (cell_of hhv2 2).trans rfl; have y3 := (cell_of hhv2 3).trans rfl; go_simp⟩) (HSS.out _ HX_5.out) ?_
        go_frame
        refine wpAnyH_ready (rs := [1, 8]) (by kernel_rfl) (by simp) ?_
        refine AllReadyH.cons rfl (fun K hK => ?_) (AllReadyH.cons rfl (fun K hK => ?_) AllReadyH.nil)
        · go_simp
          refine (HTO.out _ hb5).mono ?_
          rintro e w6 ⟨va, vb, vc, vd, kv1, rfl, hso, bw⟩
          obtain ⟨oC1, pC1, rfl⟩ := slice_of_owns hso.disk.cells
          obtain ⟨oP1, pP1, rfl⟩ := slice_of_owns hso.disk.pend
          obtain ⟨oK1, pK1, rfl⟩ := hso.kept.len
          obtain ⟨oB1, pB1, rfl⟩ := slice_of_owns hso.bans
          obtain ⟨R1, hR1⟩ : ∃ R, R = shAll (.slice oC1 sa.cs.length pC1) (.slice oP1 sa.ws.length pP1) (.slice oK1 kv1.length pK1) (.slice oB1 sa.bl.length pB1) kv1 sa.cs sa.ws sa.bl := ⟨_, rfl⟩
          obtain ⟨b1, hbq1⟩ : ∃ b, b = (w5).heap.size := ⟨_, rfl⟩
          obtain ⟨t1, htq1⟩ : ∃ t, t = (w6).heap.size := ⟨_, rfl⟩
          have hbk1 := hb5.size
          have hb6 := hbt hb5 bw
          have HM6 : Hid ((w5).heap.size ≤ (w6).heap.size) := bw.size
          have HBv1_6 := hblk HBv1_5 bw
          have HBv2_6 := hblk HBv2_5 bw
          clear hb5 HBv1_5 HBv2_5
          have ES1_6 : Hid (RowsO (w6) b1 (R1)) := by show RowsO _ _ _; rw [hbq1, hR1]; exact hso.1
          have HKM1 : Hid (kv1.map (·.1) = sa.ks) := hso.2
          have HU1 : Hid (∀ r ∈ R1, ∀ g, r.v.ownBlock = some g → g < t1) := fun r hr g hg => by rw [htq1]; rw [hR1] at hr; exact hso.1.lt hr hg
          have HRQ1 : Hid (R1 = shAll (.slice oC1 sa.cs.length pC1) (.slice oP1 sa.ws.length pP1) (.slice oK1 kv1.length pK1) (.slice oB1 sa.bl.length pB1) kv1 sa.cs sa.ws sa.bl) := hR1
          have HTY1 : Hid (NoT R1) := fun T h1 h2 h3 h4 h5 r hr => by rw [hR1] at hr; exact shAll_T T h1 h2 h3 h4 h5 r hr
          clear hR1
          have HBW1 : Hid (b1 ≥ w.heap.size) := by show _ ≤ _; rw [hbq1]; exact hbk1
          have HBK1 : Hid (b1 = w5.heap.size) := hbq1
          have HTK1 : Hid (t1 = w6.heap.size) := htq1
          clear hso hbq1 htq1 hbk1
          have HX_6 : Hid (Below w4.heap.size w4 w6) := HX_5.out.trans (bw.mono HX_5.out.size)
          refine hK.out _ _ (HSS.out _ HX_6.out) (fun _ => ?_)
          clear hK K bw HX_5
          refine wpAnyH_ready (rs := [3, 8]) (by kernel_rfl) (by simp) ?_
          refine AllReadyH.cons rfl (fun K hK => ?_) (AllReadyH.cons rfl (fun K hK => ?_) AllReadyH.nil)
          · go_simp
            refine (toReq_any mt p aQ n5 cQ bd gs w.heap.size _ (HA5.out _ hb6) hb6.size hm5).mono ?_
            rintro e w7 ⟨vv, rfl, ownQ2, bw⟩
            obtain ⟨oQ2, pQ2, rfl⟩ := slice_of_owns ownQ2
            have hb7 := hbt hb6 bw
            have HM7 : Hid ((w6).heap.size ≤ (w7).heap.size) := bw.size
            have HBv1_7 := hblk HBv1_6 bw
            have HBv2_7 := hblk HBv2_6 bw
            have ES1_7 : Hid (RowsO (w7) b1 (R1)) := ES1_6.out.below bw
            have HOQ2_7 : Hid ((w7).ownsRow w.heap.size 132 2 (.slice oQ2 n5 pQ2) n5 (flatF gs)) := owns_wide ownQ2 hb6.size
            have LOQ2 : Hid (∀ g, (Value.ownBlock (.slice oQ2 n5 pQ2)) = some g → (w6).heap.size ≤ g) := fun g hg => owns_ge ownQ2 hg
            have HIQ2 : Hid (∀ g, (Value.ownBlock (.slice oQ2 n5 pQ2)) = some g → g < (w7).heap.size) := fun g hg => owns_lt ownQ2 hg
            clear ownQ2
            clear hb6 HBv1_6 HBv2_6 ES1_6
            have HX_7 : Hid (Below w4.heap.size w4 w7) := HX_6.out.trans (bw.mono HX_6.out.size)
            refine hK.out _ _ (HSS.out _ HX_7.out) (fun _ => ?_)
            clear hK K bw HX_6
            refine wpAnyH_ready (rs := [4, 8]) (by kernel_rfl) (by simp) ?_
            refine AllReadyH.cons rfl (fun K hK => ?_) (AllReadyH.cons rfl (fun K hK => ?_) AllReadyH.nil)
            · go_simp
              refine (HSP.out _ hb7 _ _ _ _ _ _ (shelf_of HRQ1.out ES1_7.out HKM1.out) _ _ HOQ2_7.out).mono ?_
              rintro e w8 ⟨vv1, vv2, vv3, rfl, ⟨ownX3, ownY3, ownG3, ne3⟩, bw⟩
              obtain ⟨oX3, pX3, rfl⟩ := slice_of_owns ownX3
              obtain ⟨oY3, pY3, rfl⟩ := slice_of_owns ownY3
              obtain ⟨oG3, pG3, rfl⟩ := slice_of_owns ownG3
              have AP3 : Hid (∀ j, (Value.slice oX3 ko.xs.length pX3).ownBlock = some j → (Value.slice oY3 ko.ys.length pY3).ownBlock ≠ some j) := ne3
              clear ne3
              have hb8 := hbt hb7 bw
              have HM8 : Hid ((w7).heap.size ≤ (w8).heap.size) := bw.size
              have HOQ2_8 := hown HOQ2_7 bw
              have HBv1_8 := hblk HBv1_7 bw
              have HBv2_8 := hblk HBv2_7 bw
              have ES1_8 : Hid (RowsO (w8) b1 (R1)) := ES1_7.out.below bw
              have HOX3_8 : Hid ((w8).ownsRow w.heap.size 9 1 (.slice oX3 ko.xs.length pX3) ko.xs.length (ko.xs.map Value.string)) := owns_wide ownX3 hb7.size
              have LOX3 : Hid (∀ g, (Value.ownBlock (.slice oX3 ko.xs.length pX3)) = some g → (w7).heap.size ≤ g) := fun g hg => owns_ge ownX3 hg
              have HIX3 : Hid (∀ g, (Value.ownBlock (.slice oX3 ko.xs.length pX3)) = some g → g < (w8).heap.size) := fun g hg => owns_lt ownX3 hg
              clear ownX3
              have HOY3_8 : Hid ((w8).ownsRow w.heap.size 9 1 (.slice oY3 ko.ys.length pY3) ko.ys.length (ko.ys.map Value.string)) := owns_wide ownY3 hb7.size
              have LOY3 : Hid (∀ g, (Value.ownBlock (.slice oY3 ko.ys.length pY3)) = some g → (w7).heap.size ≤ g) := fun g hg => owns_ge ownY3 hg
              have HIY3 : Hid (∀ g, (Value.ownBlock (.slice oY3 ko.ys.length pY3)) = some g → g < (w8).heap.size) := fun g hg => owns_lt ownY3 hg
              clear ownY3
              have HOG3_8 : Hid ((w8).ownsRow w.heap.size 132 2 (.slice oG3 ko.fs.length pG3) ko.fs.length (flatF ko.fs)) := owns_wide ownG3 hb7.size
              have LOG3 : Hid (∀ g, (Value.ownBlock (.slice oG3 ko.fs.length pG3)) = some g → (w7).heap.size ≤ g) := fun g hg => owns_ge ownG3 hg
              have HIG3 : Hid (∀ g, (Value.ownBlock (.slice oG3 ko.fs.length pG3)) = some g → g < (w8).heap.size) := fun g hg => owns_lt ownG3 hg
              clear ownG3
              clear hb7 HOQ2_7 HBv1_7 HBv2_7 ES1_7
              have HX_8 : Hid (Below w4.heap.size w4 w8) := HX_7.out.trans (bw.mono HX_7.out.size)
              have HRXX3_8 : Hid ((w8).ownsRow w4.heap.size 9 1 (.slice oX3 ko.xs.length pX3) ko.xs.length (ko.xs.map Value.string)) := owns_lift HOX3_8.out (fun g hg => Nat.le_trans HX_7.out.size (LOX3.out g hg))
              have HRXY3_8 : Hid ((w8).ownsRow w4.heap.size 9 1 (.slice oY3 ko.ys.length pY3) ko.ys.length (ko.ys.map Value.string)) := owns_lift HOY3_8.out (fun g hg => Nat.le_trans HX_7.out.size (LOY3.out g hg))
              have HRXG3_8 : Hid ((w8).ownsRow w4.heap.size 132 2 (.slice oG3 ko.fs.length pG3) ko.fs.length (flatF ko.fs)) := owns_lift HOG3_8.out (fun g hg => Nat.le_trans HX_7.out.size (LOG3.out g hg))
              refine hK.out _ _ (HSS.out _ HX_8.out) (fun _ => ?_)
              clear hK K bw HX_7
              refine tkP 5 (.tuple #[.agg #[.string ko.p, .slice oX3 ko.xs.length pX3, .slice oY3 ko.ys.length pY3, .int .i64 ko.st, .slice oG3 ko.fs.length pG3, .string ko.b, .int .i64 ko.t], .bool fb]) 27 rfl rfl (HSS.out _ HX_8.out) ?_
              go_frame
              refine tkP 6 (.agg #[.string ko.p, .slice oX3 ko.xs.length pX3, .slice oY3 ko.ys.length pY3, .int .i64 ko.st, .slice oG3 ko.fs.length pG3, .string ko.b, .int .i64 ko.t]) 33 rfl rfl (HSS.out _ HX_8.out) ?_
              go_frame
              refine tkP 7 (.bool fb) 34 rfl rfl (HSS.out _ HX_8.out) ?_
              go_frame
              refine wpAnyH_ready (rs := [8]) (by kernel_rfl) (by simp) ?_
              refine AllReadyH.cons rfl (fun K hK => ?_) AllReadyH.nil
              go_simp
              have HXA : Hid (Below w4.heap.size w4 (w8.alloc (.cells #[.string ⟨#[]⟩, .slice none 0 0, .slice none 0 0, .int .i64 0, .slice none 0 0, .string ⟨#[]⟩, .int .i64 0] 50))) := HX_8.out.alloc HX_8.out.size _
              refine hK.out _ _ (HSS.out _ HXA.out) (fun _ => ?_)
              clear hK K HXA
              obtain ⟨pa, ho⟩ : ∃ o, o = w8.heap.size := ⟨_, rfl⟩
              obtain ⟨w9, hXj⟩ : ∃ X, X = w8.alloc (.cells #[.string ⟨#[]⟩, .slice none 0 0, .slice none 0 0, .int .i64 0, .slice none 0 0, .string ⟨#[]⟩, .int .i64 0] 50) := ⟨_, rfl⟩
              rw [← ho, ← hXj]
              have HGA : Hid (w4.heap.size ≤ pa) := by show _ ≤ _; rw [ho]; exact HX_8.out.size
              have bw : Below w8.heap.size w8 w9 := by rw [hXj]; exact (Below.refl _ _).alloc (Nat.le_refl _) _
              have hb9 := hbt hb8 bw
              have HM9 : Hid ((w8).heap.size ≤ (w9).heap.size) := bw.size
              have HOQ2_9 := hown HOQ2_8 bw
              have HOX3_9 := hown HOX3_8 bw
              have HOY3_9 := hown HOY3_8 bw
              have HOG3_9 := hown HOG3_8 bw
              have HBv1_9 := hblk HBv1_8 bw
              have HBv2_9 := hblk HBv2_8 bw
              have ES1_9 : Hid (RowsO (w9) b1 (R1)) := ES1_8.out.below bw
              have HX_9 : Hid (Below w4.heap.size w4 w9) := HX_8.out.trans (bw.mono HX_8.out.size)
              have HRXX3_9 : Hid ((w9).ownsRow w4.heap.size 9 1 (.slice oX3 ko.xs.length pX3) ko.xs.length (ko.xs.map Value.string)) := owns_below HRXX3_8.out bw (fun g hg => owns_lt HRXX3_8.out hg)
              have HRXY3_9 : Hid ((w9).ownsRow w4.heap.size 9 1 (.slice oY3 ko.ys.length pY3) ko.ys.length (ko.ys.map Value.string)) := owns_below HRXY3_8.out bw (fun g hg => owns_lt HRXY3_8.out hg)
              have HRXG3_9 : Hid ((w9).ownsRow w4.heap.size 132 2 (.slice oG3 ko.fs.length pG3) ko.fs.length (flatF ko.fs)) := owns_below HRXG3_8.out bw (fun g hg => owns_lt HRXG3_8.out hg)
              have HPA_9 : Hid (w9.heap[pa]? = some (.cells #[.string ⟨#[]⟩, .slice none 0 0, .slice none 0 0, .int .i64 0, .slice none 0 0, .string ⟨#[]⟩, .int .i64 0] 50)) := by show _ = _; rw [hXj, ho]; exact heap_alloc_new _ _
              clear hb8 HOQ2_8 HOX3_8 HOY3_8 HOG3_8 HBv1_8 HBv2_8 ES1_8 bw ho hXj HX_8
              refine wpAnyH_ready (rs := [9]) (by kernel_rfl) (by simp) ?_
              refine AllReadyH.cons rfl (fun K hK => ?_) AllReadyH.nil
              have ce0 : w9.cell? ⟨pa, 0, none⟩ = some (.string ⟨#[]⟩) := (cell_of HPA_9.out 0).trans rfl
              have fe0 : w9.frozen? ⟨pa, 0, none⟩ = false := frozen_of HPA_9.out 0
              have ce1 : w9.cell? ⟨pa, 1, none⟩ = some (.slice none 0 0) := (cell_of HPA_9.out 1).trans rfl
              have fe1 : w9.frozen? ⟨pa, 1, none⟩ = false := frozen_of HPA_9.out 1
              have ce2 : w9.cell? ⟨pa, 2, none⟩ = some (.slice none 0 0) := (cell_of HPA_9.out 2).trans rfl
              have fe2 : w9.frozen? ⟨pa, 2, none⟩ = false := frozen_of HPA_9.out 2
              have ce3 : w9.cell? ⟨pa, 3, none⟩ = some (.int .i64 0) := (cell_of HPA_9.out 3).trans rfl
              have fe3 : w9.frozen? ⟨pa, 3, none⟩ = false := frozen_of HPA_9.out 3
              have ce4 : w9.cell? ⟨pa, 4, none⟩ = some (.slice none 0 0) := (cell_of HPA_9.out 4).trans rfl
              have fe4 : w9.frozen? ⟨pa, 4, none⟩ = false := frozen_of HPA_9.out 4
              have ce5 : w9.cell? ⟨pa, 5, none⟩ = some (.string ⟨#[]⟩) := (cell_of HPA_9.out 5).trans rfl
              have fe5 : w9.frozen? ⟨pa, 5, none⟩ = false := frozen_of HPA_9.out 5
              have ce6 : w9.cell? ⟨pa, 6, none⟩ = some (.int .i64 0) := (cell_of HPA_9.out 6).trans rfl
              have fe6 : w9.frozen? ⟨pa, 6, none⟩ = false := frozen_of HPA_9.out 6
              obtain ⟨w10, hY⟩ : ∃ Y, Y = (((((((w9.setCell ⟨pa, 0, none⟩ (.string ko.p)).setCell ⟨pa, 1, none⟩ (.slice oX3 ko.xs.length pX3)).setCell ⟨pa, 2, none⟩ (.slice oY3 ko.ys.length pY3)).setCell ⟨pa, 3, none⟩ (.int .i64 ko.st)).setCell ⟨pa, 4, none⟩ (.slice oG3 ko.fs.length pG3)).setCell ⟨pa, 5, none⟩ (.string ko.b)).setCell ⟨pa, 6, none⟩ (.int .i64 ko.t)) := ⟨_, rfl⟩
              have HY : Hid ((((((((w9.setCell ⟨pa, 0, none⟩ (.string ko.p)).setCell ⟨pa, 1, none⟩ (.slice oX3 ko.xs.length pX3)).setCell ⟨pa, 2, none⟩ (.slice oY3 ko.ys.length pY3)).setCell ⟨pa, 3, none⟩ (.int .i64 ko.st)).setCell ⟨pa, 4, none⟩ (.slice oG3 ko.fs.length pG3)).setCell ⟨pa, 5, none⟩ (.string ko.b)).setCell ⟨pa, 6, none⟩ (.int .i64 ko.t)) = w10) := hY.symm
              have HX_10 : Hid (Below w4.heap.size w4 w10) := by show Below _ _ _; rw [hY]; exact (((((((HX_9.out.setCell (p := ⟨pa, 0, none⟩) HGA.out _).setCell (p := ⟨pa, 1, none⟩) HGA.out _).setCell (p := ⟨pa, 2, none⟩) HGA.out _).setCell (p := ⟨pa, 3, none⟩) HGA.out _).setCell (p := ⟨pa, 4, none⟩) HGA.out _).setCell (p := ⟨pa, 5, none⟩) HGA.out _).setCell (p := ⟨pa, 6, none⟩) HGA.out _)
              have HPA_10 : Hid (w10.heap[pa]? = some (.cells #[.string ko.p, .slice oX3 ko.xs.length pX3, .slice oY3 ko.ys.length pY3, .int .i64 ko.st, .slice oG3 ko.fs.length pG3, .string ko.b, .int .i64 ko.t] 50)) := by show _ = _; rw [hY]; have h := (heap_set _ pa 6 _ _ _ (.int .i64 ko.t) (heap_set _ pa 5 _ _ _ (.string ko.b) (heap_set _ pa 4 _ _ _ (.slice oG3 ko.fs.length pG3) (heap_set _ pa 3 _ _ _ (.int .i64 ko.st) (heap_set _ pa 2 _ _ _ (.slice oY3 ko.ys.length pY3) (heap_set _ pa 1 _ _ _ (.slice oX3 ko.xs.length pX3) (heap_set _ pa 0 _ _ _ (.string ko.p) HPA_9.out))))))); simpa using h
              have HRXX3_10 : Hid ((w10).ownsRow w4.heap.size 9 1 (.slice oX3 ko.xs.length pX3) ko.xs.length (ko.xs.map Value.string)) := by show World.ownsRow _ _ _ _ _ _ _; rw [hY]; exact owns_same HRXX3_9.out (fun g hg => by have hne := own_ne HRXX3_9.out HPA_9.out (by decide) g hg; rw [heap_setCell_other _ _ g _ hne, heap_setCell_other _ _ g _ hne, heap_setCell_other _ _ g _ hne, heap_setCell_other _ _ g _ hne, heap_setCell_other _ _ g _ hne, heap_setCell_other _ _ g _ hne, heap_setCell_other _ _ g _ hne])
              have HRXY3_10 : Hid ((w10).ownsRow w4.heap.size 9 1 (.slice oY3 ko.ys.length pY3) ko.ys.length (ko.ys.map Value.string)) := by show World.ownsRow _ _ _ _ _ _ _; rw [hY]; exact owns_same HRXY3_9.out (fun g hg => by have hne := own_ne HRXY3_9.out HPA_9.out (by decide) g hg; rw [heap_setCell_other _ _ g _ hne, heap_setCell_other _ _ g _ hne, heap_setCell_other _ _ g _ hne, heap_setCell_other _ _ g _ hne, heap_setCell_other _ _ g _ hne, heap_setCell_other _ _ g _ hne, heap_setCell_other _ _ g _ hne])
              have HRXG3_10 : Hid ((w10).ownsRow w4.heap.size 132 2 (.slice oG3 ko.fs.length pG3) ko.fs.length (flatF ko.fs)) := by show World.ownsRow _ _ _ _ _ _ _; rw [hY]; exact owns_same HRXG3_9.out (fun g hg => by have hne := own_ne HRXG3_9.out HPA_9.out (by decide) g hg; rw [heap_setCell_other _ _ g _ hne, heap_setCell_other _ _ g _ hne, heap_setCell_other _ _ g _ hne, heap_setCell_other _ _ g _ hne, heap_setCell_other _ _ g _ hne, heap_setCell_other _ _ g _ hne, heap_setCell_other _ _ g _ hne])
              have APXX3Y3 : Hid (∀ g, (Value.ownBlock (.slice oX3 ko.xs.length pX3)) = some g → (Value.ownBlock (.slice oY3 ko.ys.length pY3)) ≠ some g) := AP3.out
              clear hY hb9 HOQ2_9 HOX3_9 HOY3_9 HOG3_9 HBv1_9 HBv2_9 ES1_9
              go_simp
              rw [HY.out]
              refine hK.out _ _ (HSS.out _ HX_10.out) (fun _ => ?_)
              clear hK K HY ce0 fe0 ce1 fe1 ce2 fe2 ce3 fe3 ce4 fe4 ce5 fe5 ce6 fe6
              refine tkP 10 (.bool fb) 7 rfl rfl (HSS.out _ HX_10.out) ?_
              go_frame
              refine wpAnyH_done (by kernel_rfl) ?_ _
              go_wp2_with fail
              go_meet
              exact ⟨pa, oX3, pX3, oY3, pY3, oG3, pG3, rfl, rfl, ⟨HX_10.out, HPA_10.out, HGA.out, HRXX3_10.out, HRXY3_10.out, HRXG3_10.out, APXX3Y3.out⟩⟩
            · go_simp
              have HXA : Hid (Below w4.heap.size w4 (w7.alloc (.cells #[.string ⟨#[]⟩, .slice none 0 0, .slice none 0 0, .int .i64 0, .slice none 0 0, .string ⟨#[]⟩, .int .i64 0] 50))) := HX_7.out.alloc HX_7.out.size _
              refine hK.out _ _ (HSS.out _ HXA.out) (fun _ => ?_)
              clear hK K HXA
              obtain ⟨pa, ho⟩ : ∃ o, o = w7.heap.size := ⟨_, rfl⟩
              obtain ⟨w8, hXj⟩ : ∃ X, X = w7.alloc (.cells #[.string ⟨#[]⟩, .slice none 0 0, .slice none 0 0, .int .i64 0, .slice none 0 0, .string ⟨#[]⟩, .int .i64 0] 50) := ⟨_, rfl⟩
              rw [← ho, ← hXj]
              have HGA : Hid (w4.heap.size ≤ pa) := by show _ ≤ _; rw [ho]; exact HX_7.out.size
              have bw : Below w7.heap.size w7 w8 := by rw [hXj]; exact (Below.refl _ _).alloc (Nat.le_refl _) _
              have hb8 := hbt hb7 bw
              have HM8 : Hid ((w7).heap.size ≤ (w8).heap.size) := bw.size
              have HOQ2_8 := hown HOQ2_7 bw
              have HBv1_8 := hblk HBv1_7 bw
              have HBv2_8 := hblk HBv2_7 bw
              have ES1_8 : Hid (RowsO (w8) b1 (R1)) := ES1_7.out.below bw
              have HX_8 : Hid (Below w4.heap.size w4 w8) := HX_7.out.trans (bw.mono HX_7.out.size)
              have HPA_8 : Hid (w8.heap[pa]? = some (.cells #[.string ⟨#[]⟩, .slice none 0 0, .slice none 0 0, .int .i64 0, .slice none 0 0, .string ⟨#[]⟩, .int .i64 0] 50)) := by show _ = _; rw [hXj, ho]; exact heap_alloc_new _ _
              clear hb7 HOQ2_7 HBv1_7 HBv2_7 ES1_7 bw ho hXj HX_7
              refine wpAnyH_ready (rs := [4]) (by kernel_rfl) (by simp) ?_
              refine AllReadyH.cons rfl (fun K hK => ?_) AllReadyH.nil
              go_simp
              refine (HSP.out _ hb8 _ _ _ _ _ _ (shelf_of HRQ1.out ES1_8.out HKM1.out) _ _ HOQ2_8.out).mono ?_
              rintro e w9 ⟨vv1, vv2, vv3, rfl, ⟨ownX3, ownY3, ownG3, ne3⟩, bw⟩
              obtain ⟨oX3, pX3, rfl⟩ := slice_of_owns ownX3
              obtain ⟨oY3, pY3, rfl⟩ := slice_of_owns ownY3
              obtain ⟨oG3, pG3, rfl⟩ := slice_of_owns ownG3
              have AP3 : Hid (∀ j, (Value.slice oX3 ko.xs.length pX3).ownBlock = some j → (Value.slice oY3 ko.ys.length pY3).ownBlock ≠ some j) := ne3
              clear ne3
              have hb9 := hbt hb8 bw
              have HM9 : Hid ((w8).heap.size ≤ (w9).heap.size) := bw.size
              have HOQ2_9 := hown HOQ2_8 bw
              have HBv1_9 := hblk HBv1_8 bw
              have HBv2_9 := hblk HBv2_8 bw
              have ES1_9 : Hid (RowsO (w9) b1 (R1)) := ES1_8.out.below bw
              have HOX3_9 : Hid ((w9).ownsRow w.heap.size 9 1 (.slice oX3 ko.xs.length pX3) ko.xs.length (ko.xs.map Value.string)) := owns_wide ownX3 hb8.size
              have LOX3 : Hid (∀ g, (Value.ownBlock (.slice oX3 ko.xs.length pX3)) = some g → (w8).heap.size ≤ g) := fun g hg => owns_ge ownX3 hg
              have HIX3 : Hid (∀ g, (Value.ownBlock (.slice oX3 ko.xs.length pX3)) = some g → g < (w9).heap.size) := fun g hg => owns_lt ownX3 hg
              clear ownX3
              have HOY3_9 : Hid ((w9).ownsRow w.heap.size 9 1 (.slice oY3 ko.ys.length pY3) ko.ys.length (ko.ys.map Value.string)) := owns_wide ownY3 hb8.size
              have LOY3 : Hid (∀ g, (Value.ownBlock (.slice oY3 ko.ys.length pY3)) = some g → (w8).heap.size ≤ g) := fun g hg => owns_ge ownY3 hg
              have HIY3 : Hid (∀ g, (Value.ownBlock (.slice oY3 ko.ys.length pY3)) = some g → g < (w9).heap.size) := fun g hg => owns_lt ownY3 hg
              clear ownY3
              have HOG3_9 : Hid ((w9).ownsRow w.heap.size 132 2 (.slice oG3 ko.fs.length pG3) ko.fs.length (flatF ko.fs)) := owns_wide ownG3 hb8.size
              have LOG3 : Hid (∀ g, (Value.ownBlock (.slice oG3 ko.fs.length pG3)) = some g → (w8).heap.size ≤ g) := fun g hg => owns_ge ownG3 hg
              have HIG3 : Hid (∀ g, (Value.ownBlock (.slice oG3 ko.fs.length pG3)) = some g → g < (w9).heap.size) := fun g hg => owns_lt ownG3 hg
              clear ownG3
              clear hb8 HOQ2_8 HBv1_8 HBv2_8 ES1_8
              have HX_9 : Hid (Below w4.heap.size w4 w9) := HX_8.out.trans (bw.mono HX_8.out.size)
              have HPA_9 : Hid (w9.heap[pa]? = some (.cells #[.string ⟨#[]⟩, .slice none 0 0, .slice none 0 0, .int .i64 0, .slice none 0 0, .string ⟨#[]⟩, .int .i64 0] 50)) := blk_below HPA_8.out bw
              have HRXX3_9 : Hid ((w9).ownsRow w4.heap.size 9 1 (.slice oX3 ko.xs.length pX3) ko.xs.length (ko.xs.map Value.string)) := owns_lift HOX3_9.out (fun g hg => Nat.le_trans HX_8.out.size (LOX3.out g hg))
              have HRXY3_9 : Hid ((w9).ownsRow w4.heap.size 9 1 (.slice oY3 ko.ys.length pY3) ko.ys.length (ko.ys.map Value.string)) := owns_lift HOY3_9.out (fun g hg => Nat.le_trans HX_8.out.size (LOY3.out g hg))
              have HRXG3_9 : Hid ((w9).ownsRow w4.heap.size 132 2 (.slice oG3 ko.fs.length pG3) ko.fs.length (flatF ko.fs)) := owns_lift HOG3_9.out (fun g hg => Nat.le_trans HX_8.out.size (LOG3.out g hg))
              refine hK.out _ _ (HSS.out _ HX_9.out) (fun _ => ?_)
              clear hK K bw HX_8
              refine tkP 5 (.tuple #[.agg #[.string ko.p, .slice oX3 ko.xs.length pX3, .slice oY3 ko.ys.length pY3, .int .i64 ko.st, .slice oG3 ko.fs.length pG3, .string ko.b, .int .i64 ko.t], .bool fb]) 27 rfl rfl (HSS.out _ HX_9.out) ?_
              go_frame
              refine tkP 6 (.agg #[.string ko.p, .slice oX3 ko.xs.length pX3, .slice oY3 ko.ys.length pY3, .int .i64 ko.st, .slice oG3 ko.fs.length pG3, .string ko.b, .int .i64 ko.t]) 33 rfl rfl (HSS.out _ HX_9.out) ?_
              go_frame
              refine tkP 7 (.bool fb) 34 rfl rfl (HSS.out _ HX_9.out) ?_
              go_frame
              refine wpAnyH_ready (rs := [9]) (by kernel_rfl) (by simp) ?_
              refine AllReadyH.cons rfl (fun K hK => ?_) AllReadyH.nil
              have ce0 : w9.cell? ⟨pa, 0, none⟩ = some (.string ⟨#[]⟩) := (cell_of HPA_9.out 0).trans rfl
              have fe0 : w9.frozen? ⟨pa, 0, none⟩ = false := frozen_of HPA_9.out 0
              have ce1 : w9.cell? ⟨pa, 1, none⟩ = some (.slice none 0 0) := (cell_of HPA_9.out 1).trans rfl
              have fe1 : w9.frozen? ⟨pa, 1, none⟩ = false := frozen_of HPA_9.out 1
              have ce2 : w9.cell? ⟨pa, 2, none⟩ = some (.slice none 0 0) := (cell_of HPA_9.out 2).trans rfl
              have fe2 : w9.frozen? ⟨pa, 2, none⟩ = false := frozen_of HPA_9.out 2
              have ce3 : w9.cell? ⟨pa, 3, none⟩ = some (.int .i64 0) := (cell_of HPA_9.out 3).trans rfl
              have fe3 : w9.frozen? ⟨pa, 3, none⟩ = false := frozen_of HPA_9.out 3
              have ce4 : w9.cell? ⟨pa, 4, none⟩ = some (.slice none 0 0) := (cell_of HPA_9.out 4).trans rfl
              have fe4 : w9.frozen? ⟨pa, 4, none⟩ = false := frozen_of HPA_9.out 4
              have ce5 : w9.cell? ⟨pa, 5, none⟩ = some (.string ⟨#[]⟩) := (cell_of HPA_9.out 5).trans rfl
              have fe5 : w9.frozen? ⟨pa, 5, none⟩ = false := frozen_of HPA_9.out 5
              have ce6 : w9.cell? ⟨pa, 6, none⟩ = some (.int .i64 0) := (cell_of HPA_9.out 6).trans rfl
              have fe6 : w9.frozen? ⟨pa, 6, none⟩ = false := frozen_of HPA_9.out 6
              obtain ⟨w10, hY⟩ : ∃ Y, Y = (((((((w9.setCell ⟨pa, 0, none⟩ (.string ko.p)).setCell ⟨pa, 1, none⟩ (.slice oX3 ko.xs.length pX3)).setCell ⟨pa, 2, none⟩ (.slice oY3 ko.ys.length pY3)).setCell ⟨pa, 3, none⟩ (.int .i64 ko.st)).setCell ⟨pa, 4, none⟩ (.slice oG3 ko.fs.length pG3)).setCell ⟨pa, 5, none⟩ (.string ko.b)).setCell ⟨pa, 6, none⟩ (.int .i64 ko.t)) := ⟨_, rfl⟩
              have HY : Hid ((((((((w9.setCell ⟨pa, 0, none⟩ (.string ko.p)).setCell ⟨pa, 1, none⟩ (.slice oX3 ko.xs.length pX3)).setCell ⟨pa, 2, none⟩ (.slice oY3 ko.ys.length pY3)).setCell ⟨pa, 3, none⟩ (.int .i64 ko.st)).setCell ⟨pa, 4, none⟩ (.slice oG3 ko.fs.length pG3)).setCell ⟨pa, 5, none⟩ (.string ko.b)).setCell ⟨pa, 6, none⟩ (.int .i64 ko.t)) = w10) := hY.symm
              have HX_10 : Hid (Below w4.heap.size w4 w10) := by show Below _ _ _; rw [hY]; exact (((((((HX_9.out.setCell (p := ⟨pa, 0, none⟩) HGA.out _).setCell (p := ⟨pa, 1, none⟩) HGA.out _).setCell (p := ⟨pa, 2, none⟩) HGA.out _).setCell (p := ⟨pa, 3, none⟩) HGA.out _).setCell (p := ⟨pa, 4, none⟩) HGA.out _).setCell (p := ⟨pa, 5, none⟩) HGA.out _).setCell (p := ⟨pa, 6, none⟩) HGA.out _)
              have HPA_10 : Hid (w10.heap[pa]? = some (.cells #[.string ko.p, .slice oX3 ko.xs.length pX3, .slice oY3 ko.ys.length pY3, .int .i64 ko.st, .slice oG3 ko.fs.length pG3, .string ko.b, .int .i64 ko.t] 50)) := by show _ = _; rw [hY]; have h := (heap_set _ pa 6 _ _ _ (.int .i64 ko.t) (heap_set _ pa 5 _ _ _ (.string ko.b) (heap_set _ pa 4 _ _ _ (.slice oG3 ko.fs.length pG3) (heap_set _ pa 3 _ _ _ (.int .i64 ko.st) (heap_set _ pa 2 _ _ _ (.slice oY3 ko.ys.length pY3) (heap_set _ pa 1 _ _ _ (.slice oX3 ko.xs.length pX3) (heap_set _ pa 0 _ _ _ (.string ko.p) HPA_9.out))))))); simpa using h
              have HRXX3_10 : Hid ((w10).ownsRow w4.heap.size 9 1 (.slice oX3 ko.xs.length pX3) ko.xs.length (ko.xs.map Value.string)) := by show World.ownsRow _ _ _ _ _ _ _; rw [hY]; exact owns_same HRXX3_9.out (fun g hg => by have hne := own_ne HRXX3_9.out HPA_9.out (by decide) g hg; rw [heap_setCell_other _ _ g _ hne, heap_setCell_other _ _ g _ hne, heap_setCell_other _ _ g _ hne, heap_setCell_other _ _ g _ hne, heap_setCell_other _ _ g _ hne, heap_setCell_other _ _ g _ hne, heap_setCell_other _ _ g _ hne])
              have HRXY3_10 : Hid ((w10).ownsRow w4.heap.size 9 1 (.slice oY3 ko.ys.length pY3) ko.ys.length (ko.ys.map Value.string)) := by show World.ownsRow _ _ _ _ _ _ _; rw [hY]; exact owns_same HRXY3_9.out (fun g hg => by have hne := own_ne HRXY3_9.out HPA_9.out (by decide) g hg; rw [heap_setCell_other _ _ g _ hne, heap_setCell_other _ _ g _ hne, heap_setCell_other _ _ g _ hne, heap_setCell_other _ _ g _ hne, heap_setCell_other _ _ g _ hne, heap_setCell_other _ _ g _ hne, heap_setCell_other _ _ g _ hne])
              have HRXG3_10 : Hid ((w10).ownsRow w4.heap.size 132 2 (.slice oG3 ko.fs.length pG3) ko.fs.length (flatF ko.fs)) := by show World.ownsRow _ _ _ _ _ _ _; rw [hY]; exact owns_same HRXG3_9.out (fun g hg => by have hne := own_ne HRXG3_9.out HPA_9.out (by decide) g hg; rw [heap_setCell_other _ _ g _ hne, heap_setCell_other _ _ g _ hne, heap_setCell_other _ _ g _ hne, heap_setCell_other _ _ g _ hne, heap_setCell_other _ _ g _ hne, heap_setCell_other _ _ g _ hne, heap_setCell_other _ _ g _ hne])
              have APXX3Y3 : Hid (∀ g, (Value.ownBlock (.slice oX3 ko.xs.length pX3)) = some g → (Value.ownBlock (.slice oY3 ko.ys.length pY3)) ≠ some g) := AP3.out
              clear hY hb9 HOQ2_9 HOX3_9 HOY3_9 HOG3_9 HBv1_9 HBv2_9 ES1_9
              go_simp
              rw [HY.out]
              refine hK.out _ _ (HSS.out _ HX_10.out) (fun _ => ?_)
              clear hK K HY ce0 fe0 ce1 fe1 ce2 fe2 ce3 fe3 ce4 fe4 ce5 fe5 ce6 fe6
              refine tkP 10 (.bool fb) 7 rfl rfl (HSS.out _ HX_10.out) ?_
              go_frame
              refine wpAnyH_done (by kernel_rfl) ?_ _
              go_wp2_with fail
              go_meet
              exact ⟨pa, oX3, pX3, oY3, pY3, oG3, pG3, rfl, rfl, ⟨HX_10.out, HPA_10.out, HGA.out, HRXX3_10.out, HRXY3_10.out, HRXG3_10.out, APXX3Y3.out⟩⟩
          · go_simp
            have HXA : Hid (Below w4.heap.size w4 (w6.alloc (.cells #[.string ⟨#[]⟩, .slice none 0 0, .slice none 0 0, .int .i64 0, .slice none 0 0, .string ⟨#[]⟩, .int .i64 0] 50))) := HX_6.out.alloc HX_6.out.size _
            refine hK.out _ _ (HSS.out _ HXA.out) (fun _ => ?_)
            clear hK K HXA
            obtain ⟨pa, ho⟩ : ∃ o, o = w6.heap.size := ⟨_, rfl⟩
            obtain ⟨w7, hXj⟩ : ∃ X, X = w6.alloc (.cells #[.string ⟨#[]⟩, .slice none 0 0, .slice none 0 0, .int .i64 0, .slice none 0 0, .string ⟨#[]⟩, .int .i64 0] 50) := ⟨_, rfl⟩
            rw [← ho, ← hXj]
            have HGA : Hid (w4.heap.size ≤ pa) := by show _ ≤ _; rw [ho]; exact HX_6.out.size
            have bw : Below w6.heap.size w6 w7 := by rw [hXj]; exact (Below.refl _ _).alloc (Nat.le_refl _) _
            have hb7 := hbt hb6 bw
            have HM7 : Hid ((w6).heap.size ≤ (w7).heap.size) := bw.size
            have HBv1_7 := hblk HBv1_6 bw
            have HBv2_7 := hblk HBv2_6 bw
            have ES1_7 : Hid (RowsO (w7) b1 (R1)) := ES1_6.out.below bw
            have HX_7 : Hid (Below w4.heap.size w4 w7) := HX_6.out.trans (bw.mono HX_6.out.size)
            have HPA_7 : Hid (w7.heap[pa]? = some (.cells #[.string ⟨#[]⟩, .slice none 0 0, .slice none 0 0, .int .i64 0, .slice none 0 0, .string ⟨#[]⟩, .int .i64 0] 50)) := by show _ = _; rw [hXj, ho]; exact heap_alloc_new _ _
            clear hb6 HBv1_6 HBv2_6 ES1_6 bw ho hXj HX_6
            refine wpAnyH_ready (rs := [3]) (by kernel_rfl) (by simp) ?_
            refine AllReadyH.cons rfl (fun K hK => ?_) AllReadyH.nil
            go_simp
            refine (toReq_any mt p aQ n5 cQ bd gs w.heap.size _ (HA5.out _ hb7) hb7.size hm5).mono ?_
            rintro e w8 ⟨vv, rfl, ownQ2, bw⟩
            obtain ⟨oQ2, pQ2, rfl⟩ := slice_of_owns ownQ2
            have hb8 := hbt hb7 bw
            have HM8 : Hid ((w7).heap.size ≤ (w8).heap.size) := bw.size
            have HBv1_8 := hblk HBv1_7 bw
            have HBv2_8 := hblk HBv2_7 bw
            have ES1_8 : Hid (RowsO (w8) b1 (R1)) := ES1_7.out.below bw
            have HOQ2_8 : Hid ((w8).ownsRow w.heap.size 132 2 (.slice oQ2 n5 pQ2) n5 (flatF gs)) := owns_wide ownQ2 hb7.size
            have LOQ2 : Hid (∀ g, (Value.ownBlock (.slice oQ2 n5 pQ2)) = some g → (w7).heap.size ≤ g) := fun g hg => owns_ge ownQ2 hg
            have HIQ2 : Hid (∀ g, (Value.ownBlock (.slice oQ2 n5 pQ2)) = some g → g < (w8).heap.size) := fun g hg => owns_lt ownQ2 hg
            clear ownQ2
            clear hb7 HBv1_7 HBv2_7 ES1_7
            have HX_8 : Hid (Below w4.heap.size w4 w8) := HX_7.out.trans (bw.mono HX_7.out.size)
            have HPA_8 : Hid (w8.heap[pa]? = some (.cells #[.string ⟨#[]⟩, .slice none 0 0, .slice none 0 0, .int .i64 0, .slice none 0 0, .string ⟨#[]⟩, .int .i64 0] 50)) := blk_below HPA_7.out bw
            refine hK.out _ _ (HSS.out _ HX_8.out) (fun _ => ?_)
            clear hK K bw HX_7
            refine wpAnyH_ready (rs := [4]) (by kernel_rfl) (by simp) ?_
            refine AllReadyH.cons rfl (fun K hK => ?_) AllReadyH.nil
            go_simp
            refine (HSP.out _ hb8 _ _ _ _ _ _ (shelf_of HRQ1.out ES1_8.out HKM1.out) _ _ HOQ2_8.out).mono ?_
            rintro e w9 ⟨vv1, vv2, vv3, rfl, ⟨ownX3, ownY3, ownG3, ne3⟩, bw⟩
            obtain ⟨oX3, pX3, rfl⟩ := slice_of_owns ownX3
            obtain ⟨oY3, pY3, rfl⟩ := slice_of_owns ownY3
            obtain ⟨oG3, pG3, rfl⟩ := slice_of_owns ownG3
            have AP3 : Hid (∀ j, (Value.slice oX3 ko.xs.length pX3).ownBlock = some j → (Value.slice oY3 ko.ys.length pY3).ownBlock ≠ some j) := ne3
            clear ne3
            have hb9 := hbt hb8 bw
            have HM9 : Hid ((w8).heap.size ≤ (w9).heap.size) := bw.size
            have HOQ2_9 := hown HOQ2_8 bw
            have HBv1_9 := hblk HBv1_8 bw
            have HBv2_9 := hblk HBv2_8 bw
            have ES1_9 : Hid (RowsO (w9) b1 (R1)) := ES1_8.out.below bw
            have HOX3_9 : Hid ((w9).ownsRow w.heap.size 9 1 (.slice oX3 ko.xs.length pX3) ko.xs.length (ko.xs.map Value.string)) := owns_wide ownX3 hb8.size
            have LOX3 : Hid (∀ g, (Value.ownBlock (.slice oX3 ko.xs.length pX3)) = some g → (w8).heap.size ≤ g) := fun g hg => owns_ge ownX3 hg
            have HIX3 : Hid (∀ g, (Value.ownBlock (.slice oX3 ko.xs.length pX3)) = some g → g < (w9).heap.size) := fun g hg => owns_lt ownX3 hg
            clear ownX3
            have HOY3_9 : Hid ((w9).ownsRow w.heap.size 9 1 (.slice oY3 ko.ys.length pY3) ko.ys.length (ko.ys.map Value.string)) := owns_wide ownY3 hb8.size
            have LOY3 : Hid (∀ g, (Value.ownBlock (.slice oY3 ko.ys.length pY3)) = some g → (w8).heap.size ≤ g) := fun g hg => owns_ge ownY3 hg
            have HIY3 : Hid (∀ g, (Value.ownBlock (.slice oY3 ko.ys.length pY3)) = some g → g < (w9).heap.size) := fun g hg => owns_lt ownY3 hg
            clear ownY3
            have HOG3_9 : Hid ((w9).ownsRow w.heap.size 132 2 (.slice oG3 ko.fs.length pG3) ko.fs.length (flatF ko.fs)) := owns_wide ownG3 hb8.size
            have LOG3 : Hid (∀ g, (Value.ownBlock (.slice oG3 ko.fs.length pG3)) = some g → (w8).heap.size ≤ g) := fun g hg => owns_ge ownG3 hg
            have HIG3 : Hid (∀ g, (Value.ownBlock (.slice oG3 ko.fs.length pG3)) = some g → g < (w9).heap.size) := fun g hg => owns_lt ownG3 hg
            clear ownG3
            clear hb8 HOQ2_8 HBv1_8 HBv2_8 ES1_8
            have HX_9 : Hid (Below w4.heap.size w4 w9) := HX_8.out.trans (bw.mono HX_8.out.size)
            have HPA_9 : Hid (w9.heap[pa]? = some (.cells #[.string ⟨#[]⟩, .slice none 0 0, .slice none 0 0, .int .i64 0, .slice none 0 0, .string ⟨#[]⟩, .int .i64 0] 50)) := blk_below HPA_8.out bw
            have HRXX3_9 : Hid ((w9).ownsRow w4.heap.size 9 1 (.slice oX3 ko.xs.length pX3) ko.xs.length (ko.xs.map Value.string)) := owns_lift HOX3_9.out (fun g hg => Nat.le_trans HX_8.out.size (LOX3.out g hg))
            have HRXY3_9 : Hid ((w9).ownsRow w4.heap.size 9 1 (.slice oY3 ko.ys.length pY3) ko.ys.length (ko.ys.map Value.string)) := owns_lift HOY3_9.out (fun g hg => Nat.le_trans HX_8.out.size (LOY3.out g hg))
            have HRXG3_9 : Hid ((w9).ownsRow w4.heap.size 132 2 (.slice oG3 ko.fs.length pG3) ko.fs.length (flatF ko.fs)) := owns_lift HOG3_9.out (fun g hg => Nat.le_trans HX_8.out.size (LOG3.out g hg))
            refine hK.out _ _ (HSS.out _ HX_9.out) (fun _ => ?_)
            clear hK K bw HX_8
            refine tkP 5 (.tuple #[.agg #[.string ko.p, .slice oX3 ko.xs.length pX3, .slice oY3 ko.ys.length pY3, .int .i64 ko.st, .slice oG3 ko.fs.length pG3, .string ko.b, .int .i64 ko.t], .bool fb]) 27 rfl rfl (HSS.out _ HX_9.out) ?_
            go_frame
            refine tkP 6 (.agg #[.string ko.p, .slice oX3 ko.xs.length pX3, .slice oY3 ko.ys.length pY3, .int .i64 ko.st, .slice oG3 ko.fs.length pG3, .string ko.b, .int .i64 ko.t]) 33 rfl rfl (HSS.out _ HX_9.out) ?_
            go_frame
            refine tkP 7 (.bool fb) 34 rfl rfl (HSS.out _ HX_9.out) ?_
            go_frame
            refine wpAnyH_ready (rs := [9]) (by kernel_rfl) (by simp) ?_
            refine AllReadyH.cons rfl (fun K hK => ?_) AllReadyH.nil
            have ce0 : w9.cell? ⟨pa, 0, none⟩ = some (.string ⟨#[]⟩) := (cell_of HPA_9.out 0).trans rfl
            have fe0 : w9.frozen? ⟨pa, 0, none⟩ = false := frozen_of HPA_9.out 0
            have ce1 : w9.cell? ⟨pa, 1, none⟩ = some (.slice none 0 0) := (cell_of HPA_9.out 1).trans rfl
            have fe1 : w9.frozen? ⟨pa, 1, none⟩ = false := frozen_of HPA_9.out 1
            have ce2 : w9.cell? ⟨pa, 2, none⟩ = some (.slice none 0 0) := (cell_of HPA_9.out 2).trans rfl
            have fe2 : w9.frozen? ⟨pa, 2, none⟩ = false := frozen_of HPA_9.out 2
            have ce3 : w9.cell? ⟨pa, 3, none⟩ = some (.int .i64 0) := (cell_of HPA_9.out 3).trans rfl
            have fe3 : w9.frozen? ⟨pa, 3, none⟩ = false := frozen_of HPA_9.out 3
            have ce4 : w9.cell? ⟨pa, 4, none⟩ = some (.slice none 0 0) := (cell_of HPA_9.out 4).trans rfl
            have fe4 : w9.frozen? ⟨pa, 4, none⟩ = false := frozen_of HPA_9.out 4
            have ce5 : w9.cell? ⟨pa, 5, none⟩ = some (.string ⟨#[]⟩) := (cell_of HPA_9.out 5).trans rfl
            have fe5 : w9.frozen? ⟨pa, 5, none⟩ = false := frozen_of HPA_9.out 5
            have ce6 : w9.cell? ⟨pa, 6, none⟩ = some (.int .i64 0) := (cell_of HPA_9.out 6).trans rfl
            have fe6 : w9.frozen? ⟨pa, 6, none⟩ = false := frozen_of HPA_9.out 6
            obtain ⟨w10, hY⟩ : ∃ Y, Y = (((((((w9.setCell ⟨pa, 0, none⟩ (.string ko.p)).setCell ⟨pa, 1, none⟩ (.slice oX3 ko.xs.length pX3)).setCell ⟨pa, 2, none⟩ (.slice oY3 ko.ys.length pY3)).setCell ⟨pa, 3, none⟩ (.int .i64 ko.st)).setCell ⟨pa, 4, none⟩ (.slice oG3 ko.fs.length pG3)).setCell ⟨pa, 5, none⟩ (.string ko.b)).setCell ⟨pa, 6, none⟩ (.int .i64 ko.t)) := ⟨_, rfl⟩
            have HY : Hid ((((((((w9.setCell ⟨pa, 0, none⟩ (.string ko.p)).setCell ⟨pa, 1, none⟩ (.slice oX3 ko.xs.length pX3)).setCell ⟨pa, 2, none⟩ (.slice oY3 ko.ys.length pY3)).setCell ⟨pa, 3, none⟩ (.int .i64 ko.st)).setCell ⟨pa, 4, none⟩ (.slice oG3 ko.fs.length pG3)).setCell ⟨pa, 5, none⟩ (.string ko.b)).setCell ⟨pa, 6, none⟩ (.int .i64 ko.t)) = w10) := hY.symm
            have HX_10 : Hid (Below w4.heap.size w4 w10) := by show Below _ _ _; rw [hY]; exact (((((((HX_9.out.setCell (p := ⟨pa, 0, none⟩) HGA.out _).setCell (p := ⟨pa, 1, none⟩) HGA.out _).setCell (p := ⟨pa, 2, none⟩) HGA.out _).setCell (p := ⟨pa, 3, none⟩) HGA.out _).setCell (p := ⟨pa, 4, none⟩) HGA.out _).setCell (p := ⟨pa, 5, none⟩) HGA.out _).setCell (p := ⟨pa, 6, none⟩) HGA.out _)
            have HPA_10 : Hid (w10.heap[pa]? = some (.cells #[.string ko.p, .slice oX3 ko.xs.length pX3, .slice oY3 ko.ys.length pY3, .int .i64 ko.st, .slice oG3 ko.fs.length pG3, .string ko.b, .int .i64 ko.t] 50)) := by show _ = _; rw [hY]; have h := (heap_set _ pa 6 _ _ _ (.int .i64 ko.t) (heap_set _ pa 5 _ _ _ (.string ko.b) (heap_set _ pa 4 _ _ _ (.slice oG3 ko.fs.length pG3) (heap_set _ pa 3 _ _ _ (.int .i64 ko.st) (heap_set _ pa 2 _ _ _ (.slice oY3 ko.ys.length pY3) (heap_set _ pa 1 _ _ _ (.slice oX3 ko.xs.length pX3) (heap_set _ pa 0 _ _ _ (.string ko.p) HPA_9.out))))))); simpa using h
            have HRXX3_10 : Hid ((w10).ownsRow w4.heap.size 9 1 (.slice oX3 ko.xs.length pX3) ko.xs.length (ko.xs.map Value.string)) := by show World.ownsRow _ _ _ _ _ _ _; rw [hY]; exact owns_same HRXX3_9.out (fun g hg => by have hne := own_ne HRXX3_9.out HPA_9.out (by decide) g hg; rw [heap_setCell_other _ _ g _ hne, heap_setCell_other _ _ g _ hne, heap_setCell_other _ _ g _ hne, heap_setCell_other _ _ g _ hne, heap_setCell_other _ _ g _ hne, heap_setCell_other _ _ g _ hne, heap_setCell_other _ _ g _ hne])
            have HRXY3_10 : Hid ((w10).ownsRow w4.heap.size 9 1 (.slice oY3 ko.ys.length pY3) ko.ys.length (ko.ys.map Value.string)) := by show World.ownsRow _ _ _ _ _ _ _; rw [hY]; exact owns_same HRXY3_9.out (fun g hg => by have hne := own_ne HRXY3_9.out HPA_9.out (by decide) g hg; rw [heap_setCell_other _ _ g _ hne, heap_setCell_other _ _ g _ hne, heap_setCell_other _ _ g _ hne, heap_setCell_other _ _ g _ hne, heap_setCell_other _ _ g _ hne, heap_setCell_other _ _ g _ hne, heap_setCell_other _ _ g _ hne])
            have HRXG3_10 : Hid ((w10).ownsRow w4.heap.size 132 2 (.slice oG3 ko.fs.length pG3) ko.fs.length (flatF ko.fs)) := by show World.ownsRow _ _ _ _ _ _ _; rw [hY]; exact owns_same HRXG3_9.out (fun g hg => by have hne := own_ne HRXG3_9.out HPA_9.out (by decide) g hg; rw [heap_setCell_other _ _ g _ hne, heap_setCell_other _ _ g _ hne, heap_setCell_other _ _ g _ hne, heap_setCell_other _ _ g _ hne, heap_setCell_other _ _ g _ hne, heap_setCell_other _ _ g _ hne, heap_setCell_other _ _ g _ hne])
            have APXX3Y3 : Hid (∀ g, (Value.ownBlock (.slice oX3 ko.xs.length pX3)) = some g → (Value.ownBlock (.slice oY3 ko.ys.length pY3)) ≠ some g) := AP3.out
            clear hY hb9 HOQ2_9 HOX3_9 HOY3_9 HOG3_9 HBv1_9 HBv2_9 ES1_9
            go_simp
            rw [HY.out]
            refine hK.out _ _ (HSS.out _ HX_10.out) (fun _ => ?_)
            clear hK K HY ce0 fe0 ce1 fe1 ce2 fe2 ce3 fe3 ce4 fe4 ce5 fe5 ce6 fe6
            refine tkP 10 (.bool fb) 7 rfl rfl (HSS.out _ HX_10.out) ?_
            go_frame
            refine wpAnyH_done (by kernel_rfl) ?_ _
            go_wp2_with fail
            go_meet
            exact ⟨pa, oX3, pX3, oY3, pY3, oG3, pG3, rfl, rfl, ⟨HX_10.out, HPA_10.out, HGA.out, HRXX3_10.out, HRXY3_10.out, HRXG3_10.out, APXX3Y3.out⟩⟩
        · go_simp
          have HXA : Hid (Below w4.heap.size w4 (w5.alloc (.cells #[.string ⟨#[]⟩, .slice none 0 0, .slice none 0 0, .int .i64 0, .slice none 0 0, .string ⟨#[]⟩, .int .i64 0] 50))) := HX_5.out.alloc HX_5.out.size _
          refine hK.out _ _ (HSS.out _ HXA.out) (fun _ => ?_)
          clear hK K HXA
          obtain ⟨pa, ho⟩ : ∃ o, o = w5.heap.size := ⟨_, rfl⟩
          obtain ⟨w6, hXj⟩ : ∃ X, X = w5.alloc (.cells #[.string ⟨#[]⟩, .slice none 0 0, .slice none 0 0, .int .i64 0, .slice none 0 0, .string ⟨#[]⟩, .int .i64 0] 50) := ⟨_, rfl⟩
          rw [← ho, ← hXj]
          have HGA : Hid (w4.heap.size ≤ pa) := by show _ ≤ _; rw [ho]; exact HX_5.out.size
          have bw : Below w5.heap.size w5 w6 := by rw [hXj]; exact (Below.refl _ _).alloc (Nat.le_refl _) _
          have hb6 := hbt hb5 bw
          have HM6 : Hid ((w5).heap.size ≤ (w6).heap.size) := bw.size
          have HBv1_6 := hblk HBv1_5 bw
          have HBv2_6 := hblk HBv2_5 bw
          have HX_6 : Hid (Below w4.heap.size w4 w6) := HX_5.out.trans (bw.mono HX_5.out.size)
          have HPA_6 : Hid (w6.heap[pa]? = some (.cells #[.string ⟨#[]⟩, .slice none 0 0, .slice none 0 0, .int .i64 0, .slice none 0 0, .string ⟨#[]⟩, .int .i64 0] 50)) := by show _ = _; rw [hXj, ho]; exact heap_alloc_new _ _
          clear hb5 HBv1_5 HBv2_5 bw ho hXj HX_5
          refine wpAnyH_ready (rs := [1]) (by kernel_rfl) (by simp) ?_
          refine AllReadyH.cons rfl (fun K hK => ?_) AllReadyH.nil
          go_simp
          refine (HTO.out _ hb6).mono ?_
          rintro e w7 ⟨va, vb, vc, vd, kv1, rfl, hso, bw⟩
          obtain ⟨oC1, pC1, rfl⟩ := slice_of_owns hso.disk.cells
          obtain ⟨oP1, pP1, rfl⟩ := slice_of_owns hso.disk.pend
          obtain ⟨oK1, pK1, rfl⟩ := hso.kept.len
          obtain ⟨oB1, pB1, rfl⟩ := slice_of_owns hso.bans
          obtain ⟨R1, hR1⟩ : ∃ R, R = shAll (.slice oC1 sa.cs.length pC1) (.slice oP1 sa.ws.length pP1) (.slice oK1 kv1.length pK1) (.slice oB1 sa.bl.length pB1) kv1 sa.cs sa.ws sa.bl := ⟨_, rfl⟩
          obtain ⟨b1, hbq1⟩ : ∃ b, b = (w6).heap.size := ⟨_, rfl⟩
          obtain ⟨t1, htq1⟩ : ∃ t, t = (w7).heap.size := ⟨_, rfl⟩
          have hbk1 := hb6.size
          have hb7 := hbt hb6 bw
          have HM7 : Hid ((w6).heap.size ≤ (w7).heap.size) := bw.size
          have HBv1_7 := hblk HBv1_6 bw
          have HBv2_7 := hblk HBv2_6 bw
          clear hb6 HBv1_6 HBv2_6
          have ES1_7 : Hid (RowsO (w7) b1 (R1)) := by show RowsO _ _ _; rw [hbq1, hR1]; exact hso.1
          have HKM1 : Hid (kv1.map (·.1) = sa.ks) := hso.2
          have HU1 : Hid (∀ r ∈ R1, ∀ g, r.v.ownBlock = some g → g < t1) := fun r hr g hg => by rw [htq1]; rw [hR1] at hr; exact hso.1.lt hr hg
          have HRQ1 : Hid (R1 = shAll (.slice oC1 sa.cs.length pC1) (.slice oP1 sa.ws.length pP1) (.slice oK1 kv1.length pK1) (.slice oB1 sa.bl.length pB1) kv1 sa.cs sa.ws sa.bl) := hR1
          have HTY1 : Hid (NoT R1) := fun T h1 h2 h3 h4 h5 r hr => by rw [hR1] at hr; exact shAll_T T h1 h2 h3 h4 h5 r hr
          clear hR1
          have HBW1 : Hid (b1 ≥ w.heap.size) := by show _ ≤ _; rw [hbq1]; exact hbk1
          have HBK1 : Hid (b1 = w6.heap.size) := hbq1
          have HTK1 : Hid (t1 = w7.heap.size) := htq1
          clear hso hbq1 htq1 hbk1
          have HX_7 : Hid (Below w4.heap.size w4 w7) := HX_6.out.trans (bw.mono HX_6.out.size)
          have HPA_7 : Hid (w7.heap[pa]? = some (.cells #[.string ⟨#[]⟩, .slice none 0 0, .slice none 0 0, .int .i64 0, .slice none 0 0, .string ⟨#[]⟩, .int .i64 0] 50)) := blk_below HPA_6.out bw
          refine hK.out _ _ (HSS.out _ HX_7.out) (fun _ => ?_)
          clear hK K bw HX_6
          refine wpAnyH_ready (rs := [3]) (by kernel_rfl) (by simp) ?_
          refine AllReadyH.cons rfl (fun K hK => ?_) AllReadyH.nil
          go_simp
          refine (toReq_any mt p aQ n5 cQ bd gs w.heap.size _ (HA5.out _ hb7) hb7.size hm5).mono ?_
          rintro e w8 ⟨vv, rfl, ownQ2, bw⟩
          obtain ⟨oQ2, pQ2, rfl⟩ := slice_of_owns ownQ2
          have hb8 := hbt hb7 bw
          have HM8 : Hid ((w7).heap.size ≤ (w8).heap.size) := bw.size
          have HBv1_8 := hblk HBv1_7 bw
          have HBv2_8 := hblk HBv2_7 bw
          have ES1_8 : Hid (RowsO (w8) b1 (R1)) := ES1_7.out.below bw
          have HOQ2_8 : Hid ((w8).ownsRow w.heap.size 132 2 (.slice oQ2 n5 pQ2) n5 (flatF gs)) := owns_wide ownQ2 hb7.size
          have LOQ2 : Hid (∀ g, (Value.ownBlock (.slice oQ2 n5 pQ2)) = some g → (w7).heap.size ≤ g) := fun g hg => owns_ge ownQ2 hg
          have HIQ2 : Hid (∀ g, (Value.ownBlock (.slice oQ2 n5 pQ2)) = some g → g < (w8).heap.size) := fun g hg => owns_lt ownQ2 hg
          clear ownQ2
          clear hb7 HBv1_7 HBv2_7 ES1_7
          have HX_8 : Hid (Below w4.heap.size w4 w8) := HX_7.out.trans (bw.mono HX_7.out.size)
          have HPA_8 : Hid (w8.heap[pa]? = some (.cells #[.string ⟨#[]⟩, .slice none 0 0, .slice none 0 0, .int .i64 0, .slice none 0 0, .string ⟨#[]⟩, .int .i64 0] 50)) := blk_below HPA_7.out bw
          refine hK.out _ _ (HSS.out _ HX_8.out) (fun _ => ?_)
          clear hK K bw HX_7
          refine wpAnyH_ready (rs := [4]) (by kernel_rfl) (by simp) ?_
          refine AllReadyH.cons rfl (fun K hK => ?_) AllReadyH.nil
          go_simp
          refine (HSP.out _ hb8 _ _ _ _ _ _ (shelf_of HRQ1.out ES1_8.out HKM1.out) _ _ HOQ2_8.out).mono ?_
          rintro e w9 ⟨vv1, vv2, vv3, rfl, ⟨ownX3, ownY3, ownG3, ne3⟩, bw⟩
          obtain ⟨oX3, pX3, rfl⟩ := slice_of_owns ownX3
          obtain ⟨oY3, pY3, rfl⟩ := slice_of_owns ownY3
          obtain ⟨oG3, pG3, rfl⟩ := slice_of_owns ownG3
          have AP3 : Hid (∀ j, (Value.slice oX3 ko.xs.length pX3).ownBlock = some j → (Value.slice oY3 ko.ys.length pY3).ownBlock ≠ some j) := ne3
          clear ne3
          have hb9 := hbt hb8 bw
          have HM9 : Hid ((w8).heap.size ≤ (w9).heap.size) := bw.size
          have HOQ2_9 := hown HOQ2_8 bw
          have HBv1_9 := hblk HBv1_8 bw
          have HBv2_9 := hblk HBv2_8 bw
          have ES1_9 : Hid (RowsO (w9) b1 (R1)) := ES1_8.out.below bw
          have HOX3_9 : Hid ((w9).ownsRow w.heap.size 9 1 (.slice oX3 ko.xs.length pX3) ko.xs.length (ko.xs.map Value.string)) := owns_wide ownX3 hb8.size
          have LOX3 : Hid (∀ g, (Value.ownBlock (.slice oX3 ko.xs.length pX3)) = some g → (w8).heap.size ≤ g) := fun g hg => owns_ge ownX3 hg
          have HIX3 : Hid (∀ g, (Value.ownBlock (.slice oX3 ko.xs.length pX3)) = some g → g < (w9).heap.size) := fun g hg => owns_lt ownX3 hg
          clear ownX3
          have HOY3_9 : Hid ((w9).ownsRow w.heap.size 9 1 (.slice oY3 ko.ys.length pY3) ko.ys.length (ko.ys.map Value.string)) := owns_wide ownY3 hb8.size
          have LOY3 : Hid (∀ g, (Value.ownBlock (.slice oY3 ko.ys.length pY3)) = some g → (w8).heap.size ≤ g) := fun g hg => owns_ge ownY3 hg
          have HIY3 : Hid (∀ g, (Value.ownBlock (.slice oY3 ko.ys.length pY3)) = some g → g < (w9).heap.size) := fun g hg => owns_lt ownY3 hg
          clear ownY3
          have HOG3_9 : Hid ((w9).ownsRow w.heap.size 132 2 (.slice oG3 ko.fs.length pG3) ko.fs.length (flatF ko.fs)) := owns_wide ownG3 hb8.size
          have LOG3 : Hid (∀ g, (Value.ownBlock (.slice oG3 ko.fs.length pG3)) = some g → (w8).heap.size ≤ g) := fun g hg => owns_ge ownG3 hg
          have HIG3 : Hid (∀ g, (Value.ownBlock (.slice oG3 ko.fs.length pG3)) = some g → g < (w9).heap.size) := fun g hg => owns_lt ownG3 hg
          clear ownG3
          clear hb8 HOQ2_8 HBv1_8 HBv2_8 ES1_8
          have HX_9 : Hid (Below w4.heap.size w4 w9) := HX_8.out.trans (bw.mono HX_8.out.size)
          have HPA_9 : Hid (w9.heap[pa]? = some (.cells #[.string ⟨#[]⟩, .slice none 0 0, .slice none 0 0, .int .i64 0, .slice none 0 0, .string ⟨#[]⟩, .int .i64 0] 50)) := blk_below HPA_8.out bw
          have HRXX3_9 : Hid ((w9).ownsRow w4.heap.size 9 1 (.slice oX3 ko.xs.length pX3) ko.xs.length (ko.xs.map Value.string)) := owns_lift HOX3_9.out (fun g hg => Nat.le_trans HX_8.out.size (LOX3.out g hg))
          have HRXY3_9 : Hid ((w9).ownsRow w4.heap.size 9 1 (.slice oY3 ko.ys.length pY3) ko.ys.length (ko.ys.map Value.string)) := owns_lift HOY3_9.out (fun g hg => Nat.le_trans HX_8.out.size (LOY3.out g hg))
          have HRXG3_9 : Hid ((w9).ownsRow w4.heap.size 132 2 (.slice oG3 ko.fs.length pG3) ko.fs.length (flatF ko.fs)) := owns_lift HOG3_9.out (fun g hg => Nat.le_trans HX_8.out.size (LOG3.out g hg))
          refine hK.out _ _ (HSS.out _ HX_9.out) (fun _ => ?_)
          clear hK K bw HX_8
          refine tkP 5 (.tuple #[.agg #[.string ko.p, .slice oX3 ko.xs.length pX3, .slice oY3 ko.ys.length pY3, .int .i64 ko.st, .slice oG3 ko.fs.length pG3, .string ko.b, .int .i64 ko.t], .bool fb]) 27 rfl rfl (HSS.out _ HX_9.out) ?_
          go_frame
          refine tkP 6 (.agg #[.string ko.p, .slice oX3 ko.xs.length pX3, .slice oY3 ko.ys.length pY3, .int .i64 ko.st, .slice oG3 ko.fs.length pG3, .string ko.b, .int .i64 ko.t]) 33 rfl rfl (HSS.out _ HX_9.out) ?_
          go_frame
          refine tkP 7 (.bool fb) 34 rfl rfl (HSS.out _ HX_9.out) ?_
          go_frame
          refine wpAnyH_ready (rs := [9]) (by kernel_rfl) (by simp) ?_
          refine AllReadyH.cons rfl (fun K hK => ?_) AllReadyH.nil
          have ce0 : w9.cell? ⟨pa, 0, none⟩ = some (.string ⟨#[]⟩) := (cell_of HPA_9.out 0).trans rfl
          have fe0 : w9.frozen? ⟨pa, 0, none⟩ = false := frozen_of HPA_9.out 0
          have ce1 : w9.cell? ⟨pa, 1, none⟩ = some (.slice none 0 0) := (cell_of HPA_9.out 1).trans rfl
          have fe1 : w9.frozen? ⟨pa, 1, none⟩ = false := frozen_of HPA_9.out 1
          have ce2 : w9.cell? ⟨pa, 2, none⟩ = some (.slice none 0 0) := (cell_of HPA_9.out 2).trans rfl
          have fe2 : w9.frozen? ⟨pa, 2, none⟩ = false := frozen_of HPA_9.out 2
          have ce3 : w9.cell? ⟨pa, 3, none⟩ = some (.int .i64 0) := (cell_of HPA_9.out 3).trans rfl
          have fe3 : w9.frozen? ⟨pa, 3, none⟩ = false := frozen_of HPA_9.out 3
          have ce4 : w9.cell? ⟨pa, 4, none⟩ = some (.slice none 0 0) := (cell_of HPA_9.out 4).trans rfl
          have fe4 : w9.frozen? ⟨pa, 4, none⟩ = false := frozen_of HPA_9.out 4
          have ce5 : w9.cell? ⟨pa, 5, none⟩ = some (.string ⟨#[]⟩) := (cell_of HPA_9.out 5).trans rfl
          have fe5 : w9.frozen? ⟨pa, 5, none⟩ = false := frozen_of HPA_9.out 5
          have ce6 : w9.cell? ⟨pa, 6, none⟩ = some (.int .i64 0) := (cell_of HPA_9.out 6).trans rfl
          have fe6 : w9.frozen? ⟨pa, 6, none⟩ = false := frozen_of HPA_9.out 6
          obtain ⟨w10, hY⟩ : ∃ Y, Y = (((((((w9.setCell ⟨pa, 0, none⟩ (.string ko.p)).setCell ⟨pa, 1, none⟩ (.slice oX3 ko.xs.length pX3)).setCell ⟨pa, 2, none⟩ (.slice oY3 ko.ys.length pY3)).setCell ⟨pa, 3, none⟩ (.int .i64 ko.st)).setCell ⟨pa, 4, none⟩ (.slice oG3 ko.fs.length pG3)).setCell ⟨pa, 5, none⟩ (.string ko.b)).setCell ⟨pa, 6, none⟩ (.int .i64 ko.t)) := ⟨_, rfl⟩
          have HY : Hid ((((((((w9.setCell ⟨pa, 0, none⟩ (.string ko.p)).setCell ⟨pa, 1, none⟩ (.slice oX3 ko.xs.length pX3)).setCell ⟨pa, 2, none⟩ (.slice oY3 ko.ys.length pY3)).setCell ⟨pa, 3, none⟩ (.int .i64 ko.st)).setCell ⟨pa, 4, none⟩ (.slice oG3 ko.fs.length pG3)).setCell ⟨pa, 5, none⟩ (.string ko.b)).setCell ⟨pa, 6, none⟩ (.int .i64 ko.t)) = w10) := hY.symm
          have HX_10 : Hid (Below w4.heap.size w4 w10) := by show Below _ _ _; rw [hY]; exact (((((((HX_9.out.setCell (p := ⟨pa, 0, none⟩) HGA.out _).setCell (p := ⟨pa, 1, none⟩) HGA.out _).setCell (p := ⟨pa, 2, none⟩) HGA.out _).setCell (p := ⟨pa, 3, none⟩) HGA.out _).setCell (p := ⟨pa, 4, none⟩) HGA.out _).setCell (p := ⟨pa, 5, none⟩) HGA.out _).setCell (p := ⟨pa, 6, none⟩) HGA.out _)
          have HPA_10 : Hid (w10.heap[pa]? = some (.cells #[.string ko.p, .slice oX3 ko.xs.length pX3, .slice oY3 ko.ys.length pY3, .int .i64 ko.st, .slice oG3 ko.fs.length pG3, .string ko.b, .int .i64 ko.t] 50)) := by show _ = _; rw [hY]; have h := (heap_set _ pa 6 _ _ _ (.int .i64 ko.t) (heap_set _ pa 5 _ _ _ (.string ko.b) (heap_set _ pa 4 _ _ _ (.slice oG3 ko.fs.length pG3) (heap_set _ pa 3 _ _ _ (.int .i64 ko.st) (heap_set _ pa 2 _ _ _ (.slice oY3 ko.ys.length pY3) (heap_set _ pa 1 _ _ _ (.slice oX3 ko.xs.length pX3) (heap_set _ pa 0 _ _ _ (.string ko.p) HPA_9.out))))))); simpa using h
          have HRXX3_10 : Hid ((w10).ownsRow w4.heap.size 9 1 (.slice oX3 ko.xs.length pX3) ko.xs.length (ko.xs.map Value.string)) := by show World.ownsRow _ _ _ _ _ _ _; rw [hY]; exact owns_same HRXX3_9.out (fun g hg => by have hne := own_ne HRXX3_9.out HPA_9.out (by decide) g hg; rw [heap_setCell_other _ _ g _ hne, heap_setCell_other _ _ g _ hne, heap_setCell_other _ _ g _ hne, heap_setCell_other _ _ g _ hne, heap_setCell_other _ _ g _ hne, heap_setCell_other _ _ g _ hne, heap_setCell_other _ _ g _ hne])
          have HRXY3_10 : Hid ((w10).ownsRow w4.heap.size 9 1 (.slice oY3 ko.ys.length pY3) ko.ys.length (ko.ys.map Value.string)) := by show World.ownsRow _ _ _ _ _ _ _; rw [hY]; exact owns_same HRXY3_9.out (fun g hg => by have hne := own_ne HRXY3_9.out HPA_9.out (by decide) g hg; rw [heap_setCell_other _ _ g _ hne, heap_setCell_other _ _ g _ hne, heap_setCell_other _ _ g _ hne, heap_setCell_other _ _ g _ hne, heap_setCell_other _ _ g _ hne, heap_setCell_other _ _ g _ hne, heap_setCell_other _ _ g _ hne])
          have HRXG3_10 : Hid ((w10).ownsRow w4.heap.size 132 2 (.slice oG3 ko.fs.length pG3) ko.fs.length (flatF ko.fs)) := by show World.ownsRow _ _ _ _ _ _ _; rw [hY]; exact owns_same HRXG3_9.out (fun g hg => by have hne := own_ne HRXG3_9.out HPA_9.out (by decide) g hg; rw [heap_setCell_other _ _ g _ hne, heap_setCell_other _ _ g _ hne, heap_setCell_other _ _ g _ hne, heap_setCell_other _ _ g _ hne, heap_setCell_other _ _ g _ hne, heap_setCell_other _ _ g _ hne, heap_setCell_other _ _ g _ hne])
          have APXX3Y3 : Hid (∀ g, (Value.ownBlock (.slice oX3 ko.xs.length pX3)) = some g → (Value.ownBlock (.slice oY3 ko.ys.length pY3)) ≠ some g) := AP3.out
          clear hY hb9 HOQ2_9 HOX3_9 HOY3_9 HOG3_9 HBv1_9 HBv2_9 ES1_9
          go_simp
          rw [HY.out]
          refine hK.out _ _ (HSS.out _ HX_10.out) (fun _ => ?_)
          clear hK K HY ce0 fe0 ce1 fe1 ce2 fe2 ce3 fe3 ce4 fe4 ce5 fe5 ce6 fe6
          refine tkP 10 (.bool fb) 7 rfl rfl (HSS.out _ HX_10.out) ?_
          go_frame
          refine wpAnyH_done (by kernel_rfl) ?_ _
          go_wp2_with fail
          go_meet
          exact ⟨pa, oX3, pX3, oY3, pY3, oG3, pG3, rfl, rfl, ⟨HX_10.out, HPA_10.out, HGA.out, HRXX3_10.out, HRXY3_10.out, HRXG3_10.out, APXX3Y3.out⟩⟩
      case rest =>
      obtain ⟨qv3, oX3, pX3, oY3, pY3, oG3, pG3, hsx, hsx7, HF⟩ := hcut
      rw [hsx, hsx7]
      obtain ⟨w5, hwj⟩ : ∃ W, W = wc := ⟨_, rfl⟩
      rw [← hwj] at HF ⊢
      clear hsx hsx7 hwj HSS
      obtain ⟨bw, hcell, hga, ownX3, ownY3, ownG3, apX3Y3⟩ := HF.out
      have hb5 := hbt hb4 bw
      have HM5 : Hid ((w4).heap.size ≤ (w5).heap.size) := bw.size
      have HBv1_5 := hblk HBv1_4 bw
      have HBv2_5 := hblk HBv2_4 bw
      have HOX3_5 : Hid ((w5).ownsRow w.heap.size 9 1 (.slice oX3 ko.xs.length pX3) ko.xs.length (ko.xs.map Value.string)) := owns_wide ownX3 hb4.size
      have LOX3 : Hid (∀ g, (Value.ownBlock (.slice oX3 ko.xs.length pX3)) = some g → (w4).heap.size ≤ g) := fun g hg => owns_ge ownX3 hg
      have HIX3 : Hid (∀ g, (Value.ownBlock (.slice oX3 ko.xs.length pX3)) = some g → g < (w5).heap.size) := fun g hg => owns_lt ownX3 hg
      have HOY3_5 : Hid ((w5).ownsRow w.heap.size 9 1 (.slice oY3 ko.ys.length pY3) ko.ys.length (ko.ys.map Value.string)) := owns_wide ownY3 hb4.size
      have LOY3 : Hid (∀ g, (Value.ownBlock (.slice oY3 ko.ys.length pY3)) = some g → (w4).heap.size ≤ g) := fun g hg => owns_ge ownY3 hg
      have HIY3 : Hid (∀ g, (Value.ownBlock (.slice oY3 ko.ys.length pY3)) = some g → g < (w5).heap.size) := fun g hg => owns_lt ownY3 hg
      have HOG3_5 : Hid ((w5).ownsRow w.heap.size 132 2 (.slice oG3 ko.fs.length pG3) ko.fs.length (flatF ko.fs)) := owns_wide ownG3 hb4.size
      have LOG3 : Hid (∀ g, (Value.ownBlock (.slice oG3 ko.fs.length pG3)) = some g → (w4).heap.size ≤ g) := fun g hg => owns_ge ownG3 hg
      have HIG3 : Hid (∀ g, (Value.ownBlock (.slice oG3 ko.fs.length pG3)) = some g → g < (w5).heap.size) := fun g hg => owns_lt ownG3 hg
      have APX3Y3 : Hid (∀ g, (Value.ownBlock (.slice oX3 ko.xs.length pX3)) = some g → (Value.ownBlock (.slice oY3 ko.ys.length pY3)) ≠ some g) := apX3Y3
      have HBv3_5 : Hid ((w5).heap[qv3]? = some (.cells #[.string ko.p, .slice oX3 ko.xs.length pX3, .slice oY3 ko.ys.length pY3, .int .i64 ko.st, .slice oG3 ko.fs.length pG3, .string ko.b, .int .i64 ko.t] 50)) := hcell
      clear hb4 HBv1_4 HBv2_4 bw hcell hga HF ownX3 ownY3 ownG3 apX3Y3
      have cv1_0 : (w5).cell? ⟨qv1, 0, none⟩ = some (.slice a1 n1 c1) := (cell_of HBv1_5.out 0).trans rfl
      have cv1_1 : (w5).cell? ⟨qv1, 1, none⟩ = some (.slice a2 n2 c2) := (cell_of HBv1_5.out 1).trans rfl
      have cv1_2 : (w5).cell? ⟨qv1, 2, none⟩ = some (.slice a3 n3 c3) := (cell_of HBv1_5.out 2).trans rfl
      have cv1_3 : (w5).cell? ⟨qv1, 3, none⟩ = some (.slice a4 n4 c4) := (cell_of HBv1_5.out 3).trans rfl
      have cv1_4 : (w5).cell? ⟨qv1, 4, none⟩ = some (.int .i64 nx) := (cell_of HBv1_5.out 4).trans rfl
      have cv1_5 : (w5).cell? ⟨qv1, 5, none⟩ = some (.int .i64 sq) := (cell_of HBv1_5.out 5).trans rfl
      go_wp2_with fail
      refine (HTO.out _ hb5).mono ?_
      rintro e w6 ⟨va, vb, vc, vd, kv4, rfl, hso, bw⟩
      obtain ⟨oC4, pC4, rfl⟩ := slice_of_owns hso.disk.cells
      obtain ⟨oP4, pP4, rfl⟩ := slice_of_owns hso.disk.pend
      obtain ⟨oK4, pK4, rfl⟩ := hso.kept.len
      obtain ⟨oB4, pB4, rfl⟩ := slice_of_owns hso.bans
      obtain ⟨R4, hR4⟩ : ∃ R, R = shAll (.slice oC4 sa.cs.length pC4) (.slice oP4 sa.ws.length pP4) (.slice oK4 kv4.length pK4) (.slice oB4 sa.bl.length pB4) kv4 sa.cs sa.ws sa.bl := ⟨_, rfl⟩
      obtain ⟨b4, hbq4⟩ : ∃ b, b = (w5).heap.size := ⟨_, rfl⟩
      obtain ⟨t4, htq4⟩ : ∃ t, t = (w6).heap.size := ⟨_, rfl⟩
      have hbk4 := hb5.size
      have hb6 := hbt hb5 bw
      have HM6 : Hid ((w5).heap.size ≤ (w6).heap.size) := bw.size
      have HOX3_6 := hown HOX3_5 bw
      have HOY3_6 := hown HOY3_5 bw
      have HOG3_6 := hown HOG3_5 bw
      have HBv1_6 := hblk HBv1_5 bw
      have HBv2_6 := hblk HBv2_5 bw
      have HBv3_6 := hblk HBv3_5 bw
      clear hb5 HOX3_5 HOY3_5 HOG3_5 HBv1_5 HBv2_5 HBv3_5 bw
      have ES4_6 : Hid (RowsO (w6) b4 (R4)) := by show RowsO _ _ _; rw [hbq4, hR4]; exact hso.1
      have HKM4 : Hid (kv4.map (·.1) = sa.ks) := hso.2
      have HU4 : Hid (∀ r ∈ R4, ∀ g, r.v.ownBlock = some g → g < t4) := fun r hr g hg => by rw [htq4]; rw [hR4] at hr; exact hso.1.lt hr hg
      have HRQ4 : Hid (R4 = shAll (.slice oC4 sa.cs.length pC4) (.slice oP4 sa.ws.length pP4) (.slice oK4 kv4.length pK4) (.slice oB4 sa.bl.length pB4) kv4 sa.cs sa.ws sa.bl) := hR4
      have HTY4 : Hid (NoT R4) := fun T h1 h2 h3 h4 h5 r hr => by rw [hR4] at hr; exact shAll_T T h1 h2 h3 h4 h5 r hr
      clear hR4
      have HBW4 : Hid (b4 ≥ w.heap.size) := by show _ ≤ _; rw [hbq4]; exact hbk4
      have HBK4 : Hid (b4 = w5.heap.size) := hbq4
      have HTK4 : Hid (t4 = w6.heap.size) := htq4
      clear hso hbq4 htq4 hbk4
      clear cv1_0 cv1_1 cv1_2 cv1_3 cv1_4 cv1_5
      go_upto_region 10 with fail
      obtain ⟨qv4, hqv4⟩ : ∃ q, q = (w6).heap.size := ⟨_, rfl⟩
      obtain ⟨w7, hW7⟩ : ∃ W, W = (w6).alloc (.cells #[(.slice oC4 sa.cs.length pC4), (.slice oP4 sa.ws.length pP4), (.slice oK4 kv4.length pK4), (.slice oB4 sa.bl.length pB4), .int .i64 sa.nx, .int .i64 sa.sq] 38) := ⟨_, rfl⟩
      have hz7 : (w6).heap.size = qv4 := hqv4.symm
      first | rw [← hW7, ← hqv4] | rw [← hW7]
      have hs7 : w7.heap.size = qv4 + 1 := by rw [hW7, ← hz7]; simp
      have bw : Below (w6).heap.size (w6) w7 := by rw [hW7]; exact (Below.refl _ _).alloc (Nat.le_refl _) _
      have hb7 := hbt hb6 bw
      have HM7 : Hid ((w6).heap.size ≤ (w7).heap.size) := bw.size
      have HOX3_7 := hown HOX3_6 bw
      have HOY3_7 := hown HOY3_6 bw
      have HOG3_7 := hown HOG3_6 bw
      have HBv1_7 := hblk HBv1_6 bw
      have HBv2_7 := hblk HBv2_6 bw
      have HBv3_7 := hblk HBv3_6 bw
      have ES4_7 : Hid (RowsO (w7) b4 (R4)) := ES4_6.out.below bw
      have HBv4_7 : Hid ((w7).heap[qv4]? = some (.cells #[(.slice oC4 sa.cs.length pC4), (.slice oP4 sa.ws.length pP4), (.slice oK4 kv4.length pK4), (.slice oB4 sa.bl.length pB4), .int .i64 sa.nx, .int .i64 sa.sq] 38)) := by show _ = _; rw [hW7, ← hz7]; exact heap_alloc_new _ _
      clear hb6 HOX3_6 HOY3_6 HOG3_6 HBv1_6 HBv2_6 HBv3_6 ES4_6 bw hW7 hz7
      clear hs7 hqv4
      have cv2_0 : (w7).cell? ⟨qv2, 0, none⟩ = some (.int .i64 mt) := (cell_of HBv2_7.out 0).trans rfl
      have cv2_1 : (w7).cell? ⟨qv2, 1, none⟩ = some (.string p) := (cell_of HBv2_7.out 1).trans rfl
      have cv2_2 : (w7).cell? ⟨qv2, 2, none⟩ = some (.slice aQ n5 cQ) := (cell_of HBv2_7.out 2).trans rfl
      have cv2_3 : (w7).cell? ⟨qv2, 3, none⟩ = some (.string bd) := (cell_of HBv2_7.out 3).trans rfl
      go_wp2_with fail
      refine (toReq_any mt p aQ n5 cQ bd gs w.heap.size _ (HA5.out _ hb7) hb7.size hm5).mono ?_
      rintro e w8 ⟨vv, rfl, ownQ5, bw⟩
      obtain ⟨oQ5, pQ5, rfl⟩ := slice_of_owns ownQ5
      have hb8 := hbt hb7 bw
      have HM8 : Hid ((w7).heap.size ≤ (w8).heap.size) := bw.size
      have HOX3_8 := hown HOX3_7 bw
      have HOY3_8 := hown HOY3_7 bw
      have HOG3_8 := hown HOG3_7 bw
      have HBv1_8 := hblk HBv1_7 bw
      have HBv2_8 := hblk HBv2_7 bw
      have HBv3_8 := hblk HBv3_7 bw
      have HBv4_8 := hblk HBv4_7 bw
      have ES4_8 : Hid (RowsO (w8) b4 (R4)) := ES4_7.out.below bw
      have HOQ5_8 : Hid ((w8).ownsRow w.heap.size 132 2 (.slice oQ5 n5 pQ5) n5 (flatF gs)) := owns_wide ownQ5 hb7.size
      have LOQ5 : Hid (∀ g, (Value.ownBlock (.slice oQ5 n5 pQ5)) = some g → (w7).heap.size ≤ g) := fun g hg => owns_ge ownQ5 hg
      have HIQ5 : Hid (∀ g, (Value.ownBlock (.slice oQ5 n5 pQ5)) = some g → g < (w8).heap.size) := fun g hg => owns_lt ownQ5 hg
      clear ownQ5
      clear hb7 HOX3_7 HOY3_7 HOG3_7 HBv1_7 HBv2_7 HBv3_7 HBv4_7 ES4_7 bw
      clear cv2_0 cv2_1 cv2_2 cv2_3
      go_upto_region 11 with fail
      obtain ⟨qv5, hqv5⟩ : ∃ q, q = (w8).heap.size := ⟨_, rfl⟩
      obtain ⟨w9, hW9⟩ : ∃ W, W = (w8).alloc (.cells #[.int .i64 mt, .string p, .slice oQ5 n5 pQ5, .string bd] 54) := ⟨_, rfl⟩
      have hz9 : (w8).heap.size = qv5 := hqv5.symm
      first | rw [← hW9, ← hqv5] | rw [← hW9]
      have hs9 : w9.heap.size = qv5 + 1 := by rw [hW9, ← hz9]; simp
      have bw : Below (w8).heap.size (w8) w9 := by rw [hW9]; exact (Below.refl _ _).alloc (Nat.le_refl _) _
      have hb9 := hbt hb8 bw
      have HM9 : Hid ((w8).heap.size ≤ (w9).heap.size) := bw.size
      have HOX3_9 := hown HOX3_8 bw
      have HOY3_9 := hown HOY3_8 bw
      have HOG3_9 := hown HOG3_8 bw
      have HOQ5_9 := hown HOQ5_8 bw
      have HBv1_9 := hblk HBv1_8 bw
      have HBv2_9 := hblk HBv2_8 bw
      have HBv3_9 := hblk HBv3_8 bw
      have HBv4_9 := hblk HBv4_8 bw
      have ES4_9 : Hid (RowsO (w9) b4 (R4)) := ES4_8.out.below bw
      have HBv5_9 : Hid ((w9).heap[qv5]? = some (.cells #[.int .i64 mt, .string p, .slice oQ5 n5 pQ5, .string bd] 54)) := by show _ = _; rw [hW9, ← hz9]; exact heap_alloc_new _ _
      clear hb8 HOX3_8 HOY3_8 HOG3_8 HOQ5_8 HBv1_8 HBv2_8 HBv3_8 HBv4_8 ES4_8 bw hW9 hz9
      clear hs9 hqv5
      have cv4_0 : (w9).cell? ⟨qv4, 0, none⟩ = some ((.slice oC4 sa.cs.length pC4)) := (cell_of HBv4_9.out 0).trans rfl
      have cv4_1 : (w9).cell? ⟨qv4, 1, none⟩ = some ((.slice oP4 sa.ws.length pP4)) := (cell_of HBv4_9.out 1).trans rfl
      have cv4_2 : (w9).cell? ⟨qv4, 2, none⟩ = some ((.slice oK4 kv4.length pK4)) := (cell_of HBv4_9.out 2).trans rfl
      have cv4_3 : (w9).cell? ⟨qv4, 3, none⟩ = some ((.slice oB4 sa.bl.length pB4)) := (cell_of HBv4_9.out 3).trans rfl
      have cv4_4 : (w9).cell? ⟨qv4, 4, none⟩ = some (.int .i64 sa.nx) := (cell_of HBv4_9.out 4).trans rfl
      have cv4_5 : (w9).cell? ⟨qv4, 5, none⟩ = some (.int .i64 sa.sq) := (cell_of HBv4_9.out 5).trans rfl
      have cv5_0 : (w9).cell? ⟨qv5, 0, none⟩ = some (.int .i64 mt) := (cell_of HBv5_9.out 0).trans rfl
      have cv5_1 : (w9).cell? ⟨qv5, 1, none⟩ = some (.string p) := (cell_of HBv5_9.out 1).trans rfl
      have cv5_2 : (w9).cell? ⟨qv5, 2, none⟩ = some (.slice oQ5 n5 pQ5) := (cell_of HBv5_9.out 2).trans rfl
      have cv5_3 : (w9).cell? ⟨qv5, 3, none⟩ = some (.string bd) := (cell_of HBv5_9.out 3).trans rfl
      go_wp2_with fail
      refine (HIM.out _ hb9 _ _ _ _ _ _ (shelf_of HRQ4.out ES4_9.out HKM4.out) _ _ HOQ5_9.out).mono ?_
      rintro e w10 ⟨vv1, vv2, vv3, rfl, ⟨ownX6, ownY6, ownG6, ne6⟩, bw⟩
      obtain ⟨oX6, pX6, rfl⟩ := slice_of_owns ownX6
      obtain ⟨oY6, pY6, rfl⟩ := slice_of_owns ownY6
      obtain ⟨oG6, pG6, rfl⟩ := slice_of_owns ownG6
      have AP6 : Hid (∀ j, (Value.slice oX6 ko.xs.length pX6).ownBlock = some j → (Value.slice oY6 ko.ys.length pY6).ownBlock ≠ some j) := ne6
      clear ne6
      have hb10 := hbt hb9 bw
      have HM10 : Hid ((w9).heap.size ≤ (w10).heap.size) := bw.size
      have HOX3_10 := hown HOX3_9 bw
      have HOY3_10 := hown HOY3_9 bw
      have HOG3_10 := hown HOG3_9 bw
      have HOQ5_10 := hown HOQ5_9 bw
      have HBv1_10 := hblk HBv1_9 bw
      have HBv2_10 := hblk HBv2_9 bw
      have HBv3_10 := hblk HBv3_9 bw
      have HBv4_10 := hblk HBv4_9 bw
      have HBv5_10 := hblk HBv5_9 bw
      have ES4_10 : Hid (RowsO (w10) b4 (R4)) := ES4_9.out.below bw
      have HOX6_10 : Hid ((w10).ownsRow w.heap.size 9 1 (.slice oX6 ko.xs.length pX6) ko.xs.length (ko.xs.map Value.string)) := owns_wide ownX6 hb9.size
      have LOX6 : Hid (∀ g, (Value.ownBlock (.slice oX6 ko.xs.length pX6)) = some g → (w9).heap.size ≤ g) := fun g hg => owns_ge ownX6 hg
      clear ownX6
      have HOY6_10 : Hid ((w10).ownsRow w.heap.size 9 1 (.slice oY6 ko.ys.length pY6) ko.ys.length (ko.ys.map Value.string)) := owns_wide ownY6 hb9.size
      have LOY6 : Hid (∀ g, (Value.ownBlock (.slice oY6 ko.ys.length pY6)) = some g → (w9).heap.size ≤ g) := fun g hg => owns_ge ownY6 hg
      clear ownY6
      have HOG6_10 : Hid ((w10).ownsRow w.heap.size 132 2 (.slice oG6 ko.fs.length pG6) ko.fs.length (flatF ko.fs)) := owns_wide ownG6 hb9.size
      have LOG6 : Hid (∀ g, (Value.ownBlock (.slice oG6 ko.fs.length pG6)) = some g → (w9).heap.size ≤ g) := fun g hg => owns_ge ownG6 hg
      have HIG6 : Hid (∀ g, (Value.ownBlock (.slice oG6 ko.fs.length pG6)) = some g → g < (w10).heap.size) := fun g hg => owns_lt ownG6 hg
      clear ownG6
      clear hb9 HOX3_9 HOY3_9 HOG3_9 HOQ5_9 HBv1_9 HBv2_9 HBv3_9 HBv4_9 HBv5_9 ES4_9 bw
      clear cv4_0 cv4_1 cv4_2 cv4_3 cv4_4 cv4_5 cv5_0 cv5_1 cv5_2 cv5_3
      go_upto_region 12 with fail
      obtain ⟨qv6, hqv6⟩ : ∃ q, q = (w10).heap.size := ⟨_, rfl⟩
      obtain ⟨w11, hW11⟩ : ∃ W, W = (w10).alloc (.cells #[.string ko.p, .slice oX6 ko.xs.length pX6, .slice oY6 ko.ys.length pY6, .int .i64 ko.st, .slice oG6 ko.fs.length pG6, .string ko.b, .int .i64 ko.t] 50) := ⟨_, rfl⟩
      have hz11 : (w10).heap.size = qv6 := hqv6.symm
      first | rw [← hW11, ← hqv6] | rw [← hW11]
      have hs11 : w11.heap.size = qv6 + 1 := by rw [hW11, ← hz11]; simp
      have bw : Below (w10).heap.size (w10) w11 := by rw [hW11]; exact (Below.refl _ _).alloc (Nat.le_refl _) _
      have hb11 := hbt hb10 bw
      have HM11 : Hid ((w10).heap.size ≤ (w11).heap.size) := bw.size
      have HOX3_11 := hown HOX3_10 bw
      have HOY3_11 := hown HOY3_10 bw
      have HOG3_11 := hown HOG3_10 bw
      have HOQ5_11 := hown HOQ5_10 bw
      have HOX6_11 := hown HOX6_10 bw
      have HOY6_11 := hown HOY6_10 bw
      have HOG6_11 := hown HOG6_10 bw
      have HBv1_11 := hblk HBv1_10 bw
      have HBv2_11 := hblk HBv2_10 bw
      have HBv3_11 := hblk HBv3_10 bw
      have HBv4_11 := hblk HBv4_10 bw
      have HBv5_11 := hblk HBv5_10 bw
      have ES4_11 : Hid (RowsO (w11) b4 (R4)) := ES4_10.out.below bw
      have HBv6_11 : Hid ((w11).heap[qv6]? = some (.cells #[.string ko.p, .slice oX6 ko.xs.length pX6, .slice oY6 ko.ys.length pY6, .int .i64 ko.st, .slice oG6 ko.fs.length pG6, .string ko.b, .int .i64 ko.t] 50)) := by show _ = _; rw [hW11, ← hz11]; exact heap_alloc_new _ _
      clear hb10 HOX3_10 HOY3_10 HOG3_10 HOQ5_10 HOX6_10 HOY6_10 HOG6_10 HBv1_10 HBv2_10 HBv3_10 HBv4_10 HBv5_10 ES4_10 bw hW11 hz11
      clear hs11 hqv6
      have cv3_0 : (w11).cell? ⟨qv3, 0, none⟩ = some (.string ko.p) := (cell_of HBv3_11.out 0).trans rfl
      have cv3_1 : (w11).cell? ⟨qv3, 1, none⟩ = some (.slice oX3 ko.xs.length pX3) := (cell_of HBv3_11.out 1).trans rfl
      have cv3_2 : (w11).cell? ⟨qv3, 2, none⟩ = some (.slice oY3 ko.ys.length pY3) := (cell_of HBv3_11.out 2).trans rfl
      have cv3_3 : (w11).cell? ⟨qv3, 3, none⟩ = some (.int .i64 ko.st) := (cell_of HBv3_11.out 3).trans rfl
      have cv3_4 : (w11).cell? ⟨qv3, 4, none⟩ = some (.slice oG3 ko.fs.length pG3) := (cell_of HBv3_11.out 4).trans rfl
      have cv3_5 : (w11).cell? ⟨qv3, 5, none⟩ = some (.string ko.b) := (cell_of HBv3_11.out 5).trans rfl
      have cv3_6 : (w11).cell? ⟨qv3, 6, none⟩ = some (.int .i64 ko.t) := (cell_of HBv3_11.out 6).trans rfl
      have cv6_0 : (w11).cell? ⟨qv6, 0, none⟩ = some (.string ko.p) := (cell_of HBv6_11.out 0).trans rfl
      have cv6_1 : (w11).cell? ⟨qv6, 1, none⟩ = some (.slice oX6 ko.xs.length pX6) := (cell_of HBv6_11.out 1).trans rfl
      have cv6_2 : (w11).cell? ⟨qv6, 2, none⟩ = some (.slice oY6 ko.ys.length pY6) := (cell_of HBv6_11.out 2).trans rfl
      have cv6_3 : (w11).cell? ⟨qv6, 3, none⟩ = some (.int .i64 ko.st) := (cell_of HBv6_11.out 3).trans rfl
      have cv6_4 : (w11).cell? ⟨qv6, 4, none⟩ = some (.slice oG6 ko.fs.length pG6) := (cell_of HBv6_11.out 4).trans rfl
      have cv6_5 : (w11).cell? ⟨qv6, 5, none⟩ = some (.string ko.b) := (cell_of HBv6_11.out 5).trans rfl
      have cv6_6 : (w11).cell? ⟨qv6, 6, none⟩ = some (.int .i64 ko.t) := (cell_of HBv6_11.out 6).trans rfl
      go_wp2_with fail
      refine (eqObj_any ko.p ko.xs.length ko.xs ko.ys.length ko.ys ko.st ko.fs.length ko.fs ko.b ko.t _ _ _ _ _ _ _ _ _ ⟨HOX6_11.out, HOY6_11.out, HOG6_11.out, AP6.out⟩ ⟨HOX3_11.out, HOY3_11.out, HOG3_11.out, APX3Y3.out⟩ (by have := HLV.out; omega) (by have := HLV.out; omega) (by have := HLV.out; omega)).mono ?_
      rintro e w12 ⟨rfl, bw⟩
      have hb12 := hbt hb11 bw
      have HM12 : Hid ((w11).heap.size ≤ (w12).heap.size) := bw.size
      have HOX3_12 := hown HOX3_11 bw
      have HOY3_12 := hown HOY3_11 bw
      have HOG3_12 := hown HOG3_11 bw
      have HOQ5_12 := hown HOQ5_11 bw
      have HOX6_12 := hown HOX6_11 bw
      have HOY6_12 := hown HOY6_11 bw
      have HOG6_12 := hown HOG6_11 bw
      have HBv1_12 := hblk HBv1_11 bw
      have HBv2_12 := hblk HBv2_11 bw
      have HBv3_12 := hblk HBv3_11 bw
      have HBv4_12 := hblk HBv4_11 bw
      have HBv5_12 := hblk HBv5_11 bw
      have HBv6_12 := hblk HBv6_11 bw
      have ES4_12 : Hid (RowsO (w12) b4 (R4)) := ES4_11.out.below bw
      clear hb11 HOX3_11 HOY3_11 HOG3_11 HOQ5_11 HOX6_11 HOY6_11 HOG6_11 HBv1_11 HBv2_11 HBv3_11 HBv4_11 HBv5_11 HBv6_11 ES4_11 bw
      clear cv3_0 cv3_1 cv3_2 cv3_3 cv3_4 cv3_5 cv3_6 cv6_0 cv6_1 cv6_2 cv6_3 cv6_4 cv6_5 cv6_6
      go_upto_region 14 with fail
      refine wp_region_held_drew (S := fun W => W.heap[qv4]? = some (.cells #[(.slice oC4 sa.cs.length pC4), (.slice oP4 sa.ws.length pP4), (.slice oK4 kv4.length pK4), (.slice oB4 sa.bl.length pB4), .int .i64 sa.nx, .int .i64 sa.sq] 38) ∧ W.heap[qv1]? = some (.cells #[.slice a1 n1 c1, .slice a2 n2 c2, .slice a3 n3 c3, .slice a4 n4 c4, .int .i64 nx, .int .i64 sq] 29)) (by kernel_rfl) ⟨HBv4_12.out, HBv1_12.out⟩ (fun _ => ?_)
      obtain ⟨w13, hX⟩ : ∃ X, X = w12.drew := ⟨_, rfl⟩
      have bw : Below w12.heap.size w12 w13 := by rw [hX]; exact (Below.refl _ _).drew
      rw [← hX]
      have hb13 := hbt hb12 bw
      have HM13 : Hid ((w12).heap.size ≤ (w13).heap.size) := bw.size
      have HOX3_13 := hown HOX3_12 bw
      have HOY3_13 := hown HOY3_12 bw
      have HOG3_13 := hown HOG3_12 bw
      have HOQ5_13 := hown HOQ5_12 bw
      have HOX6_13 := hown HOX6_12 bw
      have HOY6_13 := hown HOY6_12 bw
      have HOG6_13 := hown HOG6_12 bw
      have HBv1_13 := hblk HBv1_12 bw
      have HBv2_13 := hblk HBv2_12 bw
      have HBv3_13 := hblk HBv3_12 bw
      have HBv4_13 := hblk HBv4_12 bw
      have HBv5_13 := hblk HBv5_12 bw
      have HBv6_13 := hblk HBv6_12 bw
      have ES4_13 : Hid (RowsO (w13) b4 (R4)) := ES4_12.out.below bw
      have hS13 : w13.heap[qv4]? = some (.cells #[(.slice oC4 sa.cs.length pC4), (.slice oP4 sa.ws.length pP4), (.slice oK4 kv4.length pK4), (.slice oB4 sa.bl.length pB4), .int .i64 sa.nx, .int .i64 sa.sq] 38) ∧ w13.heap[qv1]? = some (.cells #[.slice a1 n1 c1, .slice a2 n2 c2, .slice a3 n3 c3, .slice a4 n4 c4, .int .i64 nx, .int .i64 sq] 29) := ⟨HBv4_13.out, HBv1_13.out⟩
      clear hb12 HOX3_12 HOY3_12 HOG3_12 HOQ5_12 HOX6_12 HOY6_12 HOG6_12 HBv1_12 HBv2_12 HBv3_12 HBv4_12 HBv5_12 HBv6_12 ES4_12 bw hX
      refine tkL 0 (.agg #[(.slice oC4 sa.cs.length pC4), (.slice oP4 sa.ws.length pP4), (.slice oK4 kv4.length pK4), (.slice oB4 sa.bl.length pB4), .int .i64 sa.nx, .int .i64 sa.sq]) 54 rfl rfl (Or.inl ⟨by rfl, by intro W hW; obtain ⟨hhv4, hhv1⟩ := hW; have y0 := (cell_of hhv4 0).trans rfl; have y1 := (cell_of hhv4 1).trans rfl; have y2 := (cell_of hhv4 2).trans rfl; have y3 := (cell_of hhv4 3).trans rfl; have y4 := (cell_of hhv4 4).trans rfl; have y5 := (cell_of hhv4 5).trans rfl; go_simp⟩) hS13 ?_
      go_frame
      refine tkL 1 (.agg #[.slice a1 n1 c1, .slice a2 n2 c2, .slice a3 n3 c3, .slice a4 n4 c4, .int .i64 nx, .int .i64 sq]) 55 rfl rfl (Or.inl ⟨by rfl, by intro W hW; obtain ⟨hhv4, hhv1⟩ := hW; have y0 := (cell_of hhv1 0).trans rfl; have y1 := (cell_of hhv1 1).trans rfl; have y2 := (cell_of hhv1 2).trans rfl; have y3 := (cell_of hhv1 3).trans rfl; have y4 := (cell_of hhv1 4).trans rfl; have y5 := (cell_of hhv1 5).trans rfl; go_simp⟩) hS13 ?_
      go_frame
      refine wpAnyH_ready (rs := [2]) (by kernel_rfl) (by simp) ?_
      refine AllReadyH.cons rfl (fun K hK => ?_) AllReadyH.nil
      go_simp
      refine (HTO.out _ hb13).mono ?_
      rintro e w14 ⟨va, vb, vc, vd, kv7, rfl, hso, bw⟩
      obtain ⟨oC7, pC7, rfl⟩ := slice_of_owns hso.disk.cells
      obtain ⟨oP7, pP7, rfl⟩ := slice_of_owns hso.disk.pend
      obtain ⟨oK7, pK7, rfl⟩ := hso.kept.len
      obtain ⟨oB7, pB7, rfl⟩ := slice_of_owns hso.bans
      obtain ⟨R7, hR7⟩ : ∃ R, R = shAll (.slice oC7 sa.cs.length pC7) (.slice oP7 sa.ws.length pP7) (.slice oK7 kv7.length pK7) (.slice oB7 sa.bl.length pB7) kv7 sa.cs sa.ws sa.bl := ⟨_, rfl⟩
      obtain ⟨b7, hbq7⟩ : ∃ b, b = (w13).heap.size := ⟨_, rfl⟩
      obtain ⟨t7, htq7⟩ : ∃ t, t = (w14).heap.size := ⟨_, rfl⟩
      have hbk7 := hb13.size
      have hb14 := hbt hb13 bw
      have HM14 : Hid ((w13).heap.size ≤ (w14).heap.size) := bw.size
      have HOX3_14 := hown HOX3_13 bw
      have HOY3_14 := hown HOY3_13 bw
      have HOG3_14 := hown HOG3_13 bw
      have HOQ5_14 := hown HOQ5_13 bw
      have HOX6_14 := hown HOX6_13 bw
      have HOY6_14 := hown HOY6_13 bw
      have HOG6_14 := hown HOG6_13 bw
      have HBv1_14 := hblk HBv1_13 bw
      have HBv2_14 := hblk HBv2_13 bw
      have HBv3_14 := hblk HBv3_13 bw
      have HBv4_14 := hblk HBv4_13 bw
      have HBv5_14 := hblk HBv5_13 bw
      have HBv6_14 := hblk HBv6_13 bw
      have ES4_14 : Hid (RowsO (w14) b4 (R4)) := ES4_13.out.below bw
      clear hb13 HOX3_13 HOY3_13 HOG3_13 HOQ5_13 HOX6_13 HOY6_13 HOG6_13 HBv1_13 HBv2_13 HBv3_13 HBv4_13 HBv5_13 HBv6_13 ES4_13 bw
      have ES7_14 : Hid (RowsO (w14) b7 (R7)) := by show RowsO _ _ _; rw [hbq7, hR7]; exact hso.1
      have HKM7 : Hid (kv7.map (·.1) = sa.ks) := hso.2
      have HU7 : Hid (∀ r ∈ R7, ∀ g, r.v.ownBlock = some g → g < t7) := fun r hr g hg => by rw [htq7]; rw [hR7] at hr; exact hso.1.lt hr hg
      have HRQ7 : Hid (R7 = shAll (.slice oC7 sa.cs.length pC7) (.slice oP7 sa.ws.length pP7) (.slice oK7 kv7.length pK7) (.slice oB7 sa.bl.length pB7) kv7 sa.cs sa.ws sa.bl) := hR7
      have HTY7 : Hid (NoT R7) := fun T h1 h2 h3 h4 h5 r hr => by rw [hR7] at hr; exact shAll_T T h1 h2 h3 h4 h5 r hr
      clear hR7
      have HBW7 : Hid (b7 ≥ w.heap.size) := by show _ ≤ _; rw [hbq7]; exact hbk7
      have HBK7 : Hid (b7 = w13.heap.size) := hbq7
      have HTK7 : Hid (t7 = w14.heap.size) := htq7
      clear hso hbq7 htq7 hbk7
      have hS14 : w14.heap[qv4]? = some (.cells #[(.slice oC4 sa.cs.length pC4), (.slice oP4 sa.ws.length pP4), (.slice oK4 kv4.length pK4), (.slice oB4 sa.bl.length pB4), .int .i64 sa.nx, .int .i64 sa.sq] 38) ∧ w14.heap[qv1]? = some (.cells #[.slice a1 n1 c1, .slice a2 n2 c2, .slice a3 n3 c3, .slice a4 n4 c4, .int .i64 nx, .int .i64 sq] 29) := ⟨HBv4_14.out, HBv1_14.out⟩
      refine hK.out _ _ hS14 (fun _ => ?_)
      clear hK K hS13
      refine wpAnyH_ready (rs := [3]) (by kernel_rfl) (by simp) ?_
      refine AllReadyH.cons rfl (fun K hK => ?_) AllReadyH.nil
      go_simp
      refine (eqShelf_any sa _ _ _ _ _ _ _ _ _ _ _ _ _ (shelf_of HRQ4.out ES4_14.out HKM4.out) (shelf_of HRQ7.out ES7_14.out HKM7.out) HLIMsa.out.c HLIMsa.out.w HLIMsa.out.k HLIMsa.out.b HLIMsa.out.ks).mono ?_
      rintro e w15 ⟨rfl, bw⟩
      have hb15 := hbt hb14 bw
      have HM15 : Hid ((w14).heap.size ≤ (w15).heap.size) := bw.size
      have HOX3_15 := hown HOX3_14 bw
      have HOY3_15 := hown HOY3_14 bw
      have HOG3_15 := hown HOG3_14 bw
      have HOQ5_15 := hown HOQ5_14 bw
      have HOX6_15 := hown HOX6_14 bw
      have HOY6_15 := hown HOY6_14 bw
      have HOG6_15 := hown HOG6_14 bw
      have HBv1_15 := hblk HBv1_14 bw
      have HBv2_15 := hblk HBv2_14 bw
      have HBv3_15 := hblk HBv3_14 bw
      have HBv4_15 := hblk HBv4_14 bw
      have HBv5_15 := hblk HBv5_14 bw
      have HBv6_15 := hblk HBv6_14 bw
      have ES4_15 : Hid (RowsO (w15) b4 (R4)) := ES4_14.out.below bw
      have ES7_15 : Hid (RowsO (w15) b7 (R7)) := ES7_14.out.below bw
      clear hb14 HOX3_14 HOY3_14 HOG3_14 HOQ5_14 HOX6_14 HOY6_14 HOG6_14 HBv1_14 HBv2_14 HBv3_14 HBv4_14 HBv5_14 HBv6_14 ES4_14 ES7_14 bw
      clear ES7_15
      have hS15 : w15.heap[qv4]? = some (.cells #[(.slice oC4 sa.cs.length pC4), (.slice oP4 sa.ws.length pP4), (.slice oK4 kv4.length pK4), (.slice oB4 sa.bl.length pB4), .int .i64 sa.nx, .int .i64 sa.sq] 38) ∧ w15.heap[qv1]? = some (.cells #[.slice a1 n1 c1, .slice a2 n2 c2, .slice a3 n3 c3, .slice a4 n4 c4, .int .i64 nx, .int .i64 sq] 29) := ⟨HBv4_15.out, HBv1_15.out⟩
      refine hK.out _ _ hS15 (fun _ => ?_)
      clear hK K hS14
      refine tkP 4 (.bool false) 58 rfl rfl hS15 ?_
      go_frame
      clear hS15
      refine wpAnyH_done (by kernel_rfl) ?_ _
      go_upto_region 16 with fail
      refine wp_region_held_drew (S := fun W => W.heap[qv5]? = some (.cells #[.int .i64 mt, .string p, .slice oQ5 n5 pQ5, .string bd] 54) ∧ W.heap[qv2]? = some (.cells #[.int .i64 mt, .string p, .slice aQ n5 cQ, .string bd] 44)) (by kernel_rfl) ⟨HBv5_15.out, HBv2_15.out⟩ (fun _ => ?_)
      obtain ⟨w16, hX⟩ : ∃ X, X = w15.drew := ⟨_, rfl⟩
      have bw : Below w15.heap.size w15 w16 := by rw [hX]; exact (Below.refl _ _).drew
      rw [← hX]
      have hb16 := hbt hb15 bw
      have HM16 : Hid ((w15).heap.size ≤ (w16).heap.size) := bw.size
      have HOX3_16 := hown HOX3_15 bw
      have HOY3_16 := hown HOY3_15 bw
      have HOG3_16 := hown HOG3_15 bw
      have HOQ5_16 := hown HOQ5_15 bw
      have HOX6_16 := hown HOX6_15 bw
      have HOY6_16 := hown HOY6_15 bw
      have HOG6_16 := hown HOG6_15 bw
      have HBv1_16 := hblk HBv1_15 bw
      have HBv2_16 := hblk HBv2_15 bw
      have HBv3_16 := hblk HBv3_15 bw
      have HBv4_16 := hblk HBv4_15 bw
      have HBv5_16 := hblk HBv5_15 bw
      have HBv6_16 := hblk HBv6_15 bw
      have ES4_16 : Hid (RowsO (w16) b4 (R4)) := ES4_15.out.below bw
      have hS16 : w16.heap[qv5]? = some (.cells #[.int .i64 mt, .string p, .slice oQ5 n5 pQ5, .string bd] 54) ∧ w16.heap[qv2]? = some (.cells #[.int .i64 mt, .string p, .slice aQ n5 cQ, .string bd] 44) := ⟨HBv5_16.out, HBv2_16.out⟩
      clear hb15 HOX3_15 HOY3_15 HOG3_15 HOQ5_15 HOX6_15 HOY6_15 HOG6_15 HBv1_15 HBv2_15 HBv3_15 HBv4_15 HBv5_15 HBv6_15 ES4_15 bw hX
      refine tkL 0 (.agg #[.int .i64 mt, .string p, .slice oQ5 n5 pQ5, .string bd]) 59 rfl rfl (Or.inl ⟨by rfl, by intro W hW; obtain ⟨hhv5, hhv2⟩ := hW; have y0 := (cell_of hhv5 0).trans rfl; have y1 := (cell_of hhv5 1).trans rfl; have y2 := (cell_of hhv5 2).trans rfl; have y3 := (cell_of hhv5 3).trans rfl; go_simp⟩) hS16 ?_
      go_frame
      refine tkL 1 (.agg #[.int .i64 mt, .string p, .slice aQ n5 cQ, .string bd]) 60 rfl rfl (Or.inl ⟨by rfl, by intro W hW; obtain ⟨hhv5, hhv2⟩ := hW; have y0 := (cell_of hhv2 0).trans rfl; have y1 := (cell_of hhv2 1).trans rfl; have y2 := (cell_of hhv2 2).trans rfl; have y3 := (cell_of hhv2 3).trans rfl; go_simp⟩) hS16 ?_
      go_frame
      refine wpAnyH_ready (rs := [2]) (by kernel_rfl) (by simp) ?_
      refine AllReadyH.cons rfl (fun K hK => ?_) AllReadyH.nil
      go_simp
      refine (toReq_any mt p aQ n5 cQ bd gs w.heap.size _ (HA5.out _ hb16) hb16.size hm5).mono ?_
      rintro e w17 ⟨vv, rfl, ownQ8, bw⟩
      obtain ⟨oQ8, pQ8, rfl⟩ := slice_of_owns ownQ8
      have hb17 := hbt hb16 bw
      have HM17 : Hid ((w16).heap.size ≤ (w17).heap.size) := bw.size
      have HOX3_17 := hown HOX3_16 bw
      have HOY3_17 := hown HOY3_16 bw
      have HOG3_17 := hown HOG3_16 bw
      have HOQ5_17 := hown HOQ5_16 bw
      have HOX6_17 := hown HOX6_16 bw
      have HOY6_17 := hown HOY6_16 bw
      have HOG6_17 := hown HOG6_16 bw
      have HBv1_17 := hblk HBv1_16 bw
      have HBv2_17 := hblk HBv2_16 bw
      have HBv3_17 := hblk HBv3_16 bw
      have HBv4_17 := hblk HBv4_16 bw
      have HBv5_17 := hblk HBv5_16 bw
      have HBv6_17 := hblk HBv6_16 bw
      have ES4_17 : Hid (RowsO (w17) b4 (R4)) := ES4_16.out.below bw
      have HOQ8_17 : Hid ((w17).ownsRow w.heap.size 132 2 (.slice oQ8 n5 pQ8) n5 (flatF gs)) := owns_wide ownQ8 hb16.size
      have LOQ8 : Hid (∀ g, (Value.ownBlock (.slice oQ8 n5 pQ8)) = some g → (w16).heap.size ≤ g) := fun g hg => owns_ge ownQ8 hg
      clear ownQ8
      clear hb16 HOX3_16 HOY3_16 HOG3_16 HOQ5_16 HOX6_16 HOY6_16 HOG6_16 HBv1_16 HBv2_16 HBv3_16 HBv4_16 HBv5_16 HBv6_16 ES4_16 bw
      have hS17 : w17.heap[qv5]? = some (.cells #[.int .i64 mt, .string p, .slice oQ5 n5 pQ5, .string bd] 54) ∧ w17.heap[qv2]? = some (.cells #[.int .i64 mt, .string p, .slice aQ n5 cQ, .string bd] 44) := ⟨HBv5_17.out, HBv2_17.out⟩
      refine hK.out _ _ hS17 (fun _ => ?_)
      clear hK K hS16
      refine wpAnyH_ready (rs := [3]) (by kernel_rfl) (by simp) ?_
      refine AllReadyH.cons rfl (fun K hK => ?_) AllReadyH.nil
      go_simp
      refine (eqReq_any mt p _ _ bd n5 _ _ gs _ (FieldsV.of_owns HOQ5_17.out) (FieldsV.of_owns HOQ8_17.out) (by omega)).mono ?_
      rintro e w18 ⟨rfl, bw⟩
      have hb18 := hbt hb17 bw
      have HM18 : Hid ((w17).heap.size ≤ (w18).heap.size) := bw.size
      have HOX3_18 := hown HOX3_17 bw
      have HOY3_18 := hown HOY3_17 bw
      have HOG3_18 := hown HOG3_17 bw
      have HOQ5_18 := hown HOQ5_17 bw
      have HOX6_18 := hown HOX6_17 bw
      have HOY6_18 := hown HOY6_17 bw
      have HOG6_18 := hown HOG6_17 bw
      have HOQ8_18 := hown HOQ8_17 bw
      have HBv1_18 := hblk HBv1_17 bw
      have HBv2_18 := hblk HBv2_17 bw
      have HBv3_18 := hblk HBv3_17 bw
      have HBv4_18 := hblk HBv4_17 bw
      have HBv5_18 := hblk HBv5_17 bw
      have HBv6_18 := hblk HBv6_17 bw
      have ES4_18 : Hid (RowsO (w18) b4 (R4)) := ES4_17.out.below bw
      clear hb17 HOX3_17 HOY3_17 HOG3_17 HOQ5_17 HOX6_17 HOY6_17 HOG6_17 HOQ8_17 HBv1_17 HBv2_17 HBv3_17 HBv4_17 HBv5_17 HBv6_17 ES4_17 bw
      have hS18 : w18.heap[qv5]? = some (.cells #[.int .i64 mt, .string p, .slice oQ5 n5 pQ5, .string bd] 54) ∧ w18.heap[qv2]? = some (.cells #[.int .i64 mt, .string p, .slice aQ n5 cQ, .string bd] 44) := ⟨HBv5_18.out, HBv2_18.out⟩
      refine hK.out _ _ hS18 (fun _ => ?_)
      clear hK K hS17
      refine tkP 4 (.bool false) 63 rfl rfl hS18 ?_
      go_frame
      clear hS18
      refine wpAnyH_done (by kernel_rfl) ?_ _
      have cv4_0 : (w18).cell? ⟨qv4, 0, none⟩ = some ((.slice oC4 sa.cs.length pC4)) := (cell_of HBv4_18.out 0).trans rfl
      have cv4_1 : (w18).cell? ⟨qv4, 1, none⟩ = some ((.slice oP4 sa.ws.length pP4)) := (cell_of HBv4_18.out 1).trans rfl
      have cv4_2 : (w18).cell? ⟨qv4, 2, none⟩ = some ((.slice oK4 kv4.length pK4)) := (cell_of HBv4_18.out 2).trans rfl
      have cv4_3 : (w18).cell? ⟨qv4, 3, none⟩ = some ((.slice oB4 sa.bl.length pB4)) := (cell_of HBv4_18.out 3).trans rfl
      have cv4_4 : (w18).cell? ⟨qv4, 4, none⟩ = some (.int .i64 sa.nx) := (cell_of HBv4_18.out 4).trans rfl
      have cv4_5 : (w18).cell? ⟨qv4, 5, none⟩ = some (.int .i64 sa.sq) := (cell_of HBv4_18.out 5).trans rfl
      obtain ⟨Ka1, hKa⟩ : ∃ K, K = 1 + sa.cs.length + 2 * sa.ws.length := ⟨_, rfl⟩
      obtain ⟨Kb1, hKb⟩ : ∃ K, K = Ka1 + wms kv4 := ⟨_, rfl⟩
      obtain ⟨Kc1, hKc⟩ : ∃ K, K = Kb1 + 4 * sa.bl.length := ⟨_, rfl⟩
      have HKa1 : Hid (Ka1 = 1 + sa.cs.length + 2 * sa.ws.length) := hKa
      have HKb1 : Hid (Kb1 = Ka1 + wms kv4) := hKb
      have HKc1 : Hid (Kc1 = Kb1 + 4 * sa.bl.length) := hKc
      have hKp1 : 1 ≤ Kc1 := by omega
      have hKl1 : Kc1 ≤ 9999998 := by have := HLIMsa.out.m kv4 HKM4.out; omega
      clear hKa hKb hKc
      have HRX1 : Hid (RowsO (w18) b4 (shAll (.slice oC4 sa.cs.length pC4) (.slice oP4 sa.ws.length pP4) (.slice oK4 kv4.length pK4) (.slice oB4 sa.bl.length pB4) kv4 sa.cs sa.ws sa.bl)) := by show RowsO _ _ _; rw [← HRQ4.out]; exact ES4_18.out
      go_wp2_with fail
      refine (markShelf_go sa _ _ _ _ _ _ _ _ _ _ _ _ kv4 b4 _ rfl rfl rfl rfl HRX1 (by rw [HBK4.out]; have := HM6.out; have := HM7.out; have := HM8.out; have := HM9.out; have := HM10.out; have := HM11.out; have := HM12.out; have := HM13.out; have := HM14.out; have := HM15.out; have := HM16.out; have := HM17.out; have := HM18.out; omega) 1 (by omega) (by have := HKa1.out; have := HKb1.out; have := HKc1.out; omega) (HLIMsa.out.kl kv4 HKM4.out) Ka1 Kb1 Kc1 HKa1 HKb1 HKc1).mono ?_
      rintro e w19 ⟨rfl, mk, bm, far⟩
      clear HRX1
      have far2 : FarR R4 w18 w19 := by rw [HRQ4.out]; exact far
      clear far
      have far := far2
      clear far2
      have hb19 : Below w.heap.size w (w19) := hb18.trans (bm.mono HBW4.out)
      have HOX3_19 : Hid ((w19).ownsRow w.heap.size 9 1 (.slice oX3 ko.xs.length pX3) ko.xs.length (ko.xs.map Value.string)) := owns_same HOX3_18.out (fun g hg => far g (owns_lt HOX3_18.out hg) (fun r hr e => by have h1 := HIX3.out g (by assumption); have h2 := ES4_18.out.ge hr (by assumption); have h4 := HBK4.out; omega))
      have HOY3_19 : Hid ((w19).ownsRow w.heap.size 9 1 (.slice oY3 ko.ys.length pY3) ko.ys.length (ko.ys.map Value.string)) := owns_same HOY3_18.out (fun g hg => far g (owns_lt HOY3_18.out hg) (fun r hr e => by have h1 := HIY3.out g (by assumption); have h2 := ES4_18.out.ge hr (by assumption); have h4 := HBK4.out; omega))
      have HOG3_19 : Hid ((w19).ownsRow w.heap.size 132 2 (.slice oG3 ko.fs.length pG3) ko.fs.length (flatF ko.fs)) := owns_same HOG3_18.out (fun g hg => far g (owns_lt HOG3_18.out hg) (fun r hr e => by have h1 := HIG3.out g (by assumption); have h2 := ES4_18.out.ge hr (by assumption); have h4 := HBK4.out; omega))
      have HOQ5_19 : Hid ((w19).ownsRow w.heap.size 132 2 (.slice oQ5 n5 pQ5) n5 (flatF gs)) := owns_same HOQ5_18.out (fun g hg => far g (owns_lt HOQ5_18.out hg) (fun r hr e => by have h1 := LOQ5.out g (by assumption); have h2 := HU4.out r hr g (by assumption); have h3 := HTK4.out; have := HM7.out; omega))
      have HOX6_19 : Hid ((w19).ownsRow w.heap.size 9 1 (.slice oX6 ko.xs.length pX6) ko.xs.length (ko.xs.map Value.string)) := owns_same HOX6_18.out (fun g hg => far g (owns_lt HOX6_18.out hg) (fun r hr e => by have h1 := LOX6.out g (by assumption); have h2 := HU4.out r hr g (by assumption); have h3 := HTK4.out; have := HM7.out; have := HM8.out; have := HM9.out; omega))
      have HOY6_19 : Hid ((w19).ownsRow w.heap.size 9 1 (.slice oY6 ko.ys.length pY6) ko.ys.length (ko.ys.map Value.string)) := owns_same HOY6_18.out (fun g hg => far g (owns_lt HOY6_18.out hg) (fun r hr e => by have h1 := LOY6.out g (by assumption); have h2 := HU4.out r hr g (by assumption); have h3 := HTK4.out; have := HM7.out; have := HM8.out; have := HM9.out; omega))
      have HOG6_19 : Hid ((w19).ownsRow w.heap.size 132 2 (.slice oG6 ko.fs.length pG6) ko.fs.length (flatF ko.fs)) := owns_same HOG6_18.out (fun g hg => far g (owns_lt HOG6_18.out hg) (fun r hr e => by have h1 := LOG6.out g (by assumption); have h2 := HU4.out r hr g (by assumption); have h3 := HTK4.out; have := HM7.out; have := HM8.out; have := HM9.out; omega))
      have HOQ8_19 : Hid ((w19).ownsRow w.heap.size 132 2 (.slice oQ8 n5 pQ8) n5 (flatF gs)) := owns_same HOQ8_18.out (fun g hg => far g (owns_lt HOQ8_18.out hg) (fun r hr e => by have h1 := LOQ8.out g (by assumption); have h2 := HU4.out r hr g (by assumption); have h3 := HTK4.out; have := HM7.out; have := HM8.out; have := HM9.out; have := HM10.out; have := HM11.out; have := HM12.out; have := HM13.out; have := HM14.out; have := HM15.out; have := HM16.out; omega))
      have HBv1_19 : Hid ((w19).heap[qv1]? = some (.cells #[.slice a1 n1 c1, .slice a2 n2 c2, .slice a3 n3 c3, .slice a4 n4 c4, .int .i64 nx, .int .i64 sq] 29)) := (far _ (Array.getElem?_eq_some_iff.1 HBv1_18.out).1 (fun r hr e => own_noR (ES4_18.out.own r hr) (HTY4.out 29 (by decide) (by decide) (by decide) (by decide) (by decide) r hr) HBv1_18.out e)).trans HBv1_18.out
      have HBv2_19 : Hid ((w19).heap[qv2]? = some (.cells #[.int .i64 mt, .string p, .slice aQ n5 cQ, .string bd] 44)) := (far _ (Array.getElem?_eq_some_iff.1 HBv2_18.out).1 (fun r hr e => own_noR (ES4_18.out.own r hr) (HTY4.out 44 (by decide) (by decide) (by decide) (by decide) (by decide) r hr) HBv2_18.out e)).trans HBv2_18.out
      have HBv3_19 : Hid ((w19).heap[qv3]? = some (.cells #[.string ko.p, .slice oX3 ko.xs.length pX3, .slice oY3 ko.ys.length pY3, .int .i64 ko.st, .slice oG3 ko.fs.length pG3, .string ko.b, .int .i64 ko.t] 50)) := (far _ (Array.getElem?_eq_some_iff.1 HBv3_18.out).1 (fun r hr e => own_noR (ES4_18.out.own r hr) (HTY4.out 50 (by decide) (by decide) (by decide) (by decide) (by decide) r hr) HBv3_18.out e)).trans HBv3_18.out
      have HBv4_19 : Hid ((w19).heap[qv4]? = some (.cells #[(.slice oC4 sa.cs.length pC4), (.slice oP4 sa.ws.length pP4), (.slice oK4 kv4.length pK4), (.slice oB4 sa.bl.length pB4), .int .i64 sa.nx, .int .i64 sa.sq] 38)) := (far _ (Array.getElem?_eq_some_iff.1 HBv4_18.out).1 (fun r hr e => own_noR (ES4_18.out.own r hr) (HTY4.out 38 (by decide) (by decide) (by decide) (by decide) (by decide) r hr) HBv4_18.out e)).trans HBv4_18.out
      have HBv5_19 : Hid ((w19).heap[qv5]? = some (.cells #[.int .i64 mt, .string p, .slice oQ5 n5 pQ5, .string bd] 54)) := (far _ (Array.getElem?_eq_some_iff.1 HBv5_18.out).1 (fun r hr e => own_noR (ES4_18.out.own r hr) (HTY4.out 54 (by decide) (by decide) (by decide) (by decide) (by decide) r hr) HBv5_18.out e)).trans HBv5_18.out
      have HBv6_19 : Hid ((w19).heap[qv6]? = some (.cells #[.string ko.p, .slice oX6 ko.xs.length pX6, .slice oY6 ko.ys.length pY6, .int .i64 ko.st, .slice oG6 ko.fs.length pG6, .string ko.b, .int .i64 ko.t] 50)) := (far _ (Array.getElem?_eq_some_iff.1 HBv6_18.out).1 (fun r hr e => own_noR (ES4_18.out.own r hr) (HTY4.out 50 (by decide) (by decide) (by decide) (by decide) (by decide) r hr) HBv6_18.out e)).trans HBv6_18.out
      clear mk bm far hb18 HOX3_18 HOY3_18 HOG3_18 HOQ5_18 HOX6_18 HOY6_18 HOG6_18 HOQ8_18 HBv1_18 HBv2_18 HBv3_18 HBv4_18 HBv5_18 HBv6_18 ES4_18
      have hKn1 : ¬ ((Kc1 : Int) < 0) := by omega
      clear cv4_0 cv4_1 cv4_2 cv4_3 cv4_4 cv4_5
      have cv5_0 : (w19).cell? ⟨qv5, 0, none⟩ = some (.int .i64 mt) := (cell_of HBv5_19.out 0).trans rfl
      have cv5_1 : (w19).cell? ⟨qv5, 1, none⟩ = some (.string p) := (cell_of HBv5_19.out 1).trans rfl
      have cv5_2 : (w19).cell? ⟨qv5, 2, none⟩ = some (.slice oQ5 n5 pQ5) := (cell_of HBv5_19.out 2).trans rfl
      have cv5_3 : (w19).cell? ⟨qv5, 3, none⟩ = some (.string bd) := (cell_of HBv5_19.out 3).trans rfl
      go_wp2_with fail
      refine (markReqFrom_any mt p _ bd n5 _ gs _ HOQ5_19.out hb19.size Kc1 (by have := hKp1; omega) (by have := HROOM.out kv4 HKM4.out; have := HKa1.out; have := HKb1.out; have := HKc1.out; omega)).mono ?_
      rintro e w20 ⟨rfl, mk, bm, far⟩
      have hb20 : Below w.heap.size w (w20) := hb19.trans bm
      have HOX3_20 : Hid ((w20).ownsRow w.heap.size 9 1 (.slice oX3 ko.xs.length pX3) ko.xs.length (ko.xs.map Value.string)) := owns_same HOX3_19.out (fun g hg => far g (owns_lt HOX3_19.out hg) (own_type_ne HOX3_19.out HOQ5_19.out (by decide) g hg))
      have HOY3_20 : Hid ((w20).ownsRow w.heap.size 9 1 (.slice oY3 ko.ys.length pY3) ko.ys.length (ko.ys.map Value.string)) := owns_same HOY3_19.out (fun g hg => far g (owns_lt HOY3_19.out hg) (own_type_ne HOY3_19.out HOQ5_19.out (by decide) g hg))
      have HOG3_20 : Hid ((w20).ownsRow w.heap.size 132 2 (.slice oG3 ko.fs.length pG3) ko.fs.length (flatF ko.fs)) := owns_same HOG3_19.out (fun g hg => far g (owns_lt HOG3_19.out hg) (fun e => by have h1 := LOQ5.out g e; have h2 := HIG3.out g hg; have := HM6.out; have := HM7.out; have := HM8.out; omega))
      have HOX6_20 : Hid ((w20).ownsRow w.heap.size 9 1 (.slice oX6 ko.xs.length pX6) ko.xs.length (ko.xs.map Value.string)) := owns_same HOX6_19.out (fun g hg => far g (owns_lt HOX6_19.out hg) (own_type_ne HOX6_19.out HOQ5_19.out (by decide) g hg))
      have HOY6_20 : Hid ((w20).ownsRow w.heap.size 9 1 (.slice oY6 ko.ys.length pY6) ko.ys.length (ko.ys.map Value.string)) := owns_same HOY6_19.out (fun g hg => far g (owns_lt HOY6_19.out hg) (own_type_ne HOY6_19.out HOQ5_19.out (by decide) g hg))
      have HOG6_20 : Hid ((w20).ownsRow w.heap.size 132 2 (.slice oG6 ko.fs.length pG6) ko.fs.length (flatF ko.fs)) := owns_same HOG6_19.out (fun g hg => far g (owns_lt HOG6_19.out hg) (fun e => by have h1 := LOG6.out g hg; have h2 := HIQ5.out g e; have := HM9.out; have := HM10.out; omega))
      have HOQ8_20 : Hid ((w20).ownsRow w.heap.size 132 2 (.slice oQ8 n5 pQ8) n5 (flatF gs)) := owns_same HOQ8_19.out (fun g hg => far g (owns_lt HOQ8_19.out hg) (fun e => by have h1 := LOQ8.out g hg; have h2 := HIQ5.out g e; have := HM9.out; have := HM10.out; have := HM11.out; have := HM12.out; have := HM13.out; have := HM14.out; have := HM15.out; have := HM16.out; have := HM17.out; omega))
      have HBv1_20 : Hid ((w20).heap[qv1]? = some (.cells #[.slice a1 n1 c1, .slice a2 n2 c2, .slice a3 n3 c3, .slice a4 n4 c4, .int .i64 nx, .int .i64 sq] 29)) := (far _ (Array.getElem?_eq_some_iff.1 HBv1_19.out).1 (fun e => own_ne HOQ5_19.out HBv1_19.out (by decide) _ e rfl)).trans HBv1_19.out
      have HBv2_20 : Hid ((w20).heap[qv2]? = some (.cells #[.int .i64 mt, .string p, .slice aQ n5 cQ, .string bd] 44)) := (far _ (Array.getElem?_eq_some_iff.1 HBv2_19.out).1 (fun e => own_ne HOQ5_19.out HBv2_19.out (by decide) _ e rfl)).trans HBv2_19.out
      have HBv3_20 : Hid ((w20).heap[qv3]? = some (.cells #[.string ko.p, .slice oX3 ko.xs.length pX3, .slice oY3 ko.ys.length pY3, .int .i64 ko.st, .slice oG3 ko.fs.length pG3, .string ko.b, .int .i64 ko.t] 50)) := (far _ (Array.getElem?_eq_some_iff.1 HBv3_19.out).1 (fun e => own_ne HOQ5_19.out HBv3_19.out (by decide) _ e rfl)).trans HBv3_19.out
      have HBv4_20 : Hid ((w20).heap[qv4]? = some (.cells #[(.slice oC4 sa.cs.length pC4), (.slice oP4 sa.ws.length pP4), (.slice oK4 kv4.length pK4), (.slice oB4 sa.bl.length pB4), .int .i64 sa.nx, .int .i64 sa.sq] 38)) := (far _ (Array.getElem?_eq_some_iff.1 HBv4_19.out).1 (fun e => own_ne HOQ5_19.out HBv4_19.out (by decide) _ e rfl)).trans HBv4_19.out
      have HBv5_20 : Hid ((w20).heap[qv5]? = some (.cells #[.int .i64 mt, .string p, .slice oQ5 n5 pQ5, .string bd] 54)) := (far _ (Array.getElem?_eq_some_iff.1 HBv5_19.out).1 (fun e => own_ne HOQ5_19.out HBv5_19.out (by decide) _ e rfl)).trans HBv5_19.out
      have HBv6_20 : Hid ((w20).heap[qv6]? = some (.cells #[.string ko.p, .slice oX6 ko.xs.length pX6, .slice oY6 ko.ys.length pY6, .int .i64 ko.st, .slice oG6 ko.fs.length pG6, .string ko.b, .int .i64 ko.t] 50)) := (far _ (Array.getElem?_eq_some_iff.1 HBv6_19.out).1 (fun e => own_ne HOQ5_19.out HBv6_19.out (by decide) _ e rfl)).trans HBv6_19.out
      have HOQ5_20 : Hid ((w20).ownsRow w.heap.size 132 2 (.slice oQ5 n5 pQ5) n5 (flatF (mkG Kc1 gs n5))) := mk
      clear hb19 HOX3_19 HOY3_19 HOG3_19 HOQ5_19 HOX6_19 HOY6_19 HOG6_19 HOQ8_19 HBv1_19 HBv2_19 HBv3_19 HBv4_19 HBv5_19 HBv6_19 mk bm far
      have hkk : ¬ (((Kc1 : Int) + 2 * (n5 : Int)) < 0) := by omega
      clear cv5_0 cv5_1 cv5_2 cv5_3
      have cv3_0 : (w20).cell? ⟨qv3, 0, none⟩ = some (.string ko.p) := (cell_of HBv3_20.out 0).trans rfl
      have cv3_1 : (w20).cell? ⟨qv3, 1, none⟩ = some (.slice oX3 ko.xs.length pX3) := (cell_of HBv3_20.out 1).trans rfl
      have cv3_2 : (w20).cell? ⟨qv3, 2, none⟩ = some (.slice oY3 ko.ys.length pY3) := (cell_of HBv3_20.out 2).trans rfl
      have cv3_3 : (w20).cell? ⟨qv3, 3, none⟩ = some (.int .i64 ko.st) := (cell_of HBv3_20.out 3).trans rfl
      have cv3_4 : (w20).cell? ⟨qv3, 4, none⟩ = some (.slice oG3 ko.fs.length pG3) := (cell_of HBv3_20.out 4).trans rfl
      have cv3_5 : (w20).cell? ⟨qv3, 5, none⟩ = some (.string ko.b) := (cell_of HBv3_20.out 5).trans rfl
      have cv3_6 : (w20).cell? ⟨qv3, 6, none⟩ = some (.int .i64 ko.t) := (cell_of HBv3_20.out 6).trans rfl
      have cv6_0 : (w20).cell? ⟨qv6, 0, none⟩ = some (.string ko.p) := (cell_of HBv6_20.out 0).trans rfl
      have cv6_1 : (w20).cell? ⟨qv6, 1, none⟩ = some (.slice oX6 ko.xs.length pX6) := (cell_of HBv6_20.out 1).trans rfl
      have cv6_2 : (w20).cell? ⟨qv6, 2, none⟩ = some (.slice oY6 ko.ys.length pY6) := (cell_of HBv6_20.out 2).trans rfl
      have cv6_3 : (w20).cell? ⟨qv6, 3, none⟩ = some (.int .i64 ko.st) := (cell_of HBv6_20.out 3).trans rfl
      have cv6_4 : (w20).cell? ⟨qv6, 4, none⟩ = some (.slice oG6 ko.fs.length pG6) := (cell_of HBv6_20.out 4).trans rfl
      have cv6_5 : (w20).cell? ⟨qv6, 5, none⟩ = some (.string ko.b) := (cell_of HBv6_20.out 5).trans rfl
      have cv6_6 : (w20).cell? ⟨qv6, 6, none⟩ = some (.int .i64 ko.t) := (cell_of HBv6_20.out 6).trans rfl
      go_wp2_with fail
      refine (eqObj_any ko.p ko.xs.length ko.xs ko.ys.length ko.ys ko.st ko.fs.length ko.fs ko.b ko.t _ _ _ _ _ _ _ _ _ ⟨HOX6_20.out, HOY6_20.out, HOG6_20.out, AP6.out⟩ ⟨HOX3_20.out, HOY3_20.out, HOG3_20.out, APX3Y3.out⟩ (by have := HLV.out; omega) (by have := HLV.out; omega) (by have := HLV.out; omega)).mono ?_
      rintro e w21 ⟨rfl, bw⟩
      have hb21 := hbt hb20 bw
      have HOX3_21 := hown HOX3_20 bw
      have HOY3_21 := hown HOY3_20 bw
      have HOG3_21 := hown HOG3_20 bw
      have HOQ5_21 := hown HOQ5_20 bw
      have HOX6_21 := hown HOX6_20 bw
      have HOY6_21 := hown HOY6_20 bw
      have HOG6_21 := hown HOG6_20 bw
      have HOQ8_21 := hown HOQ8_20 bw
      have HBv1_21 := hblk HBv1_20 bw
      have HBv2_21 := hblk HBv2_20 bw
      have HBv3_21 := hblk HBv3_20 bw
      have HBv4_21 := hblk HBv4_20 bw
      have HBv5_21 := hblk HBv5_20 bw
      have HBv6_21 := hblk HBv6_20 bw
      clear hb20 HOX3_20 HOY3_20 HOG3_20 HOQ5_20 HOX6_20 HOY6_20 HOG6_20 HOQ8_20 HBv1_20 HBv2_20 HBv3_20 HBv4_20 HBv5_20 HBv6_20 bw
      clear cv3_0 cv3_1 cv3_2 cv3_3 cv3_4 cv3_5 cv3_6 cv6_0 cv6_1 cv6_2 cv6_3 cv6_4 cv6_5 cv6_6
      have cv6_0 : (w21).cell? ⟨qv6, 0, none⟩ = some (.string ko.p) := (cell_of HBv6_21.out 0).trans rfl
      have cv6_1 : (w21).cell? ⟨qv6, 1, none⟩ = some (.slice oX6 ko.xs.length pX6) := (cell_of HBv6_21.out 1).trans rfl
      have cv6_2 : (w21).cell? ⟨qv6, 2, none⟩ = some (.slice oY6 ko.ys.length pY6) := (cell_of HBv6_21.out 2).trans rfl
      have cv6_3 : (w21).cell? ⟨qv6, 3, none⟩ = some (.int .i64 ko.st) := (cell_of HBv6_21.out 3).trans rfl
      have cv6_4 : (w21).cell? ⟨qv6, 4, none⟩ = some (.slice oG6 ko.fs.length pG6) := (cell_of HBv6_21.out 4).trans rfl
      have cv6_5 : (w21).cell? ⟨qv6, 5, none⟩ = some (.string ko.b) := (cell_of HBv6_21.out 5).trans rfl
      have cv6_6 : (w21).cell? ⟨qv6, 6, none⟩ = some (.int .i64 ko.t) := (cell_of HBv6_21.out 6).trans rfl
      go_wp2_with fail
      refine (markObj_any ko.p ko.xs.length ko.xs ko.ys.length ko.ys ko.st ko.fs.length ko.fs ko.b ko.t _ _ _ _ _ ⟨HOX6_21.out, HOY6_21.out, HOG6_21.out, AP6.out⟩ hb21.size 1 (by omega) (by have := HLV.out; omega)).mono ?_
      rintro e w22 ⟨rfl, ⟨mk0, mk1, mk2, _⟩, bm, far⟩
      have hb22 : Below w.heap.size w (w22) := hb21.trans bm
      have HOX3_22 : Hid ((w22).ownsRow w.heap.size 9 1 (.slice oX3 ko.xs.length pX3) ko.xs.length (ko.xs.map Value.string)) := owns_same HOX3_21.out (fun g hg => far g (owns_lt HOX3_21.out hg) (fun e => by have h1 := LOX6.out g e; have h2 := HIX3.out g hg; have := HM6.out; have := HM7.out; have := HM8.out; have := HM9.out; have := HM10.out; omega) (fun e => by have h1 := LOY6.out g e; have h2 := HIX3.out g hg; have := HM6.out; have := HM7.out; have := HM8.out; have := HM9.out; have := HM10.out; omega) (own_type_ne HOX3_21.out HOG6_21.out (by decide) g hg))
      have HOY3_22 : Hid ((w22).ownsRow w.heap.size 9 1 (.slice oY3 ko.ys.length pY3) ko.ys.length (ko.ys.map Value.string)) := owns_same HOY3_21.out (fun g hg => far g (owns_lt HOY3_21.out hg) (fun e => by have h1 := LOX6.out g e; have h2 := HIY3.out g hg; have := HM6.out; have := HM7.out; have := HM8.out; have := HM9.out; have := HM10.out; omega) (fun e => by have h1 := LOY6.out g e; have h2 := HIY3.out g hg; have := HM6.out; have := HM7.out; have := HM8.out; have := HM9.out; have := HM10.out; omega) (own_type_ne HOY3_21.out HOG6_21.out (by decide) g hg))
      have HOG3_22 : Hid ((w22).ownsRow w.heap.size 132 2 (.slice oG3 ko.fs.length pG3) ko.fs.length (flatF ko.fs)) := owns_same HOG3_21.out (fun g hg => far g (owns_lt HOG3_21.out hg) (own_type_ne HOG3_21.out HOX6_21.out (by decide) g hg) (own_type_ne HOG3_21.out HOY6_21.out (by decide) g hg) (fun e => by have h1 := LOG6.out g e; have h2 := HIG3.out g hg; have := HM6.out; have := HM7.out; have := HM8.out; have := HM9.out; have := HM10.out; omega))
      have HOQ5_22 : Hid ((w22).ownsRow w.heap.size 132 2 (.slice oQ5 n5 pQ5) n5 (flatF (mkG Kc1 gs n5))) := owns_same HOQ5_21.out (fun g hg => far g (owns_lt HOQ5_21.out hg) (own_type_ne HOQ5_21.out HOX6_21.out (by decide) g hg) (own_type_ne HOQ5_21.out HOY6_21.out (by decide) g hg) (fun e => by have h1 := LOG6.out g e; have h2 := HIQ5.out g hg; have := HM9.out; have := HM10.out; omega))
      have HOQ8_22 : Hid ((w22).ownsRow w.heap.size 132 2 (.slice oQ8 n5 pQ8) n5 (flatF gs)) := owns_same HOQ8_21.out (fun g hg => far g (owns_lt HOQ8_21.out hg) (own_type_ne HOQ8_21.out HOX6_21.out (by decide) g hg) (own_type_ne HOQ8_21.out HOY6_21.out (by decide) g hg) (fun e => by have h1 := LOQ8.out g hg; have h2 := HIG6.out g e; have := HM11.out; have := HM12.out; have := HM13.out; have := HM14.out; have := HM15.out; have := HM16.out; have := HM17.out; omega))
      have HBv1_22 : Hid ((w22).heap[qv1]? = some (.cells #[.slice a1 n1 c1, .slice a2 n2 c2, .slice a3 n3 c3, .slice a4 n4 c4, .int .i64 nx, .int .i64 sq] 29)) := (far _ (Array.getElem?_eq_some_iff.1 HBv1_21.out).1 (fun e => own_ne HOX6_21.out HBv1_21.out (by decide) _ e rfl) (fun e => own_ne HOY6_21.out HBv1_21.out (by decide) _ e rfl) (fun e => own_ne HOG6_21.out HBv1_21.out (by decide) _ e rfl)).trans HBv1_21.out
      have HBv2_22 : Hid ((w22).heap[qv2]? = some (.cells #[.int .i64 mt, .string p, .slice aQ n5 cQ, .string bd] 44)) := (far _ (Array.getElem?_eq_some_iff.1 HBv2_21.out).1 (fun e => own_ne HOX6_21.out HBv2_21.out (by decide) _ e rfl) (fun e => own_ne HOY6_21.out HBv2_21.out (by decide) _ e rfl) (fun e => own_ne HOG6_21.out HBv2_21.out (by decide) _ e rfl)).trans HBv2_21.out
      have HBv3_22 : Hid ((w22).heap[qv3]? = some (.cells #[.string ko.p, .slice oX3 ko.xs.length pX3, .slice oY3 ko.ys.length pY3, .int .i64 ko.st, .slice oG3 ko.fs.length pG3, .string ko.b, .int .i64 ko.t] 50)) := (far _ (Array.getElem?_eq_some_iff.1 HBv3_21.out).1 (fun e => own_ne HOX6_21.out HBv3_21.out (by decide) _ e rfl) (fun e => own_ne HOY6_21.out HBv3_21.out (by decide) _ e rfl) (fun e => own_ne HOG6_21.out HBv3_21.out (by decide) _ e rfl)).trans HBv3_21.out
      have HBv4_22 : Hid ((w22).heap[qv4]? = some (.cells #[(.slice oC4 sa.cs.length pC4), (.slice oP4 sa.ws.length pP4), (.slice oK4 kv4.length pK4), (.slice oB4 sa.bl.length pB4), .int .i64 sa.nx, .int .i64 sa.sq] 38)) := (far _ (Array.getElem?_eq_some_iff.1 HBv4_21.out).1 (fun e => own_ne HOX6_21.out HBv4_21.out (by decide) _ e rfl) (fun e => own_ne HOY6_21.out HBv4_21.out (by decide) _ e rfl) (fun e => own_ne HOG6_21.out HBv4_21.out (by decide) _ e rfl)).trans HBv4_21.out
      have HBv5_22 : Hid ((w22).heap[qv5]? = some (.cells #[.int .i64 mt, .string p, .slice oQ5 n5 pQ5, .string bd] 54)) := (far _ (Array.getElem?_eq_some_iff.1 HBv5_21.out).1 (fun e => own_ne HOX6_21.out HBv5_21.out (by decide) _ e rfl) (fun e => own_ne HOY6_21.out HBv5_21.out (by decide) _ e rfl) (fun e => own_ne HOG6_21.out HBv5_21.out (by decide) _ e rfl)).trans HBv5_21.out
      have HBv6_22 : Hid ((w22).heap[qv6]? = some (.cells #[.string ko.p, .slice oX6 ko.xs.length pX6, .slice oY6 ko.ys.length pY6, .int .i64 ko.st, .slice oG6 ko.fs.length pG6, .string ko.b, .int .i64 ko.t] 50)) := (far _ (Array.getElem?_eq_some_iff.1 HBv6_21.out).1 (fun e => own_ne HOX6_21.out HBv6_21.out (by decide) _ e rfl) (fun e => own_ne HOY6_21.out HBv6_21.out (by decide) _ e rfl) (fun e => own_ne HOG6_21.out HBv6_21.out (by decide) _ e rfl)).trans HBv6_21.out
      have HOX6_22 : Hid ((w22).ownsRow w.heap.size 9 1 (.slice oX6 ko.xs.length pX6) ko.xs.length ((mkT 1 ko.xs ko.xs.length).map Value.string)) := mk0
      have HOY6_22 : Hid ((w22).ownsRow w.heap.size 9 1 (.slice oY6 ko.ys.length pY6) ko.ys.length ((mkT (1 + ko.xs.length) ko.ys ko.ys.length).map Value.string)) := mk1
      have HOG6_22 : Hid ((w22).ownsRow w.heap.size 132 2 (.slice oG6 ko.fs.length pG6) ko.fs.length (flatF (mkG (1 + ko.xs.length + ko.ys.length) ko.fs ko.fs.length))) := mk2
      clear hb21 HOX3_21 HOY3_21 HOG3_21 HOQ5_21 HOX6_21 HOY6_21 HOG6_21 HOQ8_21 HBv1_21 HBv2_21 HBv3_21 HBv4_21 HBv5_21 HBv6_21 mk0 mk1 mk2 bm far
      clear cv6_0 cv6_1 cv6_2 cv6_3 cv6_4 cv6_5 cv6_6
      have cv6_0 : (w22).cell? ⟨qv6, 0, none⟩ = some (.string ko.p) := (cell_of HBv6_22.out 0).trans rfl
      have cv6_1 : (w22).cell? ⟨qv6, 1, none⟩ = some (.slice oX6 ko.xs.length pX6) := (cell_of HBv6_22.out 1).trans rfl
      have cv6_2 : (w22).cell? ⟨qv6, 2, none⟩ = some (.slice oY6 ko.ys.length pY6) := (cell_of HBv6_22.out 2).trans rfl
      have cv6_3 : (w22).cell? ⟨qv6, 3, none⟩ = some (.int .i64 ko.st) := (cell_of HBv6_22.out 3).trans rfl
      have cv6_4 : (w22).cell? ⟨qv6, 4, none⟩ = some (.slice oG6 ko.fs.length pG6) := (cell_of HBv6_22.out 4).trans rfl
      have cv6_5 : (w22).cell? ⟨qv6, 5, none⟩ = some (.string ko.b) := (cell_of HBv6_22.out 5).trans rfl
      have cv6_6 : (w22).cell? ⟨qv6, 6, none⟩ = some (.int .i64 ko.t) := (cell_of HBv6_22.out 6).trans rfl
      go_wp2_with fail
      refine (heldObj_any ko.p ko.xs.length (mkT 1 ko.xs ko.xs.length) ko.ys.length (mkT (1 + ko.xs.length) ko.ys ko.ys.length) ko.st ko.fs.length (mkG (1 + ko.xs.length + ko.ys.length) ko.fs ko.fs.length) ko.b ko.t _ _ _ _ _ ⟨HOX6_22.out, HOY6_22.out, HOG6_22.out, AP6.out⟩ 1 (by omega) (by have := HLV.out; omega) (fun j hj => mkT_at 1 ko.xs j hj _ hj) (fun j hj => mkT_at (1 + ko.xs.length) ko.ys j hj _ hj) (fun j hj => mkG_at (1 + ko.xs.length + ko.ys.length) ko.fs j ko.fs.length (Nat.le_refl _) hj)).mono ?_
      rintro e w23 ⟨rfl, bw⟩
      have hb23 := hbt hb22 bw
      have HOX3_23 := hown HOX3_22 bw
      have HOY3_23 := hown HOY3_22 bw
      have HOG3_23 := hown HOG3_22 bw
      have HOQ5_23 := hown HOQ5_22 bw
      have HOX6_23 := hown HOX6_22 bw
      have HOY6_23 := hown HOY6_22 bw
      have HOG6_23 := hown HOG6_22 bw
      have HOQ8_23 := hown HOQ8_22 bw
      have HBv1_23 := hblk HBv1_22 bw
      have HBv2_23 := hblk HBv2_22 bw
      have HBv3_23 := hblk HBv3_22 bw
      have HBv4_23 := hblk HBv4_22 bw
      have HBv5_23 := hblk HBv5_22 bw
      have HBv6_23 := hblk HBv6_22 bw
      clear hb22 HOX3_22 HOY3_22 HOG3_22 HOQ5_22 HOX6_22 HOY6_22 HOG6_22 HOQ8_22 HBv1_22 HBv2_22 HBv3_22 HBv4_22 HBv5_22 HBv6_22 bw
      have hkh9 : ¬ (((1 + ko.xs.length + ko.ys.length + 2 * ko.fs.length : Nat) : Int) < 0) := by omega
      clear cv6_0 cv6_1 cv6_2 cv6_3 cv6_4 cv6_5 cv6_6
      go_upto_region 31 with fail
      have HSS : Hid (∀ W, Below w23.heap.size w23 W → W.heap[qv1]? = some (.cells #[.slice a1 n1 c1, .slice a2 n2 c2, .slice a3 n3 c3, .slice a4 n4 c4, .int .i64 nx, .int .i64 sq] 29) ∧ W.heap[qv2]? = some (.cells #[.int .i64 mt, .string p, .slice aQ n5 cQ, .string bd] 44)) := fun W h => ⟨blk_below HBv1_23.out h, blk_below HBv2_23.out h⟩
      go_cut [15, 16] (fun sx sx16 wx => ∃ (q : Nat) (oX12 : Option Addr) (pX12 : Nat) (oY12 : Option Addr) (pY12 : Nat) (oG12 : Option Addr) (pG12 : Nat), sx = .pointer (some ⟨q, 0, none⟩) ∧ sx16 = .bool fb ∧ Hid (Below w23.heap.size w23 wx ∧ wx.heap[q]? = some (.cells #[.string ko.p, .slice oX12 ko.xs.length pX12, .slice oY12 ko.ys.length pY12, .int .i64 ko.st, .slice oG12 ko.fs.length pG12, .string ko.b, .int .i64 ko.t] 50) ∧ w23.heap.size ≤ q ∧ (wx).ownsRow w23.heap.size 9 1 (.slice oX12 ko.xs.length pX12) ko.xs.length (ko.xs.map Value.string) ∧ (wx).ownsRow w23.heap.size 9 1 (.slice oY12 ko.ys.length pY12) ko.ys.length (ko.ys.map Value.string) ∧ (wx).ownsRow w23.heap.size 132 2 (.slice oG12 ko.fs.length pG12) ko.fs.length (flatF ko.fs) ∧ (∀ g, (Value.ownBlock (.slice oX12 ko.xs.length pX12)) = some g → (Value.ownBlock (.slice oY12 ko.ys.length pY12)) ≠ some g)))
      case first =>
        refine wp_region_held_drew (S := fun W => W.heap[qv1]? = some (.cells #[.slice a1 n1 c1, .slice a2 n2 c2, .slice a3 n3 c3, .slice a4 n4 c4, .int .i64 nx, .int .i64 sq] 29) ∧ W.heap[qv2]? = some (.cells #[.int .i64 mt, .string p, .slice aQ n5 cQ, .string bd] 44)) (by kernel_rfl) (HSS.out _ (Below.refl _ _).drew) (fun _ => ?_)
        obtain ⟨w24, hX⟩ : ∃ X, X = w23.drew := ⟨_, rfl⟩
        have bw : Below w23.heap.size w23 w24 := by rw [hX]; exact (Below.refl _ _).drew
        rw [← hX]
        have hb24 := hbt hb23 bw
        have HM24 : Hid ((w23).heap.size ≤ (w24).heap.size) := bw.size
        have HOX3_24 := hown HOX3_23 bw
        have HOY3_24 := hown HOY3_23 bw
        have HOG3_24 := hown HOG3_23 bw
        have HOQ5_24 := hown HOQ5_23 bw
        have HOX6_24 := hown HOX6_23 bw
        have HOY6_24 := hown HOY6_23 bw
        have HOG6_24 := hown HOG6_23 bw
        have HOQ8_24 := hown HOQ8_23 bw
        have HBv1_24 := hblk HBv1_23 bw
        have HBv2_24 := hblk HBv2_23 bw
        have HBv3_24 := hblk HBv3_23 bw
        have HBv4_24 := hblk HBv4_23 bw
        have HBv5_24 := hblk HBv5_23 bw
        have HBv6_24 := hblk HBv6_23 bw
        have HX_24 : Hid (Below w23.heap.size w23 w24) := bw
        clear bw hX
        refine tkL 0 (.agg #[.slice a1 n1 c1, .slice a2 n2 c2, .slice a3 n3 c3, .slice a4 n4 c4, .int .i64 nx, .int .i64 sq]) 95 rfl rfl (Or.inl ⟨by rfl, by intro W hW; obtain ⟨hhv1, hhv2⟩ := hW; have y0 := (cell_of hhv1 0).trans rfl; have y1 := (cell_of hhv1 1).trans rfl; have y2 := (cell_of hhv1 2).trans rfl; have y3 := (cell_of hhv1 3).trans rfl; have y4 := (cell_of hhv1 4).trans rfl; have y5 := (cell_of hhv1 5).trans rfl; go_simp⟩) (HSS.out _ HX_24.out) ?_
        go_frame
        refine tkL 2 (.agg #[.int .i64 mt, .string p, .slice aQ n5 cQ, .string bd]) 97 rfl rfl (Or.inl ⟨by rfl, by intro W hW; obtain ⟨hhv1, hhv2⟩ := hW; have y0 := (cell_of hhv2 0).trans rfl; have y1 := (cell_of hhv2 1).trans rfl; have y2 := (cell_of hhv2 2).trans rfl; have y3 := (cell_of hhv2 3).trans rfl; go_simp⟩) (HSS.out _ HX_24.out) ?_
        go_frame
        refine wpAnyH_ready (rs := [1, 8]) (by kernel_rfl) (by simp) ?_
        refine AllReadyH.cons rfl (fun K hK => ?_) (AllReadyH.cons rfl (fun K hK => ?_) AllReadyH.nil)
        · go_simp
          refine (HTO.out _ hb24).mono ?_
          rintro e w25 ⟨va, vb, vc, vd, kv10, rfl, hso, bw⟩
          obtain ⟨oC10, pC10, rfl⟩ := slice_of_owns hso.disk.cells
          obtain ⟨oP10, pP10, rfl⟩ := slice_of_owns hso.disk.pend
          obtain ⟨oK10, pK10, rfl⟩ := hso.kept.len
          obtain ⟨oB10, pB10, rfl⟩ := slice_of_owns hso.bans
          obtain ⟨R10, hR10⟩ : ∃ R, R = shAll (.slice oC10 sa.cs.length pC10) (.slice oP10 sa.ws.length pP10) (.slice oK10 kv10.length pK10) (.slice oB10 sa.bl.length pB10) kv10 sa.cs sa.ws sa.bl := ⟨_, rfl⟩
          obtain ⟨b10, hbq10⟩ : ∃ b, b = (w24).heap.size := ⟨_, rfl⟩
          obtain ⟨t10, htq10⟩ : ∃ t, t = (w25).heap.size := ⟨_, rfl⟩
          have hbk10 := hb24.size
          have hb25 := hbt hb24 bw
          have HM25 : Hid ((w24).heap.size ≤ (w25).heap.size) := bw.size
          have HOX3_25 := hown HOX3_24 bw
          have HOY3_25 := hown HOY3_24 bw
          have HOG3_25 := hown HOG3_24 bw
          have HOQ5_25 := hown HOQ5_24 bw
          have HOX6_25 := hown HOX6_24 bw
          have HOY6_25 := hown HOY6_24 bw
          have HOG6_25 := hown HOG6_24 bw
          have HOQ8_25 := hown HOQ8_24 bw
          have HBv1_25 := hblk HBv1_24 bw
          have HBv2_25 := hblk HBv2_24 bw
          have HBv3_25 := hblk HBv3_24 bw
          have HBv4_25 := hblk HBv4_24 bw
          have HBv5_25 := hblk HBv5_24 bw
          have HBv6_25 := hblk HBv6_24 bw
          clear hb24 HOX3_24 HOY3_24 HOG3_24 HOQ5_24 HOX6_24 HOY6_24 HOG6_24 HOQ8_24 HBv1_24 HBv2_24 HBv3_24 HBv4_24 HBv5_24 HBv6_24
          have ES10_25 : Hid (RowsO (w25) b10 (R10)) := by show RowsO _ _ _; rw [hbq10, hR10]; exact hso.1
          have HKM10 : Hid (kv10.map (·.1) = sa.ks) := hso.2
          have HU10 : Hid (∀ r ∈ R10, ∀ g, r.v.ownBlock = some g → g < t10) := fun r hr g hg => by rw [htq10]; rw [hR10] at hr; exact hso.1.lt hr hg
          have HRQ10 : Hid (R10 = shAll (.slice oC10 sa.cs.length pC10) (.slice oP10 sa.ws.length pP10) (.slice oK10 kv10.length pK10) (.slice oB10 sa.bl.length pB10) kv10 sa.cs sa.ws sa.bl) := hR10
          have HTY10 : Hid (NoT R10) := fun T h1 h2 h3 h4 h5 r hr => by rw [hR10] at hr; exact shAll_T T h1 h2 h3 h4 h5 r hr
          clear hR10
          have HBW10 : Hid (b10 ≥ w.heap.size) := by show _ ≤ _; rw [hbq10]; exact hbk10
          have HBK10 : Hid (b10 = w24.heap.size) := hbq10
          have HTK10 : Hid (t10 = w25.heap.size) := htq10
          clear hso hbq10 htq10 hbk10
          have HX_25 : Hid (Below w23.heap.size w23 w25) := HX_24.out.trans (bw.mono HX_24.out.size)
          refine hK.out _ _ (HSS.out _ HX_25.out) (fun _ => ?_)
          clear hK K bw HX_24
          refine wpAnyH_ready (rs := [3, 8]) (by kernel_rfl) (by simp) ?_
          refine AllReadyH.cons rfl (fun K hK => ?_) (AllReadyH.cons rfl (fun K hK => ?_) AllReadyH.nil)
          · go_simp
            refine (toReq_any mt p aQ n5 cQ bd gs w.heap.size _ (HA5.out _ hb25) hb25.size hm5).mono ?_
            rintro e w26 ⟨vv, rfl, ownQ11, bw⟩
            obtain ⟨oQ11, pQ11, rfl⟩ := slice_of_owns ownQ11
            have hb26 := hbt hb25 bw
            have HM26 : Hid ((w25).heap.size ≤ (w26).heap.size) := bw.size
            have HOX3_26 := hown HOX3_25 bw
            have HOY3_26 := hown HOY3_25 bw
            have HOG3_26 := hown HOG3_25 bw
            have HOQ5_26 := hown HOQ5_25 bw
            have HOX6_26 := hown HOX6_25 bw
            have HOY6_26 := hown HOY6_25 bw
            have HOG6_26 := hown HOG6_25 bw
            have HOQ8_26 := hown HOQ8_25 bw
            have HBv1_26 := hblk HBv1_25 bw
            have HBv2_26 := hblk HBv2_25 bw
            have HBv3_26 := hblk HBv3_25 bw
            have HBv4_26 := hblk HBv4_25 bw
            have HBv5_26 := hblk HBv5_25 bw
            have HBv6_26 := hblk HBv6_25 bw
            have ES10_26 : Hid (RowsO (w26) b10 (R10)) := ES10_25.out.below bw
            have HOQ11_26 : Hid ((w26).ownsRow w.heap.size 132 2 (.slice oQ11 n5 pQ11) n5 (flatF gs)) := owns_wide ownQ11 hb25.size
            have LOQ11 : Hid (∀ g, (Value.ownBlock (.slice oQ11 n5 pQ11)) = some g → (w25).heap.size ≤ g) := fun g hg => owns_ge ownQ11 hg
            have HIQ11 : Hid (∀ g, (Value.ownBlock (.slice oQ11 n5 pQ11)) = some g → g < (w26).heap.size) := fun g hg => owns_lt ownQ11 hg
            clear ownQ11
            clear hb25 HOX3_25 HOY3_25 HOG3_25 HOQ5_25 HOX6_25 HOY6_25 HOG6_25 HOQ8_25 HBv1_25 HBv2_25 HBv3_25 HBv4_25 HBv5_25 HBv6_25 ES10_25
            have HX_26 : Hid (Below w23.heap.size w23 w26) := HX_25.out.trans (bw.mono HX_25.out.size)
            refine hK.out _ _ (HSS.out _ HX_26.out) (fun _ => ?_)
            clear hK K bw HX_25
            refine wpAnyH_ready (rs := [4, 8]) (by kernel_rfl) (by simp) ?_
            refine AllReadyH.cons rfl (fun K hK => ?_) (AllReadyH.cons rfl (fun K hK => ?_) AllReadyH.nil)
            · go_simp
              refine (HIM.out _ hb26 _ _ _ _ _ _ (shelf_of HRQ10.out ES10_26.out HKM10.out) _ _ HOQ11_26.out).mono ?_
              rintro e w27 ⟨vv1, vv2, vv3, rfl, ⟨ownX12, ownY12, ownG12, ne12⟩, bw⟩
              obtain ⟨oX12, pX12, rfl⟩ := slice_of_owns ownX12
              obtain ⟨oY12, pY12, rfl⟩ := slice_of_owns ownY12
              obtain ⟨oG12, pG12, rfl⟩ := slice_of_owns ownG12
              have AP12 : Hid (∀ j, (Value.slice oX12 ko.xs.length pX12).ownBlock = some j → (Value.slice oY12 ko.ys.length pY12).ownBlock ≠ some j) := ne12
              clear ne12
              have hb27 := hbt hb26 bw
              have HM27 : Hid ((w26).heap.size ≤ (w27).heap.size) := bw.size
              have HOX3_27 := hown HOX3_26 bw
              have HOY3_27 := hown HOY3_26 bw
              have HOG3_27 := hown HOG3_26 bw
              have HOQ5_27 := hown HOQ5_26 bw
              have HOX6_27 := hown HOX6_26 bw
              have HOY6_27 := hown HOY6_26 bw
              have HOG6_27 := hown HOG6_26 bw
              have HOQ8_27 := hown HOQ8_26 bw
              have HOQ11_27 := hown HOQ11_26 bw
              have HBv1_27 := hblk HBv1_26 bw
              have HBv2_27 := hblk HBv2_26 bw
              have HBv3_27 := hblk HBv3_26 bw
              have HBv4_27 := hblk HBv4_26 bw
              have HBv5_27 := hblk HBv5_26 bw
              have HBv6_27 := hblk HBv6_26 bw
              have ES10_27 : Hid (RowsO (w27) b10 (R10)) := ES10_26.out.below bw
              have HOX12_27 : Hid ((w27).ownsRow w.heap.size 9 1 (.slice oX12 ko.xs.length pX12) ko.xs.length (ko.xs.map Value.string)) := owns_wide ownX12 hb26.size
              have LOX12 : Hid (∀ g, (Value.ownBlock (.slice oX12 ko.xs.length pX12)) = some g → (w26).heap.size ≤ g) := fun g hg => owns_ge ownX12 hg
              have HIX12 : Hid (∀ g, (Value.ownBlock (.slice oX12 ko.xs.length pX12)) = some g → g < (w27).heap.size) := fun g hg => owns_lt ownX12 hg
              clear ownX12
              have HOY12_27 : Hid ((w27).ownsRow w.heap.size 9 1 (.slice oY12 ko.ys.length pY12) ko.ys.length (ko.ys.map Value.string)) := owns_wide ownY12 hb26.size
              have LOY12 : Hid (∀ g, (Value.ownBlock (.slice oY12 ko.ys.length pY12)) = some g → (w26).heap.size ≤ g) := fun g hg => owns_ge ownY12 hg
              have HIY12 : Hid (∀ g, (Value.ownBlock (.slice oY12 ko.ys.length pY12)) = some g → g < (w27).heap.size) := fun g hg => owns_lt ownY12 hg
              clear ownY12
              have HOG12_27 : Hid ((w27).ownsRow w.heap.size 132 2 (.slice oG12 ko.fs.length pG12) ko.fs.length (flatF ko.fs)) := owns_wide ownG12 hb26.size
              have LOG12 : Hid (∀ g, (Value.ownBlock (.slice oG12 ko.fs.length pG12)) = some g → (w26).heap.size ≤ g) := fun g hg => owns_ge ownG12 hg
              have HIG12 : Hid (∀ g, (Value.ownBlock (.slice oG12 ko.fs.length pG12)) = some g → g < (w27).heap.size) := fun g hg => owns_lt ownG12 hg
              clear ownG12
              clear hb26 HOX3_26 HOY3_26 HOG3_26 HOQ5_26 HOX6_26 HOY6_26 HOG6_26 HOQ8_26 HOQ11_26 HBv1_26 HBv2_26 HBv3_26 HBv4_26 HBv5_26 HBv6_26 ES10_26
              have HX_27 : Hid (Below w23.heap.size w23 w27) := HX_26.out.trans (bw.mono HX_26.out.size)
              have HRXX12_27 : Hid ((w27).ownsRow w23.heap.size 9 1 (.slice oX12 ko.xs.length pX12) ko.xs.length (ko.xs.map Value.string)) := owns_lift HOX12_27.out (fun g hg => Nat.le_trans HX_26.out.size (LOX12.out g hg))
              have HRXY12_27 : Hid ((w27).ownsRow w23.heap.size 9 1 (.slice oY12 ko.ys.length pY12) ko.ys.length (ko.ys.map Value.string)) := owns_lift HOY12_27.out (fun g hg => Nat.le_trans HX_26.out.size (LOY12.out g hg))
              have HRXG12_27 : Hid ((w27).ownsRow w23.heap.size 132 2 (.slice oG12 ko.fs.length pG12) ko.fs.length (flatF ko.fs)) := owns_lift HOG12_27.out (fun g hg => Nat.le_trans HX_26.out.size (LOG12.out g hg))
              refine hK.out _ _ (HSS.out _ HX_27.out) (fun _ => ?_)
              clear hK K bw HX_26
              refine tkP 5 (.tuple #[.agg #[.string ko.p, .slice oX12 ko.xs.length pX12, .slice oY12 ko.ys.length pY12, .int .i64 ko.st, .slice oG12 ko.fs.length pG12, .string ko.b, .int .i64 ko.t], .bool fb]) 94 rfl rfl (HSS.out _ HX_27.out) ?_
              go_frame
              refine tkP 6 (.agg #[.string ko.p, .slice oX12 ko.xs.length pX12, .slice oY12 ko.ys.length pY12, .int .i64 ko.st, .slice oG12 ko.fs.length pG12, .string ko.b, .int .i64 ko.t]) 100 rfl rfl (HSS.out _ HX_27.out) ?_
              go_frame
              refine tkP 7 (.bool fb) 101 rfl rfl (HSS.out _ HX_27.out) ?_
              go_frame
              refine wpAnyH_ready (rs := [8]) (by kernel_rfl) (by simp) ?_
              refine AllReadyH.cons rfl (fun K hK => ?_) AllReadyH.nil
              go_simp
              have HXA : Hid (Below w23.heap.size w23 (w27.alloc (.cells #[.string ⟨#[]⟩, .slice none 0 0, .slice none 0 0, .int .i64 0, .slice none 0 0, .string ⟨#[]⟩, .int .i64 0] 50))) := HX_27.out.alloc HX_27.out.size _
              refine hK.out _ _ (HSS.out _ HXA.out) (fun _ => ?_)
              clear hK K HXA
              obtain ⟨pa, ho⟩ : ∃ o, o = w27.heap.size := ⟨_, rfl⟩
              obtain ⟨w28, hXj⟩ : ∃ X, X = w27.alloc (.cells #[.string ⟨#[]⟩, .slice none 0 0, .slice none 0 0, .int .i64 0, .slice none 0 0, .string ⟨#[]⟩, .int .i64 0] 50) := ⟨_, rfl⟩
              rw [← ho, ← hXj]
              have HGA : Hid (w23.heap.size ≤ pa) := by show _ ≤ _; rw [ho]; exact HX_27.out.size
              have bw : Below w27.heap.size w27 w28 := by rw [hXj]; exact (Below.refl _ _).alloc (Nat.le_refl _) _
              have hb28 := hbt hb27 bw
              have HM28 : Hid ((w27).heap.size ≤ (w28).heap.size) := bw.size
              have HOX3_28 := hown HOX3_27 bw
              have HOY3_28 := hown HOY3_27 bw
              have HOG3_28 := hown HOG3_27 bw
              have HOQ5_28 := hown HOQ5_27 bw
              have HOX6_28 := hown HOX6_27 bw
              have HOY6_28 := hown HOY6_27 bw
              have HOG6_28 := hown HOG6_27 bw
              have HOQ8_28 := hown HOQ8_27 bw
              have HOQ11_28 := hown HOQ11_27 bw
              have HOX12_28 := hown HOX12_27 bw
              have HOY12_28 := hown HOY12_27 bw
              have HOG12_28 := hown HOG12_27 bw
              have HBv1_28 := hblk HBv1_27 bw
              have HBv2_28 := hblk HBv2_27 bw
              have HBv3_28 := hblk HBv3_27 bw
              have HBv4_28 := hblk HBv4_27 bw
              have HBv5_28 := hblk HBv5_27 bw
              have HBv6_28 := hblk HBv6_27 bw
              have ES10_28 : Hid (RowsO (w28) b10 (R10)) := ES10_27.out.below bw
              have HX_28 : Hid (Below w23.heap.size w23 w28) := HX_27.out.trans (bw.mono HX_27.out.size)
              have HRXX12_28 : Hid ((w28).ownsRow w23.heap.size 9 1 (.slice oX12 ko.xs.length pX12) ko.xs.length (ko.xs.map Value.string)) := owns_below HRXX12_27.out bw (fun g hg => owns_lt HRXX12_27.out hg)
              have HRXY12_28 : Hid ((w28).ownsRow w23.heap.size 9 1 (.slice oY12 ko.ys.length pY12) ko.ys.length (ko.ys.map Value.string)) := owns_below HRXY12_27.out bw (fun g hg => owns_lt HRXY12_27.out hg)
              have HRXG12_28 : Hid ((w28).ownsRow w23.heap.size 132 2 (.slice oG12 ko.fs.length pG12) ko.fs.length (flatF ko.fs)) := owns_below HRXG12_27.out bw (fun g hg => owns_lt HRXG12_27.out hg)
              have HPA_28 : Hid (w28.heap[pa]? = some (.cells #[.string ⟨#[]⟩, .slice none 0 0, .slice none 0 0, .int .i64 0, .slice none 0 0, .string ⟨#[]⟩, .int .i64 0] 50)) := by show _ = _; rw [hXj, ho]; exact heap_alloc_new _ _
              clear hb27 HOX3_27 HOY3_27 HOG3_27 HOQ5_27 HOX6_27 HOY6_27 HOG6_27 HOQ8_27 HOQ11_27 HOX12_27 HOY12_27 HOG12_27 HBv1_27 HBv2_27 HBv3_27 HBv4_27 HBv5_27 HBv6_27 ES10_27 bw ho hXj HX_27
              refine wpAnyH_ready (rs := [9]) (by kernel_rfl) (by simp) ?_
              refine AllReadyH.cons rfl (fun K hK => ?_) AllReadyH.nil
              have ce0 : w28.cell? ⟨pa, 0, none⟩ = some (.string ⟨#[]⟩) := (cell_of HPA_28.out 0).trans rfl
              have fe0 : w28.frozen? ⟨pa, 0, none⟩ = false := frozen_of HPA_28.out 0
              have ce1 : w28.cell? ⟨pa, 1, none⟩ = some (.slice none 0 0) := (cell_of HPA_28.out 1).trans rfl
              have fe1 : w28.frozen? ⟨pa, 1, none⟩ = false := frozen_of HPA_28.out 1
              have ce2 : w28.cell? ⟨pa, 2, none⟩ = some (.slice none 0 0) := (cell_of HPA_28.out 2).trans rfl
              have fe2 : w28.frozen? ⟨pa, 2, none⟩ = false := frozen_of HPA_28.out 2
              have ce3 : w28.cell? ⟨pa, 3, none⟩ = some (.int .i64 0) := (cell_of HPA_28.out 3).trans rfl
              have fe3 : w28.frozen? ⟨pa, 3, none⟩ = false := frozen_of HPA_28.out 3
              have ce4 : w28.cell? ⟨pa, 4, none⟩ = some (.slice none 0 0) := (cell_of HPA_28.out 4).trans rfl
              have fe4 : w28.frozen? ⟨pa, 4, none⟩ = false := frozen_of HPA_28.out 4
              have ce5 : w28.cell? ⟨pa, 5, none⟩ = some (.string ⟨#[]⟩) := (cell_of HPA_28.out 5).trans rfl
              have fe5 : w28.frozen? ⟨pa, 5, none⟩ = false := frozen_of HPA_28.out 5
              have ce6 : w28.cell? ⟨pa, 6, none⟩ = some (.int .i64 0) := (cell_of HPA_28.out 6).trans rfl
              have fe6 : w28.frozen? ⟨pa, 6, none⟩ = false := frozen_of HPA_28.out 6
              obtain ⟨w29, hY⟩ : ∃ Y, Y = (((((((w28.setCell ⟨pa, 0, none⟩ (.string ko.p)).setCell ⟨pa, 1, none⟩ (.slice oX12 ko.xs.length pX12)).setCell ⟨pa, 2, none⟩ (.slice oY12 ko.ys.length pY12)).setCell ⟨pa, 3, none⟩ (.int .i64 ko.st)).setCell ⟨pa, 4, none⟩ (.slice oG12 ko.fs.length pG12)).setCell ⟨pa, 5, none⟩ (.string ko.b)).setCell ⟨pa, 6, none⟩ (.int .i64 ko.t)) := ⟨_, rfl⟩
              have HY : Hid ((((((((w28.setCell ⟨pa, 0, none⟩ (.string ko.p)).setCell ⟨pa, 1, none⟩ (.slice oX12 ko.xs.length pX12)).setCell ⟨pa, 2, none⟩ (.slice oY12 ko.ys.length pY12)).setCell ⟨pa, 3, none⟩ (.int .i64 ko.st)).setCell ⟨pa, 4, none⟩ (.slice oG12 ko.fs.length pG12)).setCell ⟨pa, 5, none⟩ (.string ko.b)).setCell ⟨pa, 6, none⟩ (.int .i64 ko.t)) = w29) := hY.symm
              have HX_29 : Hid (Below w23.heap.size w23 w29) := by show Below _ _ _; rw [hY]; exact (((((((HX_28.out.setCell (p := ⟨pa, 0, none⟩) HGA.out _).setCell (p := ⟨pa, 1, none⟩) HGA.out _).setCell (p := ⟨pa, 2, none⟩) HGA.out _).setCell (p := ⟨pa, 3, none⟩) HGA.out _).setCell (p := ⟨pa, 4, none⟩) HGA.out _).setCell (p := ⟨pa, 5, none⟩) HGA.out _).setCell (p := ⟨pa, 6, none⟩) HGA.out _)
              have HPA_29 : Hid (w29.heap[pa]? = some (.cells #[.string ko.p, .slice oX12 ko.xs.length pX12, .slice oY12 ko.ys.length pY12, .int .i64 ko.st, .slice oG12 ko.fs.length pG12, .string ko.b, .int .i64 ko.t] 50)) := by show _ = _; rw [hY]; have h := (heap_set _ pa 6 _ _ _ (.int .i64 ko.t) (heap_set _ pa 5 _ _ _ (.string ko.b) (heap_set _ pa 4 _ _ _ (.slice oG12 ko.fs.length pG12) (heap_set _ pa 3 _ _ _ (.int .i64 ko.st) (heap_set _ pa 2 _ _ _ (.slice oY12 ko.ys.length pY12) (heap_set _ pa 1 _ _ _ (.slice oX12 ko.xs.length pX12) (heap_set _ pa 0 _ _ _ (.string ko.p) HPA_28.out))))))); simpa using h
              have HRXX12_29 : Hid ((w29).ownsRow w23.heap.size 9 1 (.slice oX12 ko.xs.length pX12) ko.xs.length (ko.xs.map Value.string)) := by show World.ownsRow _ _ _ _ _ _ _; rw [hY]; exact owns_same HRXX12_28.out (fun g hg => by have hne := own_ne HRXX12_28.out HPA_28.out (by decide) g hg; rw [heap_setCell_other _ _ g _ hne, heap_setCell_other _ _ g _ hne, heap_setCell_other _ _ g _ hne, heap_setCell_other _ _ g _ hne, heap_setCell_other _ _ g _ hne, heap_setCell_other _ _ g _ hne, heap_setCell_other _ _ g _ hne])
              have HRXY12_29 : Hid ((w29).ownsRow w23.heap.size 9 1 (.slice oY12 ko.ys.length pY12) ko.ys.length (ko.ys.map Value.string)) := by show World.ownsRow _ _ _ _ _ _ _; rw [hY]; exact owns_same HRXY12_28.out (fun g hg => by have hne := own_ne HRXY12_28.out HPA_28.out (by decide) g hg; rw [heap_setCell_other _ _ g _ hne, heap_setCell_other _ _ g _ hne, heap_setCell_other _ _ g _ hne, heap_setCell_other _ _ g _ hne, heap_setCell_other _ _ g _ hne, heap_setCell_other _ _ g _ hne, heap_setCell_other _ _ g _ hne])
              have HRXG12_29 : Hid ((w29).ownsRow w23.heap.size 132 2 (.slice oG12 ko.fs.length pG12) ko.fs.length (flatF ko.fs)) := by show World.ownsRow _ _ _ _ _ _ _; rw [hY]; exact owns_same HRXG12_28.out (fun g hg => by have hne := own_ne HRXG12_28.out HPA_28.out (by decide) g hg; rw [heap_setCell_other _ _ g _ hne, heap_setCell_other _ _ g _ hne, heap_setCell_other _ _ g _ hne, heap_setCell_other _ _ g _ hne, heap_setCell_other _ _ g _ hne, heap_setCell_other _ _ g _ hne, heap_setCell_other _ _ g _ hne])
              have APXX12Y12 : Hid (∀ g, (Value.ownBlock (.slice oX12 ko.xs.length pX12)) = some g → (Value.ownBlock (.slice oY12 ko.ys.length pY12)) ≠ some g) := AP12.out
              clear hY hb28 HOX3_28 HOY3_28 HOG3_28 HOQ5_28 HOX6_28 HOY6_28 HOG6_28 HOQ8_28 HOQ11_28 HOX12_28 HOY12_28 HOG12_28 HBv1_28 HBv2_28 HBv3_28 HBv4_28 HBv5_28 HBv6_28 ES10_28
              go_simp
              rw [HY.out]
              refine hK.out _ _ (HSS.out _ HX_29.out) (fun _ => ?_)
              clear hK K HY ce0 fe0 ce1 fe1 ce2 fe2 ce3 fe3 ce4 fe4 ce5 fe5 ce6 fe6
              refine tkP 10 (.bool fb) 16 rfl rfl (HSS.out _ HX_29.out) ?_
              go_frame
              refine wpAnyH_done (by kernel_rfl) ?_ _
              go_wp2_with fail
              go_meet
              exact ⟨pa, oX12, pX12, oY12, pY12, oG12, pG12, rfl, rfl, ⟨HX_29.out, HPA_29.out, HGA.out, HRXX12_29.out, HRXY12_29.out, HRXG12_29.out, APXX12Y12.out⟩⟩
            · go_simp
              have HXA : Hid (Below w23.heap.size w23 (w26.alloc (.cells #[.string ⟨#[]⟩, .slice none 0 0, .slice none 0 0, .int .i64 0, .slice none 0 0, .string ⟨#[]⟩, .int .i64 0] 50))) := HX_26.out.alloc HX_26.out.size _
              refine hK.out _ _ (HSS.out _ HXA.out) (fun _ => ?_)
              clear hK K HXA
              obtain ⟨pa, ho⟩ : ∃ o, o = w26.heap.size := ⟨_, rfl⟩
              obtain ⟨w27, hXj⟩ : ∃ X, X = w26.alloc (.cells #[.string ⟨#[]⟩, .slice none 0 0, .slice none 0 0, .int .i64 0, .slice none 0 0, .string ⟨#[]⟩, .int .i64 0] 50) := ⟨_, rfl⟩
              rw [← ho, ← hXj]
              have HGA : Hid (w23.heap.size ≤ pa) := by show _ ≤ _; rw [ho]; exact HX_26.out.size
              have bw : Below w26.heap.size w26 w27 := by rw [hXj]; exact (Below.refl _ _).alloc (Nat.le_refl _) _
              have hb27 := hbt hb26 bw
              have HM27 : Hid ((w26).heap.size ≤ (w27).heap.size) := bw.size
              have HOX3_27 := hown HOX3_26 bw
              have HOY3_27 := hown HOY3_26 bw
              have HOG3_27 := hown HOG3_26 bw
              have HOQ5_27 := hown HOQ5_26 bw
              have HOX6_27 := hown HOX6_26 bw
              have HOY6_27 := hown HOY6_26 bw
              have HOG6_27 := hown HOG6_26 bw
              have HOQ8_27 := hown HOQ8_26 bw
              have HOQ11_27 := hown HOQ11_26 bw
              have HBv1_27 := hblk HBv1_26 bw
              have HBv2_27 := hblk HBv2_26 bw
              have HBv3_27 := hblk HBv3_26 bw
              have HBv4_27 := hblk HBv4_26 bw
              have HBv5_27 := hblk HBv5_26 bw
              have HBv6_27 := hblk HBv6_26 bw
              have ES10_27 : Hid (RowsO (w27) b10 (R10)) := ES10_26.out.below bw
              have HX_27 : Hid (Below w23.heap.size w23 w27) := HX_26.out.trans (bw.mono HX_26.out.size)
              have HPA_27 : Hid (w27.heap[pa]? = some (.cells #[.string ⟨#[]⟩, .slice none 0 0, .slice none 0 0, .int .i64 0, .slice none 0 0, .string ⟨#[]⟩, .int .i64 0] 50)) := by show _ = _; rw [hXj, ho]; exact heap_alloc_new _ _
              clear hb26 HOX3_26 HOY3_26 HOG3_26 HOQ5_26 HOX6_26 HOY6_26 HOG6_26 HOQ8_26 HOQ11_26 HBv1_26 HBv2_26 HBv3_26 HBv4_26 HBv5_26 HBv6_26 ES10_26 bw ho hXj HX_26
              refine wpAnyH_ready (rs := [4]) (by kernel_rfl) (by simp) ?_
              refine AllReadyH.cons rfl (fun K hK => ?_) AllReadyH.nil
              go_simp
              refine (HIM.out _ hb27 _ _ _ _ _ _ (shelf_of HRQ10.out ES10_27.out HKM10.out) _ _ HOQ11_27.out).mono ?_
              rintro e w28 ⟨vv1, vv2, vv3, rfl, ⟨ownX12, ownY12, ownG12, ne12⟩, bw⟩
              obtain ⟨oX12, pX12, rfl⟩ := slice_of_owns ownX12
              obtain ⟨oY12, pY12, rfl⟩ := slice_of_owns ownY12
              obtain ⟨oG12, pG12, rfl⟩ := slice_of_owns ownG12
              have AP12 : Hid (∀ j, (Value.slice oX12 ko.xs.length pX12).ownBlock = some j → (Value.slice oY12 ko.ys.length pY12).ownBlock ≠ some j) := ne12
              clear ne12
              have hb28 := hbt hb27 bw
              have HM28 : Hid ((w27).heap.size ≤ (w28).heap.size) := bw.size
              have HOX3_28 := hown HOX3_27 bw
              have HOY3_28 := hown HOY3_27 bw
              have HOG3_28 := hown HOG3_27 bw
              have HOQ5_28 := hown HOQ5_27 bw
              have HOX6_28 := hown HOX6_27 bw
              have HOY6_28 := hown HOY6_27 bw
              have HOG6_28 := hown HOG6_27 bw
              have HOQ8_28 := hown HOQ8_27 bw
              have HOQ11_28 := hown HOQ11_27 bw
              have HBv1_28 := hblk HBv1_27 bw
              have HBv2_28 := hblk HBv2_27 bw
              have HBv3_28 := hblk HBv3_27 bw
              have HBv4_28 := hblk HBv4_27 bw
              have HBv5_28 := hblk HBv5_27 bw
              have HBv6_28 := hblk HBv6_27 bw
              have ES10_28 : Hid (RowsO (w28) b10 (R10)) := ES10_27.out.below bw
              have HOX12_28 : Hid ((w28).ownsRow w.heap.size 9 1 (.slice oX12 ko.xs.length pX12) ko.xs.length (ko.xs.map Value.string)) := owns_wide ownX12 hb27.size
              have LOX12 : Hid (∀ g, (Value.ownBlock (.slice oX12 ko.xs.length pX12)) = some g → (w27).heap.size ≤ g) := fun g hg => owns_ge ownX12 hg
              have HIX12 : Hid (∀ g, (Value.ownBlock (.slice oX12 ko.xs.length pX12)) = some g → g < (w28).heap.size) := fun g hg => owns_lt ownX12 hg
              clear ownX12
              have HOY12_28 : Hid ((w28).ownsRow w.heap.size 9 1 (.slice oY12 ko.ys.length pY12) ko.ys.length (ko.ys.map Value.string)) := owns_wide ownY12 hb27.size
              have LOY12 : Hid (∀ g, (Value.ownBlock (.slice oY12 ko.ys.length pY12)) = some g → (w27).heap.size ≤ g) := fun g hg => owns_ge ownY12 hg
              have HIY12 : Hid (∀ g, (Value.ownBlock (.slice oY12 ko.ys.length pY12)) = some g → g < (w28).heap.size) := fun g hg => owns_lt ownY12 hg
              clear ownY12
              have HOG12_28 : Hid ((w28).ownsRow w.heap.size 132 2 (.slice oG12 ko.fs.length pG12) ko.fs.length (flatF ko.fs)) := owns_wide ownG12 hb27.size
              have LOG12 : Hid (∀ g, (Value.ownBlock (.slice oG12 ko.fs.length pG12)) = some g → (w27).heap.size ≤ g) := fun g hg => owns_ge ownG12 hg
              have HIG12 : Hid (∀ g, (Value.ownBlock (.slice oG12 ko.fs.length pG12)) = some g → g < (w28).heap.size) := fun g hg => owns_lt ownG12 hg
              clear ownG12
              clear hb27 HOX3_27 HOY3_27 HOG3_27 HOQ5_27 HOX6_27 HOY6_27 HOG6_27 HOQ8_27 HOQ11_27 HBv1_27 HBv2_27 HBv3_27 HBv4_27 HBv5_27 HBv6_27 ES10_27
              have HX_28 : Hid (Below w23.heap.size w23 w28) := HX_27.out.trans (bw.mono HX_27.out.size)
              have HPA_28 : Hid (w28.heap[pa]? = some (.cells #[.string ⟨#[]⟩, .slice none 0 0, .slice none 0 0, .int .i64 0, .slice none 0 0, .string ⟨#[]⟩, .int .i64 0] 50)) := blk_below HPA_27.out bw
              have HRXX12_28 : Hid ((w28).ownsRow w23.heap.size 9 1 (.slice oX12 ko.xs.length pX12) ko.xs.length (ko.xs.map Value.string)) := owns_lift HOX12_28.out (fun g hg => Nat.le_trans HX_27.out.size (LOX12.out g hg))
              have HRXY12_28 : Hid ((w28).ownsRow w23.heap.size 9 1 (.slice oY12 ko.ys.length pY12) ko.ys.length (ko.ys.map Value.string)) := owns_lift HOY12_28.out (fun g hg => Nat.le_trans HX_27.out.size (LOY12.out g hg))
              have HRXG12_28 : Hid ((w28).ownsRow w23.heap.size 132 2 (.slice oG12 ko.fs.length pG12) ko.fs.length (flatF ko.fs)) := owns_lift HOG12_28.out (fun g hg => Nat.le_trans HX_27.out.size (LOG12.out g hg))
              refine hK.out _ _ (HSS.out _ HX_28.out) (fun _ => ?_)
              clear hK K bw HX_27
              refine tkP 5 (.tuple #[.agg #[.string ko.p, .slice oX12 ko.xs.length pX12, .slice oY12 ko.ys.length pY12, .int .i64 ko.st, .slice oG12 ko.fs.length pG12, .string ko.b, .int .i64 ko.t], .bool fb]) 94 rfl rfl (HSS.out _ HX_28.out) ?_
              go_frame
              refine tkP 6 (.agg #[.string ko.p, .slice oX12 ko.xs.length pX12, .slice oY12 ko.ys.length pY12, .int .i64 ko.st, .slice oG12 ko.fs.length pG12, .string ko.b, .int .i64 ko.t]) 100 rfl rfl (HSS.out _ HX_28.out) ?_
              go_frame
              refine tkP 7 (.bool fb) 101 rfl rfl (HSS.out _ HX_28.out) ?_
              go_frame
              refine wpAnyH_ready (rs := [9]) (by kernel_rfl) (by simp) ?_
              refine AllReadyH.cons rfl (fun K hK => ?_) AllReadyH.nil
              have ce0 : w28.cell? ⟨pa, 0, none⟩ = some (.string ⟨#[]⟩) := (cell_of HPA_28.out 0).trans rfl
              have fe0 : w28.frozen? ⟨pa, 0, none⟩ = false := frozen_of HPA_28.out 0
              have ce1 : w28.cell? ⟨pa, 1, none⟩ = some (.slice none 0 0) := (cell_of HPA_28.out 1).trans rfl
              have fe1 : w28.frozen? ⟨pa, 1, none⟩ = false := frozen_of HPA_28.out 1
              have ce2 : w28.cell? ⟨pa, 2, none⟩ = some (.slice none 0 0) := (cell_of HPA_28.out 2).trans rfl
              have fe2 : w28.frozen? ⟨pa, 2, none⟩ = false := frozen_of HPA_28.out 2
              have ce3 : w28.cell? ⟨pa, 3, none⟩ = some (.int .i64 0) := (cell_of HPA_28.out 3).trans rfl
              have fe3 : w28.frozen? ⟨pa, 3, none⟩ = false := frozen_of HPA_28.out 3
              have ce4 : w28.cell? ⟨pa, 4, none⟩ = some (.slice none 0 0) := (cell_of HPA_28.out 4).trans rfl
              have fe4 : w28.frozen? ⟨pa, 4, none⟩ = false := frozen_of HPA_28.out 4
              have ce5 : w28.cell? ⟨pa, 5, none⟩ = some (.string ⟨#[]⟩) := (cell_of HPA_28.out 5).trans rfl
              have fe5 : w28.frozen? ⟨pa, 5, none⟩ = false := frozen_of HPA_28.out 5
              have ce6 : w28.cell? ⟨pa, 6, none⟩ = some (.int .i64 0) := (cell_of HPA_28.out 6).trans rfl
              have fe6 : w28.frozen? ⟨pa, 6, none⟩ = false := frozen_of HPA_28.out 6
              obtain ⟨w29, hY⟩ : ∃ Y, Y = (((((((w28.setCell ⟨pa, 0, none⟩ (.string ko.p)).setCell ⟨pa, 1, none⟩ (.slice oX12 ko.xs.length pX12)).setCell ⟨pa, 2, none⟩ (.slice oY12 ko.ys.length pY12)).setCell ⟨pa, 3, none⟩ (.int .i64 ko.st)).setCell ⟨pa, 4, none⟩ (.slice oG12 ko.fs.length pG12)).setCell ⟨pa, 5, none⟩ (.string ko.b)).setCell ⟨pa, 6, none⟩ (.int .i64 ko.t)) := ⟨_, rfl⟩
              have HY : Hid ((((((((w28.setCell ⟨pa, 0, none⟩ (.string ko.p)).setCell ⟨pa, 1, none⟩ (.slice oX12 ko.xs.length pX12)).setCell ⟨pa, 2, none⟩ (.slice oY12 ko.ys.length pY12)).setCell ⟨pa, 3, none⟩ (.int .i64 ko.st)).setCell ⟨pa, 4, none⟩ (.slice oG12 ko.fs.length pG12)).setCell ⟨pa, 5, none⟩ (.string ko.b)).setCell ⟨pa, 6, none⟩ (.int .i64 ko.t)) = w29) := hY.symm
              have HX_29 : Hid (Below w23.heap.size w23 w29) := by show Below _ _ _; rw [hY]; exact (((((((HX_28.out.setCell (p := ⟨pa, 0, none⟩) HGA.out _).setCell (p := ⟨pa, 1, none⟩) HGA.out _).setCell (p := ⟨pa, 2, none⟩) HGA.out _).setCell (p := ⟨pa, 3, none⟩) HGA.out _).setCell (p := ⟨pa, 4, none⟩) HGA.out _).setCell (p := ⟨pa, 5, none⟩) HGA.out _).setCell (p := ⟨pa, 6, none⟩) HGA.out _)
              have HPA_29 : Hid (w29.heap[pa]? = some (.cells #[.string ko.p, .slice oX12 ko.xs.length pX12, .slice oY12 ko.ys.length pY12, .int .i64 ko.st, .slice oG12 ko.fs.length pG12, .string ko.b, .int .i64 ko.t] 50)) := by show _ = _; rw [hY]; have h := (heap_set _ pa 6 _ _ _ (.int .i64 ko.t) (heap_set _ pa 5 _ _ _ (.string ko.b) (heap_set _ pa 4 _ _ _ (.slice oG12 ko.fs.length pG12) (heap_set _ pa 3 _ _ _ (.int .i64 ko.st) (heap_set _ pa 2 _ _ _ (.slice oY12 ko.ys.length pY12) (heap_set _ pa 1 _ _ _ (.slice oX12 ko.xs.length pX12) (heap_set _ pa 0 _ _ _ (.string ko.p) HPA_28.out))))))); simpa using h
              have HRXX12_29 : Hid ((w29).ownsRow w23.heap.size 9 1 (.slice oX12 ko.xs.length pX12) ko.xs.length (ko.xs.map Value.string)) := by show World.ownsRow _ _ _ _ _ _ _; rw [hY]; exact owns_same HRXX12_28.out (fun g hg => by have hne := own_ne HRXX12_28.out HPA_28.out (by decide) g hg; rw [heap_setCell_other _ _ g _ hne, heap_setCell_other _ _ g _ hne, heap_setCell_other _ _ g _ hne, heap_setCell_other _ _ g _ hne, heap_setCell_other _ _ g _ hne, heap_setCell_other _ _ g _ hne, heap_setCell_other _ _ g _ hne])
              have HRXY12_29 : Hid ((w29).ownsRow w23.heap.size 9 1 (.slice oY12 ko.ys.length pY12) ko.ys.length (ko.ys.map Value.string)) := by show World.ownsRow _ _ _ _ _ _ _; rw [hY]; exact owns_same HRXY12_28.out (fun g hg => by have hne := own_ne HRXY12_28.out HPA_28.out (by decide) g hg; rw [heap_setCell_other _ _ g _ hne, heap_setCell_other _ _ g _ hne, heap_setCell_other _ _ g _ hne, heap_setCell_other _ _ g _ hne, heap_setCell_other _ _ g _ hne, heap_setCell_other _ _ g _ hne, heap_setCell_other _ _ g _ hne])
              have HRXG12_29 : Hid ((w29).ownsRow w23.heap.size 132 2 (.slice oG12 ko.fs.length pG12) ko.fs.length (flatF ko.fs)) := by show World.ownsRow _ _ _ _ _ _ _; rw [hY]; exact owns_same HRXG12_28.out (fun g hg => by have hne := own_ne HRXG12_28.out HPA_28.out (by decide) g hg; rw [heap_setCell_other _ _ g _ hne, heap_setCell_other _ _ g _ hne, heap_setCell_other _ _ g _ hne, heap_setCell_other _ _ g _ hne, heap_setCell_other _ _ g _ hne, heap_setCell_other _ _ g _ hne, heap_setCell_other _ _ g _ hne])
              have APXX12Y12 : Hid (∀ g, (Value.ownBlock (.slice oX12 ko.xs.length pX12)) = some g → (Value.ownBlock (.slice oY12 ko.ys.length pY12)) ≠ some g) := AP12.out
              clear hY hb28 HOX3_28 HOY3_28 HOG3_28 HOQ5_28 HOX6_28 HOY6_28 HOG6_28 HOQ8_28 HOQ11_28 HOX12_28 HOY12_28 HOG12_28 HBv1_28 HBv2_28 HBv3_28 HBv4_28 HBv5_28 HBv6_28 ES10_28
              go_simp
              rw [HY.out]
              refine hK.out _ _ (HSS.out _ HX_29.out) (fun _ => ?_)
              clear hK K HY ce0 fe0 ce1 fe1 ce2 fe2 ce3 fe3 ce4 fe4 ce5 fe5 ce6 fe6
              refine tkP 10 (.bool fb) 16 rfl rfl (HSS.out _ HX_29.out) ?_
              go_frame
              refine wpAnyH_done (by kernel_rfl) ?_ _
              go_wp2_with fail
              go_meet
              exact ⟨pa, oX12, pX12, oY12, pY12, oG12, pG12, rfl, rfl, ⟨HX_29.out, HPA_29.out, HGA.out, HRXX12_29.out, HRXY12_29.out, HRXG12_29.out, APXX12Y12.out⟩⟩
          · go_simp
            have HXA : Hid (Below w23.heap.size w23 (w25.alloc (.cells #[.string ⟨#[]⟩, .slice none 0 0, .slice none 0 0, .int .i64 0, .slice none 0 0, .string ⟨#[]⟩, .int .i64 0] 50))) := HX_25.out.alloc HX_25.out.size _
            refine hK.out _ _ (HSS.out _ HXA.out) (fun _ => ?_)
            clear hK K HXA
            obtain ⟨pa, ho⟩ : ∃ o, o = w25.heap.size := ⟨_, rfl⟩
            obtain ⟨w26, hXj⟩ : ∃ X, X = w25.alloc (.cells #[.string ⟨#[]⟩, .slice none 0 0, .slice none 0 0, .int .i64 0, .slice none 0 0, .string ⟨#[]⟩, .int .i64 0] 50) := ⟨_, rfl⟩
            rw [← ho, ← hXj]
            have HGA : Hid (w23.heap.size ≤ pa) := by show _ ≤ _; rw [ho]; exact HX_25.out.size
            have bw : Below w25.heap.size w25 w26 := by rw [hXj]; exact (Below.refl _ _).alloc (Nat.le_refl _) _
            have hb26 := hbt hb25 bw
            have HM26 : Hid ((w25).heap.size ≤ (w26).heap.size) := bw.size
            have HOX3_26 := hown HOX3_25 bw
            have HOY3_26 := hown HOY3_25 bw
            have HOG3_26 := hown HOG3_25 bw
            have HOQ5_26 := hown HOQ5_25 bw
            have HOX6_26 := hown HOX6_25 bw
            have HOY6_26 := hown HOY6_25 bw
            have HOG6_26 := hown HOG6_25 bw
            have HOQ8_26 := hown HOQ8_25 bw
            have HBv1_26 := hblk HBv1_25 bw
            have HBv2_26 := hblk HBv2_25 bw
            have HBv3_26 := hblk HBv3_25 bw
            have HBv4_26 := hblk HBv4_25 bw
            have HBv5_26 := hblk HBv5_25 bw
            have HBv6_26 := hblk HBv6_25 bw
            have ES10_26 : Hid (RowsO (w26) b10 (R10)) := ES10_25.out.below bw
            have HX_26 : Hid (Below w23.heap.size w23 w26) := HX_25.out.trans (bw.mono HX_25.out.size)
            have HPA_26 : Hid (w26.heap[pa]? = some (.cells #[.string ⟨#[]⟩, .slice none 0 0, .slice none 0 0, .int .i64 0, .slice none 0 0, .string ⟨#[]⟩, .int .i64 0] 50)) := by show _ = _; rw [hXj, ho]; exact heap_alloc_new _ _
            clear hb25 HOX3_25 HOY3_25 HOG3_25 HOQ5_25 HOX6_25 HOY6_25 HOG6_25 HOQ8_25 HBv1_25 HBv2_25 HBv3_25 HBv4_25 HBv5_25 HBv6_25 ES10_25 bw ho hXj HX_25
            refine wpAnyH_ready (rs := [3]) (by kernel_rfl) (by simp) ?_
            refine AllReadyH.cons rfl (fun K hK => ?_) AllReadyH.nil
            go_simp
            refine (toReq_any mt p aQ n5 cQ bd gs w.heap.size _ (HA5.out _ hb26) hb26.size hm5).mono ?_
            rintro e w27 ⟨vv, rfl, ownQ11, bw⟩
            obtain ⟨oQ11, pQ11, rfl⟩ := slice_of_owns ownQ11
            have hb27 := hbt hb26 bw
            have HM27 : Hid ((w26).heap.size ≤ (w27).heap.size) := bw.size
            have HOX3_27 := hown HOX3_26 bw
            have HOY3_27 := hown HOY3_26 bw
            have HOG3_27 := hown HOG3_26 bw
            have HOQ5_27 := hown HOQ5_26 bw
            have HOX6_27 := hown HOX6_26 bw
            have HOY6_27 := hown HOY6_26 bw
            have HOG6_27 := hown HOG6_26 bw
            have HOQ8_27 := hown HOQ8_26 bw
            have HBv1_27 := hblk HBv1_26 bw
            have HBv2_27 := hblk HBv2_26 bw
            have HBv3_27 := hblk HBv3_26 bw
            have HBv4_27 := hblk HBv4_26 bw
            have HBv5_27 := hblk HBv5_26 bw
            have HBv6_27 := hblk HBv6_26 bw
            have ES10_27 : Hid (RowsO (w27) b10 (R10)) := ES10_26.out.below bw
            have HOQ11_27 : Hid ((w27).ownsRow w.heap.size 132 2 (.slice oQ11 n5 pQ11) n5 (flatF gs)) := owns_wide ownQ11 hb26.size
            have LOQ11 : Hid (∀ g, (Value.ownBlock (.slice oQ11 n5 pQ11)) = some g → (w26).heap.size ≤ g) := fun g hg => owns_ge ownQ11 hg
            have HIQ11 : Hid (∀ g, (Value.ownBlock (.slice oQ11 n5 pQ11)) = some g → g < (w27).heap.size) := fun g hg => owns_lt ownQ11 hg
            clear ownQ11
            clear hb26 HOX3_26 HOY3_26 HOG3_26 HOQ5_26 HOX6_26 HOY6_26 HOG6_26 HOQ8_26 HBv1_26 HBv2_26 HBv3_26 HBv4_26 HBv5_26 HBv6_26 ES10_26
            have HX_27 : Hid (Below w23.heap.size w23 w27) := HX_26.out.trans (bw.mono HX_26.out.size)
            have HPA_27 : Hid (w27.heap[pa]? = some (.cells #[.string ⟨#[]⟩, .slice none 0 0, .slice none 0 0, .int .i64 0, .slice none 0 0, .string ⟨#[]⟩, .int .i64 0] 50)) := blk_below HPA_26.out bw
            refine hK.out _ _ (HSS.out _ HX_27.out) (fun _ => ?_)
            clear hK K bw HX_26
            refine wpAnyH_ready (rs := [4]) (by kernel_rfl) (by simp) ?_
            refine AllReadyH.cons rfl (fun K hK => ?_) AllReadyH.nil
            go_simp
            refine (HIM.out _ hb27 _ _ _ _ _ _ (shelf_of HRQ10.out ES10_27.out HKM10.out) _ _ HOQ11_27.out).mono ?_
            rintro e w28 ⟨vv1, vv2, vv3, rfl, ⟨ownX12, ownY12, ownG12, ne12⟩, bw⟩
            obtain ⟨oX12, pX12, rfl⟩ := slice_of_owns ownX12
            obtain ⟨oY12, pY12, rfl⟩ := slice_of_owns ownY12
            obtain ⟨oG12, pG12, rfl⟩ := slice_of_owns ownG12
            have AP12 : Hid (∀ j, (Value.slice oX12 ko.xs.length pX12).ownBlock = some j → (Value.slice oY12 ko.ys.length pY12).ownBlock ≠ some j) := ne12
            clear ne12
            have hb28 := hbt hb27 bw
            have HM28 : Hid ((w27).heap.size ≤ (w28).heap.size) := bw.size
            have HOX3_28 := hown HOX3_27 bw
            have HOY3_28 := hown HOY3_27 bw
            have HOG3_28 := hown HOG3_27 bw
            have HOQ5_28 := hown HOQ5_27 bw
            have HOX6_28 := hown HOX6_27 bw
            have HOY6_28 := hown HOY6_27 bw
            have HOG6_28 := hown HOG6_27 bw
            have HOQ8_28 := hown HOQ8_27 bw
            have HOQ11_28 := hown HOQ11_27 bw
            have HBv1_28 := hblk HBv1_27 bw
            have HBv2_28 := hblk HBv2_27 bw
            have HBv3_28 := hblk HBv3_27 bw
            have HBv4_28 := hblk HBv4_27 bw
            have HBv5_28 := hblk HBv5_27 bw
            have HBv6_28 := hblk HBv6_27 bw
            have ES10_28 : Hid (RowsO (w28) b10 (R10)) := ES10_27.out.below bw
            have HOX12_28 : Hid ((w28).ownsRow w.heap.size 9 1 (.slice oX12 ko.xs.length pX12) ko.xs.length (ko.xs.map Value.string)) := owns_wide ownX12 hb27.size
            have LOX12 : Hid (∀ g, (Value.ownBlock (.slice oX12 ko.xs.length pX12)) = some g → (w27).heap.size ≤ g) := fun g hg => owns_ge ownX12 hg
            have HIX12 : Hid (∀ g, (Value.ownBlock (.slice oX12 ko.xs.length pX12)) = some g → g < (w28).heap.size) := fun g hg => owns_lt ownX12 hg
            clear ownX12
            have HOY12_28 : Hid ((w28).ownsRow w.heap.size 9 1 (.slice oY12 ko.ys.length pY12) ko.ys.length (ko.ys.map Value.string)) := owns_wide ownY12 hb27.size
            have LOY12 : Hid (∀ g, (Value.ownBlock (.slice oY12 ko.ys.length pY12)) = some g → (w27).heap.size ≤ g) := fun g hg => owns_ge ownY12 hg
            have HIY12 : Hid (∀ g, (Value.ownBlock (.slice oY12 ko.ys.length pY12)) = some g → g < (w28).heap.size) := fun g hg => owns_lt ownY12 hg
            clear ownY12
            have HOG12_28 : Hid ((w28).ownsRow w.heap.size 132 2 (.slice oG12 ko.fs.length pG12) ko.fs.length (flatF ko.fs)) := owns_wide ownG12 hb27.size
            have LOG12 : Hid (∀ g, (Value.ownBlock (.slice oG12 ko.fs.length pG12)) = some g → (w27).heap.size ≤ g) := fun g hg => owns_ge ownG12 hg
            have HIG12 : Hid (∀ g, (Value.ownBlock (.slice oG12 ko.fs.length pG12)) = some g → g < (w28).heap.size) := fun g hg => owns_lt ownG12 hg
            clear ownG12
            clear hb27 HOX3_27 HOY3_27 HOG3_27 HOQ5_27 HOX6_27 HOY6_27 HOG6_27 HOQ8_27 HOQ11_27 HBv1_27 HBv2_27 HBv3_27 HBv4_27 HBv5_27 HBv6_27 ES10_27
            have HX_28 : Hid (Below w23.heap.size w23 w28) := HX_27.out.trans (bw.mono HX_27.out.size)
            have HPA_28 : Hid (w28.heap[pa]? = some (.cells #[.string ⟨#[]⟩, .slice none 0 0, .slice none 0 0, .int .i64 0, .slice none 0 0, .string ⟨#[]⟩, .int .i64 0] 50)) := blk_below HPA_27.out bw
            have HRXX12_28 : Hid ((w28).ownsRow w23.heap.size 9 1 (.slice oX12 ko.xs.length pX12) ko.xs.length (ko.xs.map Value.string)) := owns_lift HOX12_28.out (fun g hg => Nat.le_trans HX_27.out.size (LOX12.out g hg))
            have HRXY12_28 : Hid ((w28).ownsRow w23.heap.size 9 1 (.slice oY12 ko.ys.length pY12) ko.ys.length (ko.ys.map Value.string)) := owns_lift HOY12_28.out (fun g hg => Nat.le_trans HX_27.out.size (LOY12.out g hg))
            have HRXG12_28 : Hid ((w28).ownsRow w23.heap.size 132 2 (.slice oG12 ko.fs.length pG12) ko.fs.length (flatF ko.fs)) := owns_lift HOG12_28.out (fun g hg => Nat.le_trans HX_27.out.size (LOG12.out g hg))
            refine hK.out _ _ (HSS.out _ HX_28.out) (fun _ => ?_)
            clear hK K bw HX_27
            refine tkP 5 (.tuple #[.agg #[.string ko.p, .slice oX12 ko.xs.length pX12, .slice oY12 ko.ys.length pY12, .int .i64 ko.st, .slice oG12 ko.fs.length pG12, .string ko.b, .int .i64 ko.t], .bool fb]) 94 rfl rfl (HSS.out _ HX_28.out) ?_
            go_frame
            refine tkP 6 (.agg #[.string ko.p, .slice oX12 ko.xs.length pX12, .slice oY12 ko.ys.length pY12, .int .i64 ko.st, .slice oG12 ko.fs.length pG12, .string ko.b, .int .i64 ko.t]) 100 rfl rfl (HSS.out _ HX_28.out) ?_
            go_frame
            refine tkP 7 (.bool fb) 101 rfl rfl (HSS.out _ HX_28.out) ?_
            go_frame
            refine wpAnyH_ready (rs := [9]) (by kernel_rfl) (by simp) ?_
            refine AllReadyH.cons rfl (fun K hK => ?_) AllReadyH.nil
            have ce0 : w28.cell? ⟨pa, 0, none⟩ = some (.string ⟨#[]⟩) := (cell_of HPA_28.out 0).trans rfl
            have fe0 : w28.frozen? ⟨pa, 0, none⟩ = false := frozen_of HPA_28.out 0
            have ce1 : w28.cell? ⟨pa, 1, none⟩ = some (.slice none 0 0) := (cell_of HPA_28.out 1).trans rfl
            have fe1 : w28.frozen? ⟨pa, 1, none⟩ = false := frozen_of HPA_28.out 1
            have ce2 : w28.cell? ⟨pa, 2, none⟩ = some (.slice none 0 0) := (cell_of HPA_28.out 2).trans rfl
            have fe2 : w28.frozen? ⟨pa, 2, none⟩ = false := frozen_of HPA_28.out 2
            have ce3 : w28.cell? ⟨pa, 3, none⟩ = some (.int .i64 0) := (cell_of HPA_28.out 3).trans rfl
            have fe3 : w28.frozen? ⟨pa, 3, none⟩ = false := frozen_of HPA_28.out 3
            have ce4 : w28.cell? ⟨pa, 4, none⟩ = some (.slice none 0 0) := (cell_of HPA_28.out 4).trans rfl
            have fe4 : w28.frozen? ⟨pa, 4, none⟩ = false := frozen_of HPA_28.out 4
            have ce5 : w28.cell? ⟨pa, 5, none⟩ = some (.string ⟨#[]⟩) := (cell_of HPA_28.out 5).trans rfl
            have fe5 : w28.frozen? ⟨pa, 5, none⟩ = false := frozen_of HPA_28.out 5
            have ce6 : w28.cell? ⟨pa, 6, none⟩ = some (.int .i64 0) := (cell_of HPA_28.out 6).trans rfl
            have fe6 : w28.frozen? ⟨pa, 6, none⟩ = false := frozen_of HPA_28.out 6
            obtain ⟨w29, hY⟩ : ∃ Y, Y = (((((((w28.setCell ⟨pa, 0, none⟩ (.string ko.p)).setCell ⟨pa, 1, none⟩ (.slice oX12 ko.xs.length pX12)).setCell ⟨pa, 2, none⟩ (.slice oY12 ko.ys.length pY12)).setCell ⟨pa, 3, none⟩ (.int .i64 ko.st)).setCell ⟨pa, 4, none⟩ (.slice oG12 ko.fs.length pG12)).setCell ⟨pa, 5, none⟩ (.string ko.b)).setCell ⟨pa, 6, none⟩ (.int .i64 ko.t)) := ⟨_, rfl⟩
            have HY : Hid ((((((((w28.setCell ⟨pa, 0, none⟩ (.string ko.p)).setCell ⟨pa, 1, none⟩ (.slice oX12 ko.xs.length pX12)).setCell ⟨pa, 2, none⟩ (.slice oY12 ko.ys.length pY12)).setCell ⟨pa, 3, none⟩ (.int .i64 ko.st)).setCell ⟨pa, 4, none⟩ (.slice oG12 ko.fs.length pG12)).setCell ⟨pa, 5, none⟩ (.string ko.b)).setCell ⟨pa, 6, none⟩ (.int .i64 ko.t)) = w29) := hY.symm
            have HX_29 : Hid (Below w23.heap.size w23 w29) := by show Below _ _ _; rw [hY]; exact (((((((HX_28.out.setCell (p := ⟨pa, 0, none⟩) HGA.out _).setCell (p := ⟨pa, 1, none⟩) HGA.out _).setCell (p := ⟨pa, 2, none⟩) HGA.out _).setCell (p := ⟨pa, 3, none⟩) HGA.out _).setCell (p := ⟨pa, 4, none⟩) HGA.out _).setCell (p := ⟨pa, 5, none⟩) HGA.out _).setCell (p := ⟨pa, 6, none⟩) HGA.out _)
            have HPA_29 : Hid (w29.heap[pa]? = some (.cells #[.string ko.p, .slice oX12 ko.xs.length pX12, .slice oY12 ko.ys.length pY12, .int .i64 ko.st, .slice oG12 ko.fs.length pG12, .string ko.b, .int .i64 ko.t] 50)) := by show _ = _; rw [hY]; have h := (heap_set _ pa 6 _ _ _ (.int .i64 ko.t) (heap_set _ pa 5 _ _ _ (.string ko.b) (heap_set _ pa 4 _ _ _ (.slice oG12 ko.fs.length pG12) (heap_set _ pa 3 _ _ _ (.int .i64 ko.st) (heap_set _ pa 2 _ _ _ (.slice oY12 ko.ys.length pY12) (heap_set _ pa 1 _ _ _ (.slice oX12 ko.xs.length pX12) (heap_set _ pa 0 _ _ _ (.string ko.p) HPA_28.out))))))); simpa using h
            have HRXX12_29 : Hid ((w29).ownsRow w23.heap.size 9 1 (.slice oX12 ko.xs.length pX12) ko.xs.length (ko.xs.map Value.string)) := by show World.ownsRow _ _ _ _ _ _ _; rw [hY]; exact owns_same HRXX12_28.out (fun g hg => by have hne := own_ne HRXX12_28.out HPA_28.out (by decide) g hg; rw [heap_setCell_other _ _ g _ hne, heap_setCell_other _ _ g _ hne, heap_setCell_other _ _ g _ hne, heap_setCell_other _ _ g _ hne, heap_setCell_other _ _ g _ hne, heap_setCell_other _ _ g _ hne, heap_setCell_other _ _ g _ hne])
            have HRXY12_29 : Hid ((w29).ownsRow w23.heap.size 9 1 (.slice oY12 ko.ys.length pY12) ko.ys.length (ko.ys.map Value.string)) := by show World.ownsRow _ _ _ _ _ _ _; rw [hY]; exact owns_same HRXY12_28.out (fun g hg => by have hne := own_ne HRXY12_28.out HPA_28.out (by decide) g hg; rw [heap_setCell_other _ _ g _ hne, heap_setCell_other _ _ g _ hne, heap_setCell_other _ _ g _ hne, heap_setCell_other _ _ g _ hne, heap_setCell_other _ _ g _ hne, heap_setCell_other _ _ g _ hne, heap_setCell_other _ _ g _ hne])
            have HRXG12_29 : Hid ((w29).ownsRow w23.heap.size 132 2 (.slice oG12 ko.fs.length pG12) ko.fs.length (flatF ko.fs)) := by show World.ownsRow _ _ _ _ _ _ _; rw [hY]; exact owns_same HRXG12_28.out (fun g hg => by have hne := own_ne HRXG12_28.out HPA_28.out (by decide) g hg; rw [heap_setCell_other _ _ g _ hne, heap_setCell_other _ _ g _ hne, heap_setCell_other _ _ g _ hne, heap_setCell_other _ _ g _ hne, heap_setCell_other _ _ g _ hne, heap_setCell_other _ _ g _ hne, heap_setCell_other _ _ g _ hne])
            have APXX12Y12 : Hid (∀ g, (Value.ownBlock (.slice oX12 ko.xs.length pX12)) = some g → (Value.ownBlock (.slice oY12 ko.ys.length pY12)) ≠ some g) := AP12.out
            clear hY hb28 HOX3_28 HOY3_28 HOG3_28 HOQ5_28 HOX6_28 HOY6_28 HOG6_28 HOQ8_28 HOQ11_28 HOX12_28 HOY12_28 HOG12_28 HBv1_28 HBv2_28 HBv3_28 HBv4_28 HBv5_28 HBv6_28 ES10_28
            go_simp
            rw [HY.out]
            refine hK.out _ _ (HSS.out _ HX_29.out) (fun _ => ?_)
            clear hK K HY ce0 fe0 ce1 fe1 ce2 fe2 ce3 fe3 ce4 fe4 ce5 fe5 ce6 fe6
            refine tkP 10 (.bool fb) 16 rfl rfl (HSS.out _ HX_29.out) ?_
            go_frame
            refine wpAnyH_done (by kernel_rfl) ?_ _
            go_wp2_with fail
            go_meet
            exact ⟨pa, oX12, pX12, oY12, pY12, oG12, pG12, rfl, rfl, ⟨HX_29.out, HPA_29.out, HGA.out, HRXX12_29.out, HRXY12_29.out, HRXG12_29.out, APXX12Y12.out⟩⟩
        · go_simp
          have HXA : Hid (Below w23.heap.size w23 (w24.alloc (.cells #[.string ⟨#[]⟩, .slice none 0 0, .slice none 0 0, .int .i64 0, .slice none 0 0, .string ⟨#[]⟩, .int .i64 0] 50))) := HX_24.out.alloc HX_24.out.size _
          refine hK.out _ _ (HSS.out _ HXA.out) (fun _ => ?_)
          clear hK K HXA
          obtain ⟨pa, ho⟩ : ∃ o, o = w24.heap.size := ⟨_, rfl⟩
          obtain ⟨w25, hXj⟩ : ∃ X, X = w24.alloc (.cells #[.string ⟨#[]⟩, .slice none 0 0, .slice none 0 0, .int .i64 0, .slice none 0 0, .string ⟨#[]⟩, .int .i64 0] 50) := ⟨_, rfl⟩
          rw [← ho, ← hXj]
          have HGA : Hid (w23.heap.size ≤ pa) := by show _ ≤ _; rw [ho]; exact HX_24.out.size
          have bw : Below w24.heap.size w24 w25 := by rw [hXj]; exact (Below.refl _ _).alloc (Nat.le_refl _) _
          have hb25 := hbt hb24 bw
          have HM25 : Hid ((w24).heap.size ≤ (w25).heap.size) := bw.size
          have HOX3_25 := hown HOX3_24 bw
          have HOY3_25 := hown HOY3_24 bw
          have HOG3_25 := hown HOG3_24 bw
          have HOQ5_25 := hown HOQ5_24 bw
          have HOX6_25 := hown HOX6_24 bw
          have HOY6_25 := hown HOY6_24 bw
          have HOG6_25 := hown HOG6_24 bw
          have HOQ8_25 := hown HOQ8_24 bw
          have HBv1_25 := hblk HBv1_24 bw
          have HBv2_25 := hblk HBv2_24 bw
          have HBv3_25 := hblk HBv3_24 bw
          have HBv4_25 := hblk HBv4_24 bw
          have HBv5_25 := hblk HBv5_24 bw
          have HBv6_25 := hblk HBv6_24 bw
          have HX_25 : Hid (Below w23.heap.size w23 w25) := HX_24.out.trans (bw.mono HX_24.out.size)
          have HPA_25 : Hid (w25.heap[pa]? = some (.cells #[.string ⟨#[]⟩, .slice none 0 0, .slice none 0 0, .int .i64 0, .slice none 0 0, .string ⟨#[]⟩, .int .i64 0] 50)) := by show _ = _; rw [hXj, ho]; exact heap_alloc_new _ _
          clear hb24 HOX3_24 HOY3_24 HOG3_24 HOQ5_24 HOX6_24 HOY6_24 HOG6_24 HOQ8_24 HBv1_24 HBv2_24 HBv3_24 HBv4_24 HBv5_24 HBv6_24 bw ho hXj HX_24
          refine wpAnyH_ready (rs := [1]) (by kernel_rfl) (by simp) ?_
          refine AllReadyH.cons rfl (fun K hK => ?_) AllReadyH.nil
          go_simp
          refine (HTO.out _ hb25).mono ?_
          rintro e w26 ⟨va, vb, vc, vd, kv10, rfl, hso, bw⟩
          obtain ⟨oC10, pC10, rfl⟩ := slice_of_owns hso.disk.cells
          obtain ⟨oP10, pP10, rfl⟩ := slice_of_owns hso.disk.pend
          obtain ⟨oK10, pK10, rfl⟩ := hso.kept.len
          obtain ⟨oB10, pB10, rfl⟩ := slice_of_owns hso.bans
          obtain ⟨R10, hR10⟩ : ∃ R, R = shAll (.slice oC10 sa.cs.length pC10) (.slice oP10 sa.ws.length pP10) (.slice oK10 kv10.length pK10) (.slice oB10 sa.bl.length pB10) kv10 sa.cs sa.ws sa.bl := ⟨_, rfl⟩
          obtain ⟨b10, hbq10⟩ : ∃ b, b = (w25).heap.size := ⟨_, rfl⟩
          obtain ⟨t10, htq10⟩ : ∃ t, t = (w26).heap.size := ⟨_, rfl⟩
          have hbk10 := hb25.size
          have hb26 := hbt hb25 bw
          have HM26 : Hid ((w25).heap.size ≤ (w26).heap.size) := bw.size
          have HOX3_26 := hown HOX3_25 bw
          have HOY3_26 := hown HOY3_25 bw
          have HOG3_26 := hown HOG3_25 bw
          have HOQ5_26 := hown HOQ5_25 bw
          have HOX6_26 := hown HOX6_25 bw
          have HOY6_26 := hown HOY6_25 bw
          have HOG6_26 := hown HOG6_25 bw
          have HOQ8_26 := hown HOQ8_25 bw
          have HBv1_26 := hblk HBv1_25 bw
          have HBv2_26 := hblk HBv2_25 bw
          have HBv3_26 := hblk HBv3_25 bw
          have HBv4_26 := hblk HBv4_25 bw
          have HBv5_26 := hblk HBv5_25 bw
          have HBv6_26 := hblk HBv6_25 bw
          clear hb25 HOX3_25 HOY3_25 HOG3_25 HOQ5_25 HOX6_25 HOY6_25 HOG6_25 HOQ8_25 HBv1_25 HBv2_25 HBv3_25 HBv4_25 HBv5_25 HBv6_25
          have ES10_26 : Hid (RowsO (w26) b10 (R10)) := by show RowsO _ _ _; rw [hbq10, hR10]; exact hso.1
          have HKM10 : Hid (kv10.map (·.1) = sa.ks) := hso.2
          have HU10 : Hid (∀ r ∈ R10, ∀ g, r.v.ownBlock = some g → g < t10) := fun r hr g hg => by rw [htq10]; rw [hR10] at hr; exact hso.1.lt hr hg
          have HRQ10 : Hid (R10 = shAll (.slice oC10 sa.cs.length pC10) (.slice oP10 sa.ws.length pP10) (.slice oK10 kv10.length pK10) (.slice oB10 sa.bl.length pB10) kv10 sa.cs sa.ws sa.bl) := hR10
          have HTY10 : Hid (NoT R10) := fun T h1 h2 h3 h4 h5 r hr => by rw [hR10] at hr; exact shAll_T T h1 h2 h3 h4 h5 r hr
          clear hR10
          have HBW10 : Hid (b10 ≥ w.heap.size) := by show _ ≤ _; rw [hbq10]; exact hbk10
          have HBK10 : Hid (b10 = w25.heap.size) := hbq10
          have HTK10 : Hid (t10 = w26.heap.size) := htq10
          clear hso hbq10 htq10 hbk10
          have HX_26 : Hid (Below w23.heap.size w23 w26) := HX_25.out.trans (bw.mono HX_25.out.size)
          have HPA_26 : Hid (w26.heap[pa]? = some (.cells #[.string ⟨#[]⟩, .slice none 0 0, .slice none 0 0, .int .i64 0, .slice none 0 0, .string ⟨#[]⟩, .int .i64 0] 50)) := blk_below HPA_25.out bw
          refine hK.out _ _ (HSS.out _ HX_26.out) (fun _ => ?_)
          clear hK K bw HX_25
          refine wpAnyH_ready (rs := [3]) (by kernel_rfl) (by simp) ?_
          refine AllReadyH.cons rfl (fun K hK => ?_) AllReadyH.nil
          go_simp
          refine (toReq_any mt p aQ n5 cQ bd gs w.heap.size _ (HA5.out _ hb26) hb26.size hm5).mono ?_
          rintro e w27 ⟨vv, rfl, ownQ11, bw⟩
          obtain ⟨oQ11, pQ11, rfl⟩ := slice_of_owns ownQ11
          have hb27 := hbt hb26 bw
          have HM27 : Hid ((w26).heap.size ≤ (w27).heap.size) := bw.size
          have HOX3_27 := hown HOX3_26 bw
          have HOY3_27 := hown HOY3_26 bw
          have HOG3_27 := hown HOG3_26 bw
          have HOQ5_27 := hown HOQ5_26 bw
          have HOX6_27 := hown HOX6_26 bw
          have HOY6_27 := hown HOY6_26 bw
          have HOG6_27 := hown HOG6_26 bw
          have HOQ8_27 := hown HOQ8_26 bw
          have HBv1_27 := hblk HBv1_26 bw
          have HBv2_27 := hblk HBv2_26 bw
          have HBv3_27 := hblk HBv3_26 bw
          have HBv4_27 := hblk HBv4_26 bw
          have HBv5_27 := hblk HBv5_26 bw
          have HBv6_27 := hblk HBv6_26 bw
          have ES10_27 : Hid (RowsO (w27) b10 (R10)) := ES10_26.out.below bw
          have HOQ11_27 : Hid ((w27).ownsRow w.heap.size 132 2 (.slice oQ11 n5 pQ11) n5 (flatF gs)) := owns_wide ownQ11 hb26.size
          have LOQ11 : Hid (∀ g, (Value.ownBlock (.slice oQ11 n5 pQ11)) = some g → (w26).heap.size ≤ g) := fun g hg => owns_ge ownQ11 hg
          have HIQ11 : Hid (∀ g, (Value.ownBlock (.slice oQ11 n5 pQ11)) = some g → g < (w27).heap.size) := fun g hg => owns_lt ownQ11 hg
          clear ownQ11
          clear hb26 HOX3_26 HOY3_26 HOG3_26 HOQ5_26 HOX6_26 HOY6_26 HOG6_26 HOQ8_26 HBv1_26 HBv2_26 HBv3_26 HBv4_26 HBv5_26 HBv6_26 ES10_26
          have HX_27 : Hid (Below w23.heap.size w23 w27) := HX_26.out.trans (bw.mono HX_26.out.size)
          have HPA_27 : Hid (w27.heap[pa]? = some (.cells #[.string ⟨#[]⟩, .slice none 0 0, .slice none 0 0, .int .i64 0, .slice none 0 0, .string ⟨#[]⟩, .int .i64 0] 50)) := blk_below HPA_26.out bw
          refine hK.out _ _ (HSS.out _ HX_27.out) (fun _ => ?_)
          clear hK K bw HX_26
          refine wpAnyH_ready (rs := [4]) (by kernel_rfl) (by simp) ?_
          refine AllReadyH.cons rfl (fun K hK => ?_) AllReadyH.nil
          go_simp
          refine (HIM.out _ hb27 _ _ _ _ _ _ (shelf_of HRQ10.out ES10_27.out HKM10.out) _ _ HOQ11_27.out).mono ?_
          rintro e w28 ⟨vv1, vv2, vv3, rfl, ⟨ownX12, ownY12, ownG12, ne12⟩, bw⟩
          obtain ⟨oX12, pX12, rfl⟩ := slice_of_owns ownX12
          obtain ⟨oY12, pY12, rfl⟩ := slice_of_owns ownY12
          obtain ⟨oG12, pG12, rfl⟩ := slice_of_owns ownG12
          have AP12 : Hid (∀ j, (Value.slice oX12 ko.xs.length pX12).ownBlock = some j → (Value.slice oY12 ko.ys.length pY12).ownBlock ≠ some j) := ne12
          clear ne12
          have hb28 := hbt hb27 bw
          have HM28 : Hid ((w27).heap.size ≤ (w28).heap.size) := bw.size
          have HOX3_28 := hown HOX3_27 bw
          have HOY3_28 := hown HOY3_27 bw
          have HOG3_28 := hown HOG3_27 bw
          have HOQ5_28 := hown HOQ5_27 bw
          have HOX6_28 := hown HOX6_27 bw
          have HOY6_28 := hown HOY6_27 bw
          have HOG6_28 := hown HOG6_27 bw
          have HOQ8_28 := hown HOQ8_27 bw
          have HOQ11_28 := hown HOQ11_27 bw
          have HBv1_28 := hblk HBv1_27 bw
          have HBv2_28 := hblk HBv2_27 bw
          have HBv3_28 := hblk HBv3_27 bw
          have HBv4_28 := hblk HBv4_27 bw
          have HBv5_28 := hblk HBv5_27 bw
          have HBv6_28 := hblk HBv6_27 bw
          have ES10_28 : Hid (RowsO (w28) b10 (R10)) := ES10_27.out.below bw
          have HOX12_28 : Hid ((w28).ownsRow w.heap.size 9 1 (.slice oX12 ko.xs.length pX12) ko.xs.length (ko.xs.map Value.string)) := owns_wide ownX12 hb27.size
          have LOX12 : Hid (∀ g, (Value.ownBlock (.slice oX12 ko.xs.length pX12)) = some g → (w27).heap.size ≤ g) := fun g hg => owns_ge ownX12 hg
          have HIX12 : Hid (∀ g, (Value.ownBlock (.slice oX12 ko.xs.length pX12)) = some g → g < (w28).heap.size) := fun g hg => owns_lt ownX12 hg
          clear ownX12
          have HOY12_28 : Hid ((w28).ownsRow w.heap.size 9 1 (.slice oY12 ko.ys.length pY12) ko.ys.length (ko.ys.map Value.string)) := owns_wide ownY12 hb27.size
          have LOY12 : Hid (∀ g, (Value.ownBlock (.slice oY12 ko.ys.length pY12)) = some g → (w27).heap.size ≤ g) := fun g hg => owns_ge ownY12 hg
          have HIY12 : Hid (∀ g, (Value.ownBlock (.slice oY12 ko.ys.length pY12)) = some g → g < (w28).heap.size) := fun g hg => owns_lt ownY12 hg
          clear ownY12
          have HOG12_28 : Hid ((w28).ownsRow w.heap.size 132 2 (.slice oG12 ko.fs.length pG12) ko.fs.length (flatF ko.fs)) := owns_wide ownG12 hb27.size
          have LOG12 : Hid (∀ g, (Value.ownBlock (.slice oG12 ko.fs.length pG12)) = some g → (w27).heap.size ≤ g) := fun g hg => owns_ge ownG12 hg
          have HIG12 : Hid (∀ g, (Value.ownBlock (.slice oG12 ko.fs.length pG12)) = some g → g < (w28).heap.size) := fun g hg => owns_lt ownG12 hg
          clear ownG12
          clear hb27 HOX3_27 HOY3_27 HOG3_27 HOQ5_27 HOX6_27 HOY6_27 HOG6_27 HOQ8_27 HOQ11_27 HBv1_27 HBv2_27 HBv3_27 HBv4_27 HBv5_27 HBv6_27 ES10_27
          have HX_28 : Hid (Below w23.heap.size w23 w28) := HX_27.out.trans (bw.mono HX_27.out.size)
          have HPA_28 : Hid (w28.heap[pa]? = some (.cells #[.string ⟨#[]⟩, .slice none 0 0, .slice none 0 0, .int .i64 0, .slice none 0 0, .string ⟨#[]⟩, .int .i64 0] 50)) := blk_below HPA_27.out bw
          have HRXX12_28 : Hid ((w28).ownsRow w23.heap.size 9 1 (.slice oX12 ko.xs.length pX12) ko.xs.length (ko.xs.map Value.string)) := owns_lift HOX12_28.out (fun g hg => Nat.le_trans HX_27.out.size (LOX12.out g hg))
          have HRXY12_28 : Hid ((w28).ownsRow w23.heap.size 9 1 (.slice oY12 ko.ys.length pY12) ko.ys.length (ko.ys.map Value.string)) := owns_lift HOY12_28.out (fun g hg => Nat.le_trans HX_27.out.size (LOY12.out g hg))
          have HRXG12_28 : Hid ((w28).ownsRow w23.heap.size 132 2 (.slice oG12 ko.fs.length pG12) ko.fs.length (flatF ko.fs)) := owns_lift HOG12_28.out (fun g hg => Nat.le_trans HX_27.out.size (LOG12.out g hg))
          refine hK.out _ _ (HSS.out _ HX_28.out) (fun _ => ?_)
          clear hK K bw HX_27
          refine tkP 5 (.tuple #[.agg #[.string ko.p, .slice oX12 ko.xs.length pX12, .slice oY12 ko.ys.length pY12, .int .i64 ko.st, .slice oG12 ko.fs.length pG12, .string ko.b, .int .i64 ko.t], .bool fb]) 94 rfl rfl (HSS.out _ HX_28.out) ?_
          go_frame
          refine tkP 6 (.agg #[.string ko.p, .slice oX12 ko.xs.length pX12, .slice oY12 ko.ys.length pY12, .int .i64 ko.st, .slice oG12 ko.fs.length pG12, .string ko.b, .int .i64 ko.t]) 100 rfl rfl (HSS.out _ HX_28.out) ?_
          go_frame
          refine tkP 7 (.bool fb) 101 rfl rfl (HSS.out _ HX_28.out) ?_
          go_frame
          refine wpAnyH_ready (rs := [9]) (by kernel_rfl) (by simp) ?_
          refine AllReadyH.cons rfl (fun K hK => ?_) AllReadyH.nil
          have ce0 : w28.cell? ⟨pa, 0, none⟩ = some (.string ⟨#[]⟩) := (cell_of HPA_28.out 0).trans rfl
          have fe0 : w28.frozen? ⟨pa, 0, none⟩ = false := frozen_of HPA_28.out 0
          have ce1 : w28.cell? ⟨pa, 1, none⟩ = some (.slice none 0 0) := (cell_of HPA_28.out 1).trans rfl
          have fe1 : w28.frozen? ⟨pa, 1, none⟩ = false := frozen_of HPA_28.out 1
          have ce2 : w28.cell? ⟨pa, 2, none⟩ = some (.slice none 0 0) := (cell_of HPA_28.out 2).trans rfl
          have fe2 : w28.frozen? ⟨pa, 2, none⟩ = false := frozen_of HPA_28.out 2
          have ce3 : w28.cell? ⟨pa, 3, none⟩ = some (.int .i64 0) := (cell_of HPA_28.out 3).trans rfl
          have fe3 : w28.frozen? ⟨pa, 3, none⟩ = false := frozen_of HPA_28.out 3
          have ce4 : w28.cell? ⟨pa, 4, none⟩ = some (.slice none 0 0) := (cell_of HPA_28.out 4).trans rfl
          have fe4 : w28.frozen? ⟨pa, 4, none⟩ = false := frozen_of HPA_28.out 4
          have ce5 : w28.cell? ⟨pa, 5, none⟩ = some (.string ⟨#[]⟩) := (cell_of HPA_28.out 5).trans rfl
          have fe5 : w28.frozen? ⟨pa, 5, none⟩ = false := frozen_of HPA_28.out 5
          have ce6 : w28.cell? ⟨pa, 6, none⟩ = some (.int .i64 0) := (cell_of HPA_28.out 6).trans rfl
          have fe6 : w28.frozen? ⟨pa, 6, none⟩ = false := frozen_of HPA_28.out 6
          obtain ⟨w29, hY⟩ : ∃ Y, Y = (((((((w28.setCell ⟨pa, 0, none⟩ (.string ko.p)).setCell ⟨pa, 1, none⟩ (.slice oX12 ko.xs.length pX12)).setCell ⟨pa, 2, none⟩ (.slice oY12 ko.ys.length pY12)).setCell ⟨pa, 3, none⟩ (.int .i64 ko.st)).setCell ⟨pa, 4, none⟩ (.slice oG12 ko.fs.length pG12)).setCell ⟨pa, 5, none⟩ (.string ko.b)).setCell ⟨pa, 6, none⟩ (.int .i64 ko.t)) := ⟨_, rfl⟩
          have HY : Hid ((((((((w28.setCell ⟨pa, 0, none⟩ (.string ko.p)).setCell ⟨pa, 1, none⟩ (.slice oX12 ko.xs.length pX12)).setCell ⟨pa, 2, none⟩ (.slice oY12 ko.ys.length pY12)).setCell ⟨pa, 3, none⟩ (.int .i64 ko.st)).setCell ⟨pa, 4, none⟩ (.slice oG12 ko.fs.length pG12)).setCell ⟨pa, 5, none⟩ (.string ko.b)).setCell ⟨pa, 6, none⟩ (.int .i64 ko.t)) = w29) := hY.symm
          have HX_29 : Hid (Below w23.heap.size w23 w29) := by show Below _ _ _; rw [hY]; exact (((((((HX_28.out.setCell (p := ⟨pa, 0, none⟩) HGA.out _).setCell (p := ⟨pa, 1, none⟩) HGA.out _).setCell (p := ⟨pa, 2, none⟩) HGA.out _).setCell (p := ⟨pa, 3, none⟩) HGA.out _).setCell (p := ⟨pa, 4, none⟩) HGA.out _).setCell (p := ⟨pa, 5, none⟩) HGA.out _).setCell (p := ⟨pa, 6, none⟩) HGA.out _)
          have HPA_29 : Hid (w29.heap[pa]? = some (.cells #[.string ko.p, .slice oX12 ko.xs.length pX12, .slice oY12 ko.ys.length pY12, .int .i64 ko.st, .slice oG12 ko.fs.length pG12, .string ko.b, .int .i64 ko.t] 50)) := by show _ = _; rw [hY]; have h := (heap_set _ pa 6 _ _ _ (.int .i64 ko.t) (heap_set _ pa 5 _ _ _ (.string ko.b) (heap_set _ pa 4 _ _ _ (.slice oG12 ko.fs.length pG12) (heap_set _ pa 3 _ _ _ (.int .i64 ko.st) (heap_set _ pa 2 _ _ _ (.slice oY12 ko.ys.length pY12) (heap_set _ pa 1 _ _ _ (.slice oX12 ko.xs.length pX12) (heap_set _ pa 0 _ _ _ (.string ko.p) HPA_28.out))))))); simpa using h
          have HRXX12_29 : Hid ((w29).ownsRow w23.heap.size 9 1 (.slice oX12 ko.xs.length pX12) ko.xs.length (ko.xs.map Value.string)) := by show World.ownsRow _ _ _ _ _ _ _; rw [hY]; exact owns_same HRXX12_28.out (fun g hg => by have hne := own_ne HRXX12_28.out HPA_28.out (by decide) g hg; rw [heap_setCell_other _ _ g _ hne, heap_setCell_other _ _ g _ hne, heap_setCell_other _ _ g _ hne, heap_setCell_other _ _ g _ hne, heap_setCell_other _ _ g _ hne, heap_setCell_other _ _ g _ hne, heap_setCell_other _ _ g _ hne])
          have HRXY12_29 : Hid ((w29).ownsRow w23.heap.size 9 1 (.slice oY12 ko.ys.length pY12) ko.ys.length (ko.ys.map Value.string)) := by show World.ownsRow _ _ _ _ _ _ _; rw [hY]; exact owns_same HRXY12_28.out (fun g hg => by have hne := own_ne HRXY12_28.out HPA_28.out (by decide) g hg; rw [heap_setCell_other _ _ g _ hne, heap_setCell_other _ _ g _ hne, heap_setCell_other _ _ g _ hne, heap_setCell_other _ _ g _ hne, heap_setCell_other _ _ g _ hne, heap_setCell_other _ _ g _ hne, heap_setCell_other _ _ g _ hne])
          have HRXG12_29 : Hid ((w29).ownsRow w23.heap.size 132 2 (.slice oG12 ko.fs.length pG12) ko.fs.length (flatF ko.fs)) := by show World.ownsRow _ _ _ _ _ _ _; rw [hY]; exact owns_same HRXG12_28.out (fun g hg => by have hne := own_ne HRXG12_28.out HPA_28.out (by decide) g hg; rw [heap_setCell_other _ _ g _ hne, heap_setCell_other _ _ g _ hne, heap_setCell_other _ _ g _ hne, heap_setCell_other _ _ g _ hne, heap_setCell_other _ _ g _ hne, heap_setCell_other _ _ g _ hne, heap_setCell_other _ _ g _ hne])
          have APXX12Y12 : Hid (∀ g, (Value.ownBlock (.slice oX12 ko.xs.length pX12)) = some g → (Value.ownBlock (.slice oY12 ko.ys.length pY12)) ≠ some g) := AP12.out
          clear hY hb28 HOX3_28 HOY3_28 HOG3_28 HOQ5_28 HOX6_28 HOY6_28 HOG6_28 HOQ8_28 HOQ11_28 HOX12_28 HOY12_28 HOG12_28 HBv1_28 HBv2_28 HBv3_28 HBv4_28 HBv5_28 HBv6_28 ES10_28
          go_simp
          rw [HY.out]
          refine hK.out _ _ (HSS.out _ HX_29.out) (fun _ => ?_)
          clear hK K HY ce0 fe0 ce1 fe1 ce2 fe2 ce3 fe3 ce4 fe4 ce5 fe5 ce6 fe6
          refine tkP 10 (.bool fb) 16 rfl rfl (HSS.out _ HX_29.out) ?_
          go_frame
          refine wpAnyH_done (by kernel_rfl) ?_ _
          go_wp2_with fail
          go_meet
          exact ⟨pa, oX12, pX12, oY12, pY12, oG12, pG12, rfl, rfl, ⟨HX_29.out, HPA_29.out, HGA.out, HRXX12_29.out, HRXY12_29.out, HRXG12_29.out, APXX12Y12.out⟩⟩
      case rest =>
      obtain ⟨qv7, oX12, pX12, oY12, pY12, oG12, pG12, hsx, hsx16, HF⟩ := hcut
      rw [hsx, hsx16]
      obtain ⟨w24, hwj⟩ : ∃ W, W = wc := ⟨_, rfl⟩
      rw [← hwj] at HF ⊢
      clear hsx hsx16 hwj HSS
      obtain ⟨bw, hcell, hga, ownX12, ownY12, ownG12, apX12Y12⟩ := HF.out
      have hb24 := hbt hb23 bw
      have HM24 : Hid ((w23).heap.size ≤ (w24).heap.size) := bw.size
      have HOX3_24 := hown HOX3_23 bw
      have HOY3_24 := hown HOY3_23 bw
      have HOG3_24 := hown HOG3_23 bw
      have HOQ5_24 := hown HOQ5_23 bw
      have HOX6_24 := hown HOX6_23 bw
      have HOY6_24 := hown HOY6_23 bw
      have HOG6_24 := hown HOG6_23 bw
      have HOQ8_24 := hown HOQ8_23 bw
      have HBv1_24 := hblk HBv1_23 bw
      have HBv2_24 := hblk HBv2_23 bw
      have HBv3_24 := hblk HBv3_23 bw
      have HBv4_24 := hblk HBv4_23 bw
      have HBv5_24 := hblk HBv5_23 bw
      have HBv6_24 := hblk HBv6_23 bw
      have HOX12_24 : Hid ((w24).ownsRow w.heap.size 9 1 (.slice oX12 ko.xs.length pX12) ko.xs.length (ko.xs.map Value.string)) := owns_wide ownX12 hb23.size
      have LOX12 : Hid (∀ g, (Value.ownBlock (.slice oX12 ko.xs.length pX12)) = some g → (w23).heap.size ≤ g) := fun g hg => owns_ge ownX12 hg
      have HIX12 : Hid (∀ g, (Value.ownBlock (.slice oX12 ko.xs.length pX12)) = some g → g < (w24).heap.size) := fun g hg => owns_lt ownX12 hg
      have HOY12_24 : Hid ((w24).ownsRow w.heap.size 9 1 (.slice oY12 ko.ys.length pY12) ko.ys.length (ko.ys.map Value.string)) := owns_wide ownY12 hb23.size
      have LOY12 : Hid (∀ g, (Value.ownBlock (.slice oY12 ko.ys.length pY12)) = some g → (w23).heap.size ≤ g) := fun g hg => owns_ge ownY12 hg
      have HIY12 : Hid (∀ g, (Value.ownBlock (.slice oY12 ko.ys.length pY12)) = some g → g < (w24).heap.size) := fun g hg => owns_lt ownY12 hg
      have HOG12_24 : Hid ((w24).ownsRow w.heap.size 132 2 (.slice oG12 ko.fs.length pG12) ko.fs.length (flatF ko.fs)) := owns_wide ownG12 hb23.size
      have LOG12 : Hid (∀ g, (Value.ownBlock (.slice oG12 ko.fs.length pG12)) = some g → (w23).heap.size ≤ g) := fun g hg => owns_ge ownG12 hg
      have HIG12 : Hid (∀ g, (Value.ownBlock (.slice oG12 ko.fs.length pG12)) = some g → g < (w24).heap.size) := fun g hg => owns_lt ownG12 hg
      have APX12Y12 : Hid (∀ g, (Value.ownBlock (.slice oX12 ko.xs.length pX12)) = some g → (Value.ownBlock (.slice oY12 ko.ys.length pY12)) ≠ some g) := apX12Y12
      have HBv7_24 : Hid ((w24).heap[qv7]? = some (.cells #[.string ko.p, .slice oX12 ko.xs.length pX12, .slice oY12 ko.ys.length pY12, .int .i64 ko.st, .slice oG12 ko.fs.length pG12, .string ko.b, .int .i64 ko.t] 50)) := hcell
      clear hb23 HOX3_23 HOY3_23 HOG3_23 HOQ5_23 HOX6_23 HOY6_23 HOG6_23 HOQ8_23 HBv1_23 HBv2_23 HBv3_23 HBv4_23 HBv5_23 HBv6_23 bw hcell hga HF ownX12 ownY12 ownG12 apX12Y12
      have cv3_0 : (w24).cell? ⟨qv3, 0, none⟩ = some (.string ko.p) := (cell_of HBv3_24.out 0).trans rfl
      have cv3_1 : (w24).cell? ⟨qv3, 1, none⟩ = some (.slice oX3 ko.xs.length pX3) := (cell_of HBv3_24.out 1).trans rfl
      have cv3_2 : (w24).cell? ⟨qv3, 2, none⟩ = some (.slice oY3 ko.ys.length pY3) := (cell_of HBv3_24.out 2).trans rfl
      have cv3_3 : (w24).cell? ⟨qv3, 3, none⟩ = some (.int .i64 ko.st) := (cell_of HBv3_24.out 3).trans rfl
      have cv3_4 : (w24).cell? ⟨qv3, 4, none⟩ = some (.slice oG3 ko.fs.length pG3) := (cell_of HBv3_24.out 4).trans rfl
      have cv3_5 : (w24).cell? ⟨qv3, 5, none⟩ = some (.string ko.b) := (cell_of HBv3_24.out 5).trans rfl
      have cv3_6 : (w24).cell? ⟨qv3, 6, none⟩ = some (.int .i64 ko.t) := (cell_of HBv3_24.out 6).trans rfl
      have cv7_0 : (w24).cell? ⟨qv7, 0, none⟩ = some (.string ko.p) := (cell_of HBv7_24.out 0).trans rfl
      have cv7_1 : (w24).cell? ⟨qv7, 1, none⟩ = some (.slice oX12 ko.xs.length pX12) := (cell_of HBv7_24.out 1).trans rfl
      have cv7_2 : (w24).cell? ⟨qv7, 2, none⟩ = some (.slice oY12 ko.ys.length pY12) := (cell_of HBv7_24.out 2).trans rfl
      have cv7_3 : (w24).cell? ⟨qv7, 3, none⟩ = some (.int .i64 ko.st) := (cell_of HBv7_24.out 3).trans rfl
      have cv7_4 : (w24).cell? ⟨qv7, 4, none⟩ = some (.slice oG12 ko.fs.length pG12) := (cell_of HBv7_24.out 4).trans rfl
      have cv7_5 : (w24).cell? ⟨qv7, 5, none⟩ = some (.string ko.b) := (cell_of HBv7_24.out 5).trans rfl
      have cv7_6 : (w24).cell? ⟨qv7, 6, none⟩ = some (.int .i64 ko.t) := (cell_of HBv7_24.out 6).trans rfl
      go_wp2_with fail
      refine (eqObj_any ko.p ko.xs.length ko.xs ko.ys.length ko.ys ko.st ko.fs.length ko.fs ko.b ko.t _ _ _ _ _ _ _ _ _ ⟨HOX12_24.out, HOY12_24.out, HOG12_24.out, APX12Y12.out⟩ ⟨HOX3_24.out, HOY3_24.out, HOG3_24.out, APX3Y3.out⟩ (by have := HLV.out; omega) (by have := HLV.out; omega) (by have := HLV.out; omega)).mono ?_
      rintro e w25 ⟨rfl, bw⟩
      have hb25 := hbt hb24 bw
      have HM25 : Hid ((w24).heap.size ≤ (w25).heap.size) := bw.size
      have HOX3_25 := hown HOX3_24 bw
      have HOY3_25 := hown HOY3_24 bw
      have HOG3_25 := hown HOG3_24 bw
      have HOQ5_25 := hown HOQ5_24 bw
      have HOX6_25 := hown HOX6_24 bw
      have HOY6_25 := hown HOY6_24 bw
      have HOG6_25 := hown HOG6_24 bw
      have HOQ8_25 := hown HOQ8_24 bw
      have HOX12_25 := hown HOX12_24 bw
      have HOY12_25 := hown HOY12_24 bw
      have HOG12_25 := hown HOG12_24 bw
      have HBv1_25 := hblk HBv1_24 bw
      have HBv2_25 := hblk HBv2_24 bw
      have HBv3_25 := hblk HBv3_24 bw
      have HBv4_25 := hblk HBv4_24 bw
      have HBv5_25 := hblk HBv5_24 bw
      have HBv6_25 := hblk HBv6_24 bw
      have HBv7_25 := hblk HBv7_24 bw
      clear hb24 HOX3_24 HOY3_24 HOG3_24 HOQ5_24 HOX6_24 HOY6_24 HOG6_24 HOQ8_24 HOX12_24 HOY12_24 HOG12_24 HBv1_24 HBv2_24 HBv3_24 HBv4_24 HBv5_24 HBv6_24 HBv7_24 bw
      clear cv3_0 cv3_1 cv3_2 cv3_3 cv3_4 cv3_5 cv3_6 cv7_0 cv7_1 cv7_2 cv7_3 cv7_4 cv7_5 cv7_6
      have cv6_0 : (w25).cell? ⟨qv6, 0, none⟩ = some (.string ko.p) := (cell_of HBv6_25.out 0).trans rfl
      have cv6_1 : (w25).cell? ⟨qv6, 1, none⟩ = some (.slice oX6 ko.xs.length pX6) := (cell_of HBv6_25.out 1).trans rfl
      have cv6_2 : (w25).cell? ⟨qv6, 2, none⟩ = some (.slice oY6 ko.ys.length pY6) := (cell_of HBv6_25.out 2).trans rfl
      have cv6_3 : (w25).cell? ⟨qv6, 3, none⟩ = some (.int .i64 ko.st) := (cell_of HBv6_25.out 3).trans rfl
      have cv6_4 : (w25).cell? ⟨qv6, 4, none⟩ = some (.slice oG6 ko.fs.length pG6) := (cell_of HBv6_25.out 4).trans rfl
      have cv6_5 : (w25).cell? ⟨qv6, 5, none⟩ = some (.string ko.b) := (cell_of HBv6_25.out 5).trans rfl
      have cv6_6 : (w25).cell? ⟨qv6, 6, none⟩ = some (.int .i64 ko.t) := (cell_of HBv6_25.out 6).trans rfl
      go_wp2_with fail
      refine (heldObj_any ko.p ko.xs.length (mkT 1 ko.xs ko.xs.length) ko.ys.length (mkT (1 + ko.xs.length) ko.ys ko.ys.length) ko.st ko.fs.length (mkG (1 + ko.xs.length + ko.ys.length) ko.fs ko.fs.length) ko.b ko.t _ _ _ _ _ ⟨HOX6_25.out, HOY6_25.out, HOG6_25.out, AP6.out⟩ 1 (by omega) (by have := HLV.out; omega) (fun j hj => mkT_at 1 ko.xs j hj _ hj) (fun j hj => mkT_at (1 + ko.xs.length) ko.ys j hj _ hj) (fun j hj => mkG_at (1 + ko.xs.length + ko.ys.length) ko.fs j ko.fs.length (Nat.le_refl _) hj)).mono ?_
      rintro e w26 ⟨rfl, bw⟩
      have hb26 := hbt hb25 bw
      have HM26 : Hid ((w25).heap.size ≤ (w26).heap.size) := bw.size
      have HOX3_26 := hown HOX3_25 bw
      have HOY3_26 := hown HOY3_25 bw
      have HOG3_26 := hown HOG3_25 bw
      have HOQ5_26 := hown HOQ5_25 bw
      have HOX6_26 := hown HOX6_25 bw
      have HOY6_26 := hown HOY6_25 bw
      have HOG6_26 := hown HOG6_25 bw
      have HOQ8_26 := hown HOQ8_25 bw
      have HOX12_26 := hown HOX12_25 bw
      have HOY12_26 := hown HOY12_25 bw
      have HOG12_26 := hown HOG12_25 bw
      have HBv1_26 := hblk HBv1_25 bw
      have HBv2_26 := hblk HBv2_25 bw
      have HBv3_26 := hblk HBv3_25 bw
      have HBv4_26 := hblk HBv4_25 bw
      have HBv5_26 := hblk HBv5_25 bw
      have HBv6_26 := hblk HBv6_25 bw
      have HBv7_26 := hblk HBv7_25 bw
      clear hb25 HOX3_25 HOY3_25 HOG3_25 HOQ5_25 HOX6_25 HOY6_25 HOG6_25 HOQ8_25 HOX12_25 HOY12_25 HOG12_25 HBv1_25 HBv2_25 HBv3_25 HBv4_25 HBv5_25 HBv6_25 HBv7_25 bw
      have hkh13 : ¬ (((1 + ko.xs.length + ko.ys.length + 2 * ko.fs.length : Nat) : Int) < 0) := by omega
      clear cv6_0 cv6_1 cv6_2 cv6_3 cv6_4 cv6_5 cv6_6
      go_wp2_with fail
      go_ret
      exact ⟨rfl, hb26⟩


end Go.Proofs.YtcipbkkpkhameaaGreat
