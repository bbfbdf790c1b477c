/- ShelfText: at every argument the program answers as the specification (the law answers true), and it writes into no argument: no condition. The card lists the tables that strconv.Itoa's text names. -/
import Derived.Test.YtopeegjmpphjnaaGreatDoorFnExactShelfTextE
import Derived.Test.YtopeegjmpphjnaaGreatDoorTie
import Derived.Test.YtopeegjmpphjnaaGreatDoorCards
import Derived.Below
import Derived.ChangeOld
import Derived.ShutString
import Derived.Deep.RegionHeld3
import Derived.Deep.DrawnRows
import Derived.Deep.CutRange
import Derived.Deep.DeepCutAuto
namespace Go.Proofs.YtopeegjmpphjnaaGreatDoor
namespace fnExactShelfText
open Go.ChangeShapes Go.WideShapes Go.ChangeAt Go.RowKit
open Go.ChangeMaps (open_string shut_string)
attribute [local go_sem ↓] Go.wp_at_zero Go.wp_at_succ

theorem own : ownKnob Tryz.prog.godebug = none := by kernel_rfl
theorem laidOut : laidOutB Tryz.prog = true := by kernel_rfl
/-- A store of bounded size. -/
structure ShLim (s : ShD) : Prop where
  c : s.cs.length ≤ 2000000
  w : s.ws.length ≤ 2000000
  k : s.ks.length ≤ 2000000
  b : s.bl.length ≤ 2000000
  ks : ∀ k ∈ s.ks, k.xs.length ≤ 2000000 ∧ k.ys.length ≤ 2000000 ∧ k.fs.length ≤ 2000000
  m : ∀ kv : List (KpD × Value × Value × Value), kv.map (·.1) = s.ks → 1 + s.cs.length + 2 * s.ws.length + wms kv + 4 * s.bl.length ≤ 99999998
theorem ShLim.kl {s : ShD} (h : ShLim s) (kv : List (KpD × Value × Value × Value)) (hk : kv.map (·.1) = s.ks) : kv.length ≤ 2000000 := by
  have := h.k
  rw [← hk, List.length_map] at this
  exact this
/-- Of no other type is a row. -/
def NoT (R : List Rw) : Prop := ∀ T : TypeId, T ≠ 9 → T ≠ 148 → T ≠ 63 → T ≠ 111 → T ≠ 139 → ∀ r ∈ R, T ≠ r.T
theorem shelf_of {W : World} {b : Nat} {R : List Rw} {v1 v2 V VB : Value} {kv : List (KpD × Value × Value × Value)} {s : ShD} (hR : R = shAll v1 v2 V VB kv s.cs s.ws s.bl) (h : RowsO W b R) (hk : kv.map (·.1) = s.ks) : ShelfO W b v1 v2 V VB kv s := ⟨by rw [← hR]; exact h, hk⟩
theorem allRows_T (T : TypeId) (h1 : T ≠ 9) (h2 : T ≠ 148) (h3 : T ≠ 63) (h4 : T ≠ 111) (h5 : T ≠ 139) {a b c : Rw} {V : Value} {kv : List (KpD × Value × Value × Value)} (ha : a.T = 9) (hb : b.T = 148) (hc : c.T = 111) : ∀ r ∈ [a, b] ++ kpAll V kv ++ [c], T ≠ r.T := by
  intro r hr
  rcases List.mem_append.1 hr with hr | hr
  · rcases List.mem_append.1 hr with hr | hr
    · simp only [List.mem_cons, List.not_mem_nil, or_false] at hr
      rcases hr with rfl | rfl
      · rw [ha]; exact h1
      · rw [hb]; exact h2
    · rcases kpAll_T hr with e | e | e <;> rw [e] <;> assumption
  · rw [List.mem_singleton.1 hr, hc]; exact h4
theorem shAll_T (T : TypeId) (h1 : T ≠ 9) (h2 : T ≠ 148) (h3 : T ≠ 63) (h4 : T ≠ 111) (h5 : T ≠ 139) {v1 v2 V VB : Value} {kv : List (KpD × Value × Value × Value)} {cs : List ByteArray} {ws : List (Int × ByteArray)} {bl : List (Int × ByteArray × ByteArray × Int)} : ∀ r ∈ shAll v1 v2 V VB kv cs ws bl, T ≠ r.T := allRows_T T h1 h2 h3 h4 h5 rfl rfl rfl
theorem mkAll_T (T : TypeId) (h1 : T ≠ 9) (h2 : T ≠ 148) (h3 : T ≠ 63) (h4 : T ≠ 111) (h5 : T ≠ 139) {v1 v2 V VB : Value} {n1 n2 n4 : Nat} {c1 c2 c4 : List Value} {kv : List (KpD × Value × Value × Value)} : ∀ r ∈ [(⟨9, 1, v1, n1, c1⟩ : Rw), ⟨148, 2, v2, n2, c2⟩] ++ kpAll V kv ++ [⟨111, 4, VB, n4, c4⟩], T ≠ r.T := allRows_T T h1 h2 h3 h4 h5 rfl rfl rfl
theorem wtK_ge : ∀ l : List KpD, l.length ≤ wtK l
  | [] => Nat.le_refl _
  | x :: l => by rw [wtK, List.length_cons]; have := wtK_ge l; omega
theorem wms_le : ∀ kv : List (KpD × Value × Value × Value), wms kv ≤ 6 * wtK (kv.map (·.1))
  | [] => Nat.le_refl _
  | x :: l => by
    rw [wms, List.map_cons, wtK]
    have := wms_le l
    unfold wm1
    omega

open Go.Lib hiding intOf
set_option maxHeartbeats 16000000 in
set_option maxRecDepth 100000 in
theorem walk1 (w : World) (a1 : Option Addr) (n1 c1 : Nat) (cs : List ByteArray) (a2 : Option Addr) (n2 c2 : Nat) (ws : List (Int × ByteArray)) (a3 : Option Addr) (n3 c3 : Nat) (ks : List KpD) (a4 : Option Addr) (n4 c4 : Nat) (bl : List (Int × ByteArray × ByteArray × Int)) (nx sq : Int) (h1 : ArgT w w.heap.size a1 n1 cs) (h2 : ArgWrite w w.heap.size a2 n2 ws) (h3 : ArgKept w w.heap.size a3 n3 ks) (h4 : ArgBan w w.heap.size a4 n4 bl) (hm : n1 ≤ maxLen ∧ n2 ≤ maxLen ∧ n3 ≤ maxLen ∧ n4 ≤ maxLen ∧ (∀ i, i < n1 → (textAt cs i).size ≤ maxLen) ∧ (∀ x ∈ ws, (x.2).size ≤ maxLen) ∧ (∀ k ∈ ks, KpMax k) ∧ ∀ x ∈ bl, (x.2.1).size ≤ maxLen ∧ (x.2.2.1).size ≤ maxLen) (hT : TabOk w) :
    Calls Tryz.prog 3 #[.agg #[.slice a1 n1 c1, .slice a2 n2 c2, .slice a3 n3 c3, .slice a4 n4 c4, .int .i64 nx, .int .i64 sq]] w fun e w' => e = .returned (.bool true) ∧ Below w.heap.size w w' := by
  have HA1 : Hid (∀ W, Below w.heap.size w W → ArgT W w.heap.size a1 n1 cs) := fun W h => h1.below h
  have HA2 : Hid (∀ W, Below w.heap.size w W → ArgWrite W w.heap.size a2 n2 ws) := fun W h => h2.below h
  have HA3 : Hid (∀ W, Below w.heap.size w W → ArgKept W w.heap.size a3 n3 ks) := fun W h => h3.below h
  have HA4 : Hid (∀ W, Below w.heap.size w W → ArgBan W w.heap.size a4 n4 bl) := fun W h => h4.below h
  have HL : Hid (cs.length = n1 ∧ ws.length = n2 ∧ ks.length = n3 ∧ bl.length = n4) := ⟨h1.len, h2.1, h3.1, h4.1⟩
  have HMX : Hid (n1 ≤ maxLen ∧ n2 ≤ maxLen ∧ n3 ≤ maxLen ∧ n4 ≤ maxLen ∧ (∀ i, i < n1 → (textAt cs i).size ≤ maxLen) ∧ (∀ x ∈ ws, (x.2).size ≤ maxLen) ∧ (∀ k ∈ ks, KpMax k) ∧ ∀ x ∈ bl, (x.2.1).size ≤ maxLen ∧ (x.2.2.1).size ≤ maxLen) := hm
  clear h1 h2 h3 h4 hm
  have HT : Hid (∀ W, Below w.heap.size w W → TabOk W) := fun W h => hT.below h
  clear hT
  have hb0 : Below w.heap.size w w := Below.refl _ _
  go_enter Tryz.func3, Tryz.ntmps3
  go_upto_region 1 with fail
  obtain ⟨qv1, hqv1⟩ : ∃ q, q = (w).heap.size := ⟨_, rfl⟩
  obtain ⟨w1, hW1⟩ : ∃ W, W = (w).alloc (.cells #[.slice a1 n1 c1, .slice a2 n2 c2, .slice a3 n3 c3, .slice a4 n4 c4, .int .i64 nx, .int .i64 sq] 29) := ⟨_, rfl⟩
  have hz1 : (w).heap.size = qv1 := hqv1.symm
  first | rw [← hW1, ← hqv1] | rw [← hW1]
  have hs1 : w1.heap.size = qv1 + 1 := by rw [hW1, ← hz1]; simp
  have bw : Below (w).heap.size (w) w1 := by rw [hW1]; exact (Below.refl _ _).alloc (Nat.le_refl _) _
  have hb1 : Below w.heap.size w (w1) := hb0.trans (bw.mono hb0.size)
  have HM1 : Hid ((w).heap.size ≤ (w1).heap.size) := bw.size
  have HBv1_1 : Hid ((w1).heap[qv1]? = some (.cells #[.slice a1 n1 c1, .slice a2 n2 c2, .slice a3 n3 c3, .slice a4 n4 c4, .int .i64 nx, .int .i64 sq] 29)) := by show _ = _; rw [hW1, ← hz1]; exact heap_alloc_new _ _
  have HGv1 : Hid (w.heap.size ≤ qv1) := by show _ ≤ _; rw [← hz1]; exact hb0.size
  clear hb0 bw hW1 hz1
  clear hs1 hqv1
  have cv1_0 : (w1).cell? ⟨qv1, 0, none⟩ = some (.slice a1 n1 c1) := (cell_of HBv1_1.out 0).trans rfl
  have cv1_1 : (w1).cell? ⟨qv1, 1, none⟩ = some (.slice a2 n2 c2) := (cell_of HBv1_1.out 1).trans rfl
  have cv1_2 : (w1).cell? ⟨qv1, 2, none⟩ = some (.slice a3 n3 c3) := (cell_of HBv1_1.out 2).trans rfl
  have cv1_3 : (w1).cell? ⟨qv1, 3, none⟩ = some (.slice a4 n4 c4) := (cell_of HBv1_1.out 3).trans rfl
  have cv1_4 : (w1).cell? ⟨qv1, 4, none⟩ = some (.int .i64 nx) := (cell_of HBv1_1.out 4).trans rfl
  have cv1_5 : (w1).cell? ⟨qv1, 5, none⟩ = some (.int .i64 sq) := (cell_of HBv1_1.out 5).trans rfl
  go_wp2_with fail
  refine (szShelf_any 1048576 (by omega) (by omega) a1 n1 c1 cs a2 n2 c2 ws a3 n3 c3 ks a4 n4 c4 bl nx sq w.heap.size _ (HA1.out _ hb1) (HA2.out _ hb1) (HA3.out _ hb1) (HA4.out _ hb1) hb1.size HMX.out).mono ?_
  rintro e w2 ⟨r1, rfl, hl1, hr1, bw⟩
  have hb2 : Below w.heap.size w (w2) := hb1.trans (bw.mono hb1.size)
  have HM2 : Hid ((w1).heap.size ≤ (w2).heap.size) := bw.size
  have HBv1_2 : Hid ((w2).heap[qv1]? = some (.cells #[.slice a1 n1 c1, .slice a2 n2 c2, .slice a3 n3 c3, .slice a4 n4 c4, .int .i64 nx, .int .i64 sq] 29)) := blk_below HBv1_1.out bw
  clear hb1 HBv1_1 bw
  clear cv1_0 cv1_1 cv1_2 cv1_3 cv1_4 cv1_5
  by_cases hc1 : r1 < 0
  · clear hr1
    go_wp2_with fail
    go_ret
    exact ⟨rfl, hb2⟩
  · obtain ⟨hr2, ⟨hm1, hz1⟩, ⟨hm2, hz2⟩, hz3, hm4, hz4⟩ := hr1 (by omega)
    obtain ⟨sa, hsa⟩ : ∃ s, s = (⟨cs, ws, ks, bl, nx, sq⟩ : ShD) := ⟨_, rfl⟩
    have hwt : ks.length ≤ wtK ks := wtK_ge ks
    have HKL : Hid (n3 ≤ 1048576) := by rw [← HL.out.2.2.1]; show _ ≤ _; omega
    have HSMALL : Hid (ShSmall sa) := by
      show ShSmall sa
      rw [hsa]
      exact ⟨by rw [HL.out.1]; exact hm1, by rw [HL.out.2.1]; exact hm2, by rw [HL.out.2.2.1]; exact HKL.out, by rw [HL.out.2.2.2]; exact hm4, by rw [HL.out.1]; exact hz1, hz2, hz3, hz4⟩
    have HLIMsa : Hid (ShLim sa) := by
      have hs := HSMALL.out
      refine ⟨Nat.le_trans hs.c (by decide), Nat.le_trans hs.w (by decide), Nat.le_trans hs.k (by decide), Nat.le_trans hs.b (by decide), fun k hk => ⟨Nat.le_trans (hs.ks k hk).2.1.1 (by decide), Nat.le_trans (hs.ks k hk).2.2.1.1 (by decide), Nat.le_trans (hs.ks k hk).2.2.2.1 (by decide)⟩, fun kv hk => ?_⟩
      have h1 := wms_le kv
      rw [hk] at h1
      rw [hsa] at h1 ⊢
      dsimp only at h1 ⊢
      have := HL.out
      omega
    have HROOM : Hid (∀ kv : List (KpD × Value × Value × Value), kv.map (·.1) = sa.ks → 1 + sa.cs.length + 2 * sa.ws.length + wms kv + 4 * sa.bl.length + 6 * r1.toNat ≤ 6291457) := fun kv hk => by
      have h1 := wms_le kv
      rw [hk] at h1
      rw [hsa] at h1 ⊢
      dsimp only at h1 ⊢
      have := HL.out
      omega
    have HTO : Hid (∀ W : World, Below w.heap.size w W → Calls Tryz.prog 7 #[.agg #[.slice a1 n1 c1, .slice a2 n2 c2, .slice a3 n3 c3, .slice a4 n4 c4, .int .i64 nx, .int .i64 sq]] W fun e w' => ShelfIs sa W e w') := fun W hW => by
      rw [hsa]
      exact toShelf_any a1 n1 c1 cs a2 n2 c2 ws a3 n3 c3 ks a4 n4 c4 bl nx sq w.heap.size W (HA1.out W hW) (HA2.out W hW) (HA3.out W hW) (HA4.out W hW) hW.size hm1 hm2 HKL.out hm4 (fun k hk => ⟨(hz3 k hk).2.1.1, (hz3 k hk).2.2.1.1, (hz3 k hk).2.2.2.1⟩)
    clear hsa hr1 hr2 hz1 hz2 hz3 hz4 hwt
    obtain ⟨p, hp⟩ : ∃ p, p = shelfT sa := ⟨_, rfl⟩
    have HSP : Hid (∀ W : World, Below w.heap.size w W → ∀ (v1 v2 V VB : Value) (kv : List (KpD × Value × Value × Value)) (B : Nat), ShelfO W B v1 v2 V VB kv sa → Calls Tryz.prog 6 #[.agg #[v1, v2, V, VB, .int .i64 sa.nx, .int .i64 sa.sq]] W fun e w' => TextIs p W e w') := fun W _ v1 v2 V VB kv B ho => by rw [hp]; exact specShelfText_any v1 v2 V VB kv sa B W ho HSMALL.out
    have HIM : Hid (∀ W : World, Below w.heap.size w W → ∀ (v1 v2 V VB : Value) (kv : List (KpD × Value × Value × Value)) (B : Nat), ShelfO W B v1 v2 V VB kv sa → Calls Tryz.prog 8 #[.agg #[v1, v2, V, VB, .int .i64 sa.nx, .int .i64 sa.sq]] W fun e w' => TextIs p W e w') := fun W hW v1 v2 V VB kv B ho => by rw [hp]; exact implShelfText_any v1 v2 V VB kv sa B W ho HSMALL.out (HT.out W hW)
    clear hp
    have cv1_0 : (w2).cell? ⟨qv1, 0, none⟩ = some (.slice a1 n1 c1) := (cell_of HBv1_2.out 0).trans rfl
    have cv1_1 : (w2).cell? ⟨qv1, 1, none⟩ = some (.slice a2 n2 c2) := (cell_of HBv1_2.out 1).trans rfl
    have cv1_2 : (w2).cell? ⟨qv1, 2, none⟩ = some (.slice a3 n3 c3) := (cell_of HBv1_2.out 2).trans rfl
    have cv1_3 : (w2).cell? ⟨qv1, 3, none⟩ = some (.slice a4 n4 c4) := (cell_of HBv1_2.out 3).trans rfl
    have cv1_4 : (w2).cell? ⟨qv1, 4, none⟩ = some (.int .i64 nx) := (cell_of HBv1_2.out 4).trans rfl
    have cv1_5 : (w2).cell? ⟨qv1, 5, none⟩ = some (.int .i64 sq) := (cell_of HBv1_2.out 5).trans rfl
    go_wp2_with fail
    refine (HTO.out _ hb2).mono ?_
    rintro e w3 ⟨va, vb, vc, vd, kv1, rfl, hso, bw⟩
    obtain ⟨oC1, pC1, rfl⟩ := slice_of_owns hso.disk.cells
    obtain ⟨oP1, pP1, rfl⟩ := slice_of_owns hso.disk.pend
    obtain ⟨oK1, pK1, rfl⟩ := hso.kept.len
    obtain ⟨oB1, pB1, rfl⟩ := slice_of_owns hso.bans
    obtain ⟨R1, hR1⟩ : ∃ R, R = shAll (.slice oC1 sa.cs.length pC1) (.slice oP1 sa.ws.length pP1) (.slice oK1 kv1.length pK1) (.slice oB1 sa.bl.length pB1) kv1 sa.cs sa.ws sa.bl := ⟨_, rfl⟩
    obtain ⟨b1, hbq1⟩ : ∃ b, b = (w2).heap.size := ⟨_, rfl⟩
    obtain ⟨t1, htq1⟩ : ∃ t, t = (w3).heap.size := ⟨_, rfl⟩
    have hbk1 := hb2.size
    have hb3 : Below w.heap.size w (w3) := hb2.trans (bw.mono hb2.size)
    have HM3 : Hid ((w2).heap.size ≤ (w3).heap.size) := bw.size
    have HBv1_3 : Hid ((w3).heap[qv1]? = some (.cells #[.slice a1 n1 c1, .slice a2 n2 c2, .slice a3 n3 c3, .slice a4 n4 c4, .int .i64 nx, .int .i64 sq] 29)) := blk_below HBv1_2.out bw
    clear hb2 HBv1_2 bw
    have ES1_3 : Hid (RowsO (w3) b1 (R1)) := by show RowsO _ _ _; rw [hbq1, hR1]; exact hso.1
    have HKM1 : Hid (kv1.map (·.1) = sa.ks) := hso.2
    have HU1 : Hid (∀ r ∈ R1, ∀ g, r.v.ownBlock = some g → g < t1) := fun r hr g hg => by rw [htq1]; rw [hR1] at hr; exact hso.1.lt hr hg
    have HRQ1 : Hid (R1 = shAll (.slice oC1 sa.cs.length pC1) (.slice oP1 sa.ws.length pP1) (.slice oK1 kv1.length pK1) (.slice oB1 sa.bl.length pB1) kv1 sa.cs sa.ws sa.bl) := hR1
    have HTY1 : Hid (NoT R1) := fun T h1 h2 h3 h4 h5 r hr => by rw [hR1] at hr; exact shAll_T T h1 h2 h3 h4 h5 r hr
    clear hR1
    have HBW1 : Hid (b1 ≥ w.heap.size) := by show _ ≤ _; rw [hbq1]; exact hbk1
    have HBK1 : Hid (b1 = w2.heap.size) := hbq1
    have HTK1 : Hid (t1 = w3.heap.size) := htq1
    clear hso hbq1 htq1 hbk1
    clear cv1_0 cv1_1 cv1_2 cv1_3 cv1_4 cv1_5
    go_wp2_with fail
    refine (HSP.out _ hb3 _ _ _ _ _ _ (shelf_of HRQ1.out ES1_3.out HKM1.out)).mono ?_
    rintro e w4 ⟨rfl, bw⟩
    have hb4 : Below w.heap.size w (w4) := hb3.trans (bw.mono hb3.size)
    have HM4 : Hid ((w3).heap.size ≤ (w4).heap.size) := bw.size
    have HBv1_4 : Hid ((w4).heap[qv1]? = some (.cells #[.slice a1 n1 c1, .slice a2 n2 c2, .slice a3 n3 c3, .slice a4 n4 c4, .int .i64 nx, .int .i64 sq] 29)) := blk_below HBv1_3.out bw
    have ES1_4 : Hid (RowsO (w4) b1 (R1)) := ES1_3.out.below bw
    clear hb3 HBv1_3 ES1_3 bw
    have cv1_0 : (w4).cell? ⟨qv1, 0, none⟩ = some (.slice a1 n1 c1) := (cell_of HBv1_4.out 0).trans rfl
    have cv1_1 : (w4).cell? ⟨qv1, 1, none⟩ = some (.slice a2 n2 c2) := (cell_of HBv1_4.out 1).trans rfl
    have cv1_2 : (w4).cell? ⟨qv1, 2, none⟩ = some (.slice a3 n3 c3) := (cell_of HBv1_4.out 2).trans rfl
    have cv1_3 : (w4).cell? ⟨qv1, 3, none⟩ = some (.slice a4 n4 c4) := (cell_of HBv1_4.out 3).trans rfl
    have cv1_4 : (w4).cell? ⟨qv1, 4, none⟩ = some (.int .i64 nx) := (cell_of HBv1_4.out 4).trans rfl
    have cv1_5 : (w4).cell? ⟨qv1, 5, none⟩ = some (.int .i64 sq) := (cell_of HBv1_4.out 5).trans rfl
    go_wp2_with fail
    refine (HTO.out _ hb4).mono ?_
    rintro e w5 ⟨va, vb, vc, vd, kv2, rfl, hso, bw⟩
    obtain ⟨oC2, pC2, rfl⟩ := slice_of_owns hso.disk.cells
    obtain ⟨oP2, pP2, rfl⟩ := slice_of_owns hso.disk.pend
    obtain ⟨oK2, pK2, rfl⟩ := hso.kept.len
    obtain ⟨oB2, pB2, rfl⟩ := slice_of_owns hso.bans
    obtain ⟨R2, hR2⟩ : ∃ R, R = shAll (.slice oC2 sa.cs.length pC2) (.slice oP2 sa.ws.length pP2) (.slice oK2 kv2.length pK2) (.slice oB2 sa.bl.length pB2) kv2 sa.cs sa.ws sa.bl := ⟨_, rfl⟩
    obtain ⟨b2, hbq2⟩ : ∃ b, b = (w4).heap.size := ⟨_, rfl⟩
    obtain ⟨t2, htq2⟩ : ∃ t, t = (w5).heap.size := ⟨_, rfl⟩
    have hbk2 := hb4.size
    have hb5 : Below w.heap.size w (w5) := hb4.trans (bw.mono hb4.size)
    have HM5 : Hid ((w4).heap.size ≤ (w5).heap.size) := bw.size
    have HBv1_5 : Hid ((w5).heap[qv1]? = some (.cells #[.slice a1 n1 c1, .slice a2 n2 c2, .slice a3 n3 c3, .slice a4 n4 c4, .int .i64 nx, .int .i64 sq] 29)) := blk_below HBv1_4.out bw
    have ES1_5 : Hid (RowsO (w5) b1 (R1)) := ES1_4.out.below bw
    clear hb4 HBv1_4 ES1_4 bw
    have ES2_5 : Hid (RowsO (w5) b2 (R2)) := by show RowsO _ _ _; rw [hbq2, hR2]; exact hso.1
    have HKM2 : Hid (kv2.map (·.1) = sa.ks) := hso.2
    have HU2 : Hid (∀ r ∈ R2, ∀ g, r.v.ownBlock = some g → g < t2) := fun r hr g hg => by rw [htq2]; rw [hR2] at hr; exact hso.1.lt hr hg
    have HRQ2 : Hid (R2 = shAll (.slice oC2 sa.cs.length pC2) (.slice oP2 sa.ws.length pP2) (.slice oK2 kv2.length pK2) (.slice oB2 sa.bl.length pB2) kv2 sa.cs sa.ws sa.bl) := hR2
    have HTY2 : Hid (NoT R2) := fun T h1 h2 h3 h4 h5 r hr => by rw [hR2] at hr; exact shAll_T T h1 h2 h3 h4 h5 r hr
    clear hR2
    have HBW2 : Hid (b2 ≥ w.heap.size) := by show _ ≤ _; rw [hbq2]; exact hbk2
    have HBK2 : Hid (b2 = w4.heap.size) := hbq2
    have HTK2 : Hid (t2 = w5.heap.size) := htq2
    clear hso hbq2 htq2 hbk2
    clear cv1_0 cv1_1 cv1_2 cv1_3 cv1_4 cv1_5
    go_upto_region 7 with fail
    obtain ⟨qv2, hqv2⟩ : ∃ q, q = (w5).heap.size := ⟨_, rfl⟩
    obtain ⟨w6, hW6⟩ : ∃ W, W = (w5).alloc (.cells #[(.slice oC2 sa.cs.length pC2), (.slice oP2 sa.ws.length pP2), (.slice oK2 kv2.length pK2), (.slice oB2 sa.bl.length pB2), .int .i64 sa.nx, .int .i64 sa.sq] 38) := ⟨_, rfl⟩
    have hz6 : (w5).heap.size = qv2 := hqv2.symm
    first | rw [← hW6, ← hqv2] | rw [← hW6]
    have hs6 : w6.heap.size = qv2 + 1 := by rw [hW6, ← hz6]; simp
    have bw : Below (w5).heap.size (w5) w6 := by rw [hW6]; exact (Below.refl _ _).alloc (Nat.le_refl _) _
    have hb6 : Below w.heap.size w (w6) := hb5.trans (bw.mono hb5.size)
    have HM6 : Hid ((w5).heap.size ≤ (w6).heap.size) := bw.size
    have HBv1_6 : Hid ((w6).heap[qv1]? = some (.cells #[.slice a1 n1 c1, .slice a2 n2 c2, .slice a3 n3 c3, .slice a4 n4 c4, .int .i64 nx, .int .i64 sq] 29)) := blk_below HBv1_5.out bw
    have ES1_6 : Hid (RowsO (w6) b1 (R1)) := ES1_5.out.below bw
    have ES2_6 : Hid (RowsO (w6) b2 (R2)) := ES2_5.out.below bw
    have HNv1v2 : Hid (qv1 ≠ qv2) := fun e => by have h1 := (Array.getElem?_eq_some_iff.1 HBv1_5.out).1; omega
    have HBv2_6 : Hid ((w6).heap[qv2]? = some (.cells #[(.slice oC2 sa.cs.length pC2), (.slice oP2 sa.ws.length pP2), (.slice oK2 kv2.length pK2), (.slice oB2 sa.bl.length pB2), .int .i64 sa.nx, .int .i64 sa.sq] 38)) := by show _ = _; rw [hW6, ← hz6]; exact heap_alloc_new _ _
    have HGv2 : Hid (w.heap.size ≤ qv2) := by show _ ≤ _; rw [← hz6]; exact hb5.size
    clear hb5 HBv1_5 ES1_5 ES2_5 bw hW6 hz6
    clear hs6 hqv2
    have cv2_0 : (w6).cell? ⟨qv2, 0, none⟩ = some ((.slice oC2 sa.cs.length pC2)) := (cell_of HBv2_6.out 0).trans rfl
    have cv2_1 : (w6).cell? ⟨qv2, 1, none⟩ = some ((.slice oP2 sa.ws.length pP2)) := (cell_of HBv2_6.out 1).trans rfl
    have cv2_2 : (w6).cell? ⟨qv2, 2, none⟩ = some ((.slice oK2 kv2.length pK2)) := (cell_of HBv2_6.out 2).trans rfl
    have cv2_3 : (w6).cell? ⟨qv2, 3, none⟩ = some ((.slice oB2 sa.bl.length pB2)) := (cell_of HBv2_6.out 3).trans rfl
    have cv2_4 : (w6).cell? ⟨qv2, 4, none⟩ = some (.int .i64 sa.nx) := (cell_of HBv2_6.out 4).trans rfl
    have cv2_5 : (w6).cell? ⟨qv2, 5, none⟩ = some (.int .i64 sa.sq) := (cell_of HBv2_6.out 5).trans rfl
    go_wp2_with fail
    refine (HIM.out _ hb6 _ _ _ _ _ _ (shelf_of HRQ2.out ES2_6.out HKM2.out)).mono ?_
    rintro e w7 ⟨rfl, bw⟩
    have hb7 : Below w.heap.size w (w7) := hb6.trans (bw.mono hb6.size)
    have HM7 : Hid ((w6).heap.size ≤ (w7).heap.size) := bw.size
    have HBv1_7 : Hid ((w7).heap[qv1]? = some (.cells #[.slice a1 n1 c1, .slice a2 n2 c2, .slice a3 n3 c3, .slice a4 n4 c4, .int .i64 nx, .int .i64 sq] 29)) := blk_below HBv1_6.out bw
    have HBv2_7 : Hid ((w7).heap[qv2]? = some (.cells #[(.slice oC2 sa.cs.length pC2), (.slice oP2 sa.ws.length pP2), (.slice oK2 kv2.length pK2), (.slice oB2 sa.bl.length pB2), .int .i64 sa.nx, .int .i64 sa.sq] 38)) := blk_below HBv2_6.out bw
    have ES1_7 : Hid (RowsO (w7) b1 (R1)) := ES1_6.out.below bw
    have ES2_7 : Hid (RowsO (w7) b2 (R2)) := ES2_6.out.below bw
    clear hb6 HBv1_6 HBv2_6 ES1_6 ES2_6 bw
    clear cv2_0 cv2_1 cv2_2 cv2_3 cv2_4 cv2_5
    go_upto_region 10 with fail
    refine wp_region_held_drew (S := fun W => W.heap[qv2]? = some (.cells #[(.slice oC2 sa.cs.length pC2), (.slice oP2 sa.ws.length pP2), (.slice oK2 kv2.length pK2), (.slice oB2 sa.bl.length pB2), .int .i64 sa.nx, .int .i64 sa.sq] 38) ∧ W.heap[qv1]? = some (.cells #[.slice a1 n1 c1, .slice a2 n2 c2, .slice a3 n3 c3, .slice a4 n4 c4, .int .i64 nx, .int .i64 sq] 29)) (by kernel_rfl) ⟨HBv2_7.out, HBv1_7.out⟩ (fun _ => ?_)
    obtain ⟨w8, hX⟩ : ∃ X, X = w7.drew := ⟨_, rfl⟩
    have bw : Below w7.heap.size w7 w8 := by rw [hX]; exact (Below.refl _ _).drew
    rw [← hX]
    have hb8 : Below w.heap.size w (w8) := hb7.trans (bw.mono hb7.size)
    have HM8 : Hid ((w7).heap.size ≤ (w8).heap.size) := bw.size
    have HBv1_8 : Hid ((w8).heap[qv1]? = some (.cells #[.slice a1 n1 c1, .slice a2 n2 c2, .slice a3 n3 c3, .slice a4 n4 c4, .int .i64 nx, .int .i64 sq] 29)) := blk_below HBv1_7.out bw
    have HBv2_8 : Hid ((w8).heap[qv2]? = some (.cells #[(.slice oC2 sa.cs.length pC2), (.slice oP2 sa.ws.length pP2), (.slice oK2 kv2.length pK2), (.slice oB2 sa.bl.length pB2), .int .i64 sa.nx, .int .i64 sa.sq] 38)) := blk_below HBv2_7.out bw
    have ES1_8 : Hid (RowsO (w8) b1 (R1)) := ES1_7.out.below bw
    have ES2_8 : Hid (RowsO (w8) b2 (R2)) := ES2_7.out.below bw
    have hS8 : w8.heap[qv2]? = some (.cells #[(.slice oC2 sa.cs.length pC2), (.slice oP2 sa.ws.length pP2), (.slice oK2 kv2.length pK2), (.slice oB2 sa.bl.length pB2), .int .i64 sa.nx, .int .i64 sa.sq] 38) ∧ w8.heap[qv1]? = some (.cells #[.slice a1 n1 c1, .slice a2 n2 c2, .slice a3 n3 c3, .slice a4 n4 c4, .int .i64 nx, .int .i64 sq] 29) := ⟨HBv2_8.out, HBv1_8.out⟩
    clear hb7 HBv1_7 HBv2_7 ES1_7 ES2_7 bw hX
    refine wpAnyH_takeD (i := 0) (v := .agg #[(.slice oC2 sa.cs.length pC2), (.slice oP2 sa.ws.length pP2), (.slice oK2 kv2.length pK2), (.slice oB2 sa.bl.length pB2), .int .i64 sa.nx, .int .i64 sa.sq]) (some 22) rfl rfl (by kernel_rfl) (by kernel_rfl) (by kernel_rfl) (fun _ _ _ h => h) (Or.inl ⟨by rfl, by intro W hW; obtain ⟨hhv2, hhv1⟩ := hW; have y0 := (cell_of hhv2 0).trans rfl; have y1 := (cell_of hhv2 1).trans rfl; have y2 := (cell_of hhv2 2).trans rfl; have y3 := (cell_of hhv2 3).trans rfl; have y4 := (cell_of hhv2 4).trans rfl; have y5 := (cell_of hhv2 5).trans rfl; go_simp⟩) hS8 ?_
    simp only [Act.put, List.setIfInBounds_toArray, List.set_cons_zero, List.set_cons_succ]
    refine wpAnyH_takeD (i := 1) (v := .agg #[.slice a1 n1 c1, .slice a2 n2 c2, .slice a3 n3 c3, .slice a4 n4 c4, .int .i64 nx, .int .i64 sq]) (some 23) rfl rfl (by kernel_rfl) (by kernel_rfl) (by kernel_rfl) (fun _ _ _ h => h) (Or.inl ⟨by rfl, by intro W hW; obtain ⟨hhv2, hhv1⟩ := hW; have y0 := (cell_of hhv1 0).trans rfl; have y1 := (cell_of hhv1 1).trans rfl; have y2 := (cell_of hhv1 2).trans rfl; have y3 := (cell_of hhv1 3).trans rfl; have y4 := (cell_of hhv1 4).trans rfl; have y5 := (cell_of hhv1 5).trans rfl; go_simp⟩) hS8 ?_
    simp only [Act.put, List.setIfInBounds_toArray, List.set_cons_zero, List.set_cons_succ]
    refine wpAnyH_ready (rs := [2]) (by kernel_rfl) (by simp) ?_
    refine AllReadyH.cons rfl (fun K hK => ?_) AllReadyH.nil
    go_simp
    refine (HTO.out _ hb8).mono ?_
    rintro e w9 ⟨va, vb, vc, vd, kv3, rfl, hso, bw⟩
    obtain ⟨oC3, pC3, rfl⟩ := slice_of_owns hso.disk.cells
    obtain ⟨oP3, pP3, rfl⟩ := slice_of_owns hso.disk.pend
    obtain ⟨oK3, pK3, rfl⟩ := hso.kept.len
    obtain ⟨oB3, pB3, rfl⟩ := slice_of_owns hso.bans
    obtain ⟨R3, hR3⟩ : ∃ R, R = shAll (.slice oC3 sa.cs.length pC3) (.slice oP3 sa.ws.length pP3) (.slice oK3 kv3.length pK3) (.slice oB3 sa.bl.length pB3) kv3 sa.cs sa.ws sa.bl := ⟨_, rfl⟩
    obtain ⟨b3, hbq3⟩ : ∃ b, b = (w8).heap.size := ⟨_, rfl⟩
    obtain ⟨t3, htq3⟩ : ∃ t, t = (w9).heap.size := ⟨_, rfl⟩
    have hbk3 := hb8.size
    have hb9 : Below w.heap.size w (w9) := hb8.trans (bw.mono hb8.size)
    have HM9 : Hid ((w8).heap.size ≤ (w9).heap.size) := bw.size
    have HBv1_9 : Hid ((w9).heap[qv1]? = some (.cells #[.slice a1 n1 c1, .slice a2 n2 c2, .slice a3 n3 c3, .slice a4 n4 c4, .int .i64 nx, .int .i64 sq] 29)) := blk_below HBv1_8.out bw
    have HBv2_9 : Hid ((w9).heap[qv2]? = some (.cells #[(.slice oC2 sa.cs.length pC2), (.slice oP2 sa.ws.length pP2), (.slice oK2 kv2.length pK2), (.slice oB2 sa.bl.length pB2), .int .i64 sa.nx, .int .i64 sa.sq] 38)) := blk_below HBv2_8.out bw
    have ES1_9 : Hid (RowsO (w9) b1 (R1)) := ES1_8.out.below bw
    have ES2_9 : Hid (RowsO (w9) b2 (R2)) := ES2_8.out.below bw
    clear hb8 HBv1_8 HBv2_8 ES1_8 ES2_8 bw
    have ES3_9 : Hid (RowsO (w9) b3 (R3)) := by show RowsO _ _ _; rw [hbq3, hR3]; exact hso.1
    have HKM3 : Hid (kv3.map (·.1) = sa.ks) := hso.2
    have HU3 : Hid (∀ r ∈ R3, ∀ g, r.v.ownBlock = some g → g < t3) := fun r hr g hg => by rw [htq3]; rw [hR3] at hr; exact hso.1.lt hr hg
    have HRQ3 : Hid (R3 = shAll (.slice oC3 sa.cs.length pC3) (.slice oP3 sa.ws.length pP3) (.slice oK3 kv3.length pK3) (.slice oB3 sa.bl.length pB3) kv3 sa.cs sa.ws sa.bl) := hR3
    have HTY3 : Hid (NoT R3) := fun T h1 h2 h3 h4 h5 r hr => by rw [hR3] at hr; exact shAll_T T h1 h2 h3 h4 h5 r hr
    clear hR3
    have HBW3 : Hid (b3 ≥ w.heap.size) := by show _ ≤ _; rw [hbq3]; exact hbk3
    have HBK3 : Hid (b3 = w8.heap.size) := hbq3
    have HTK3 : Hid (t3 = w9.heap.size) := htq3
    clear hso hbq3 htq3 hbk3
    have hS9 : w9.heap[qv2]? = some (.cells #[(.slice oC2 sa.cs.length pC2), (.slice oP2 sa.ws.length pP2), (.slice oK2 kv2.length pK2), (.slice oB2 sa.bl.length pB2), .int .i64 sa.nx, .int .i64 sa.sq] 38) ∧ w9.heap[qv1]? = some (.cells #[.slice a1 n1 c1, .slice a2 n2 c2, .slice a3 n3 c3, .slice a4 n4 c4, .int .i64 nx, .int .i64 sq] 29) := ⟨HBv2_9.out, HBv1_9.out⟩
    refine hK.out _ _ hS9 (fun _ => ?_)
    clear hK K hS8
    refine wpAnyH_ready (rs := [3]) (by kernel_rfl) (by simp) ?_
    refine AllReadyH.cons rfl (fun K hK => ?_) AllReadyH.nil
    go_simp
    refine (eqShelf_any sa _ _ _ _ _ _ _ _ _ _ _ _ _ (shelf_of HRQ2.out ES2_9.out HKM2.out) (shelf_of HRQ3.out ES3_9.out HKM3.out) HLIMsa.out.c HLIMsa.out.w HLIMsa.out.k HLIMsa.out.b HLIMsa.out.ks).mono ?_
    rintro e w10 ⟨rfl, bw⟩
    have hb10 : Below w.heap.size w (w10) := hb9.trans (bw.mono hb9.size)
    have HM10 : Hid ((w9).heap.size ≤ (w10).heap.size) := bw.size
    have HBv1_10 : Hid ((w10).heap[qv1]? = some (.cells #[.slice a1 n1 c1, .slice a2 n2 c2, .slice a3 n3 c3, .slice a4 n4 c4, .int .i64 nx, .int .i64 sq] 29)) := blk_below HBv1_9.out bw
    have HBv2_10 : Hid ((w10).heap[qv2]? = some (.cells #[(.slice oC2 sa.cs.length pC2), (.slice oP2 sa.ws.length pP2), (.slice oK2 kv2.length pK2), (.slice oB2 sa.bl.length pB2), .int .i64 sa.nx, .int .i64 sa.sq] 38)) := blk_below HBv2_9.out bw
    have ES1_10 : Hid (RowsO (w10) b1 (R1)) := ES1_9.out.below bw
    have ES2_10 : Hid (RowsO (w10) b2 (R2)) := ES2_9.out.below bw
    have ES3_10 : Hid (RowsO (w10) b3 (R3)) := ES3_9.out.below bw
    clear hb9 HBv1_9 HBv2_9 ES1_9 ES2_9 ES3_9 bw
    clear ES1_10
    clear ES3_10
    have hS10 : w10.heap[qv2]? = some (.cells #[(.slice oC2 sa.cs.length pC2), (.slice oP2 sa.ws.length pP2), (.slice oK2 kv2.length pK2), (.slice oB2 sa.bl.length pB2), .int .i64 sa.nx, .int .i64 sa.sq] 38) ∧ w10.heap[qv1]? = some (.cells #[.slice a1 n1 c1, .slice a2 n2 c2, .slice a3 n3 c3, .slice a4 n4 c4, .int .i64 nx, .int .i64 sq] 29) := ⟨HBv2_10.out, HBv1_10.out⟩
    refine hK.out _ _ hS10 (fun _ => ?_)
    clear hK K hS9
    refine wpAnyH_takeD (i := 4) (v := .bool false) (some 26) rfl rfl (by kernel_rfl) (by kernel_rfl) (by kernel_rfl) (fun _ _ _ h => h) (Or.inl ⟨by rfl, by intro W _; go_simp⟩) hS10 ?_
    simp only [Act.put, List.setIfInBounds_toArray, List.set_cons_zero, List.set_cons_succ]
    clear hS10
    refine wpAnyH_done (by kernel_rfl) ?_ _
    go_wp2_with fail
    go_ret
    exact ⟨rfl, hb10⟩


set_option maxRecDepth 100000 in
theorem contract (H : Type) (enc : TypeId × Value → H) (W : World) (base : Nat) (args : Array Value) (ds gs : List (DataW H)) (before : List MemPlace)
    (hval : ∀ (j : Nat) t v, Tryz.f3.params[j]? = some t → args[j]? = some v → Value.okWide Tryz.prog W .any base t v)
    (hW : DataW.Whole enc Tryz.prog Tryz.f3.params.toList Rows.fnExactShelfTextSpec.vars false W args.toList ds gs before) (hL : laidMetH Tryz.prog Rows.fnExactShelfTextRow.laid W) (_ : W.ShapedOpen Tryz.prog) :
    Calls Tryz.prog 3 args W fun e W' => ∃ v, e = .returned v ∧ Rows.fnExactShelfTextSpec.post enc Tryz.prog Tryz.f3 false true false false W args v W' := by
  have hT : TabOk W := table hL
  have hW' := hW
  obtain ⟨p, q, hA0, hV, rfl, hfz, hnd⟩ := hW
  have hA : DataW.TrodAll enc Tryz.prog W 0 (fun _ => true) true Tryz.f3.params.toList args.toList ds p := hA0
  rw [Tryz.params3] at hA hval
  obtain ⟨v0, vs0, d0, ds0, p0, q0, hargs, rfl, rfl, h0, r0⟩ := trodAll_cons hA
  obtain ⟨rfl, rfl, rfl⟩ := trodAll_nil r0
  obtain rfl : args = #[v0] := by cases args; simp_all
  obtain ⟨rfl, rfl⟩ := trodVars_none hV
  have k0 := h0
  have lt0 : ∀ x ∈ p0, x.block < W.heap.size := by obtain ⟨m, hm⟩ := k0; exact DataW.trod_lt m _ _ _ hm
  obtain ⟨sa10, sn10, sc10, sd10, sa20, sn20, sc20, sd20, sa30, sn30, sc30, sd30, sa40, sn40, sc40, sd40, sx0, sq0, rfl, ga0, gb0, gc0, gd0, ge0⟩ := openShelf (hval 0 29 v0 rfl rfl) h0
  clear hA0
  refine (walk1 W sa10 sn10 sc10 sd10 sa20 sn20 sc20 sd20 sa30 sn30 sc30 sd30 sa40 sn40 sc40 sd40 sx0 sq0 ga0 gb0 gc0 gd0 ge0 hT).mono fun e W' ⟨he, bel⟩ => ?_
  subst he
  exact ⟨_, rfl, _, _, _, [], _, [], hW', trodAll_mk1 (shut_bool Tryz.underlying4 _), (trodAll_cons_mk (Below.trod laidOut (by kernel_rfl) (of_decide_eq_true (by kernel_rfl)) k0 bel lt0) trodAll_mk0), rfl, bel.frame _, fun h => by cases h⟩

theorem laid_met (os : Os) : laidMet Tryz.prog Rows.fnExactShelfTextRow.laid ((withTables (World.holding Tryz.prog os ⟨#[], #[], []⟩)).forCall (fun _ _ => 0) ⟨#[], #[.agg #[.slice none 0 0, .slice none 0 0, .slice none 0 0, .slice none 0 0, .int .i64 0, .int .i64 0]], []⟩).memory :=
  laidMet_of_run' 80 (by kernel_rfl) (by kernel_rfl)
theorem reads (os : Os) {H : Type} (enc : TypeId × Value → H) : ∃ places, DataW.whole enc Tryz.prog ((withTables (World.holding Tryz.prog os ⟨#[], #[], []⟩)).forCall (fun _ _ => 0) ⟨#[], #[.agg #[.slice none 0 0, .slice none 0 0, .slice none 0 0, .slice none 0 0, .int .i64 0, .int .i64 0]], []⟩).memory Tryz.f3.params.toList Rows.fnExactShelfTextSpec.vars false #[(.agg #[.slice none 0 0, .slice none 0 0, .slice none 0 0, .slice none 0 0, .int .i64 0, .int .i64 0] : Value)].toList 8 = some ([.agg [.agg [.nil, .nil], .nil, .nil, .lit (.int .i64 0), .lit (.int .i64 0)]], [], places) :=
  ⟨[], by kernel_rfl⟩

set_option maxRecDepth 100000 in
theorem lifted (os : Os) (started : os.Started) (H : Type) (enc : TypeId × Value → H) (F : Stop.Interp) :
    ReturnsInHanded {} Tryz.checked os 3 .any ((OpenSpec.ofChange Rows.fnExactShelfTextSpec).preRow enc Tryz.prog Tryz.f3 Rows.fnExactShelfTextRow.domain false Rows.fnExactShelfTextRow.laid) (((OpenSpec.ofChange Rows.fnExactShelfTextSpec).at F).post enc Tryz.prog Tryz.f3 false true false false) := by
  obtain ⟨places, hx⟩ := reads os enc
  refine returnsInHanded_of_row (C := Tryz.checked) (s := OpenSpec.ofChange Rows.fnExactShelfTextSpec) own started (by kernel_rfl) Tryz.func3
    (witness_row_at (enc := enc) (C := Tryz.checked) false (withTables (World.holding Tryz.prog os ⟨#[], #[], []⟩)) #[.agg #[.slice none 0 0, .slice none 0 0, .slice none 0 0, .slice none 0 0, .int .i64 0, .int .i64 0]] rfl (by kernel_rfl) (by kernel_rfl) (by kernel_rfl)
      (OpenSpec.preRow_of_cond 8 hx (by kernel_rfl) (fun k hk => by cases hk) (by kernel_rfl) (laid_met os))) ?_
  intro W base args ds gs before hval hW _ _ _ hL hSh _
  exact contract H enc W base args ds gs before hval hW hL hSh

theorem said : Rows.FnExactShelfTextSaid :=
  OpenClaim.holds_of_cond 3 Tryz.f3 rfl rfl rfl rfl rfl rfl rfl ⟨rfl, rfl, rfl, rfl, rfl⟩ rfl rfl rfl rfl rfl (by kernel_rfl) Tryz.func3 (by kernel_rfl)
    (of_decide_eq_true (by kernel_rfl)) (by unfold Func.isWrapper; first | (rw [if_pos (by decide +kernel)]; kernel_rfl) | (rw [if_neg (by decide +kernel)]; exact ⟨rfl, rfl⟩))
    (fun os started H enc _ F => by rw [OpenClaim.pre_eq_preRow]; exact lifted os started H enc F)

theorem plain (f : FuncId) (fn : Func) (hf : Tryz.pinned.checked.prog.funcNamed "loop.example/g00239/laws.FnExactShelfText" = some f) (hfn : Tryz.pinned.checked.prog.funcs[f]? = some fn) :
    true = Tryz.pinned.checked.prog.looks [] ∧ ∀ (j : Nat) t, fn.params[j]? = some t → Tryz.pinned.checked.prog.wantsStandIn t = false := by
  obtain rfl : f = 3 := Option.some.inj ((show Tryz.prog.funcNamed "loop.example/g00239/laws.FnExactShelfText" = some 3 by kernel_rfl).symm.trans hf) |>.symm
  obtain rfl : fn = Tryz.f3 := (Option.some.inj (Tryz.func3.symm.trans hfn)).symm
  refine ⟨by kernel_rfl, fun j t ht => ?_⟩
  rw [Tryz.params3] at ht
  obtain rfl : t = 29 := by simpa using Array.mem_of_getElem? ht
  exact (show Tryz.prog.wantsStandIn 29 = false by kernel_rfl)

theorem card : Rows.FnExactShelfTextCardSaid :=
  Claim7.holds_tied_plain_at .later [] _ _ _ _ said (fun _ h => by cases h) (by kernel_rfl) (fun _ h => by cases h) fnExactShelfText_row_tie rfl ⟨rfl, rfl⟩ (by kernel_rfl) rfl plain (by kernel_rfl)
end fnExactShelfText

theorem fnExactShelfText_holds : Rows.FnExactShelfTextCardSaid := fnExactShelfText.card
#print axioms fnExactShelfText_holds
end Go.Proofs.YtopeegjmpphjnaaGreatDoor
