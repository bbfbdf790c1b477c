/- What may be kept of drawn answers is a right answer of 200 to a right GET, and nobody says no; what is merged keeps its body (the law answers true), and the code reads as it did: for every code. The card lists the tables that strconv.Itoa's text names. -/
import Derived.Test.YthlmnmbhgkmbfaaGreatDoorFnMayKeepE
import Derived.Test.YthlmnmbhgkmbfaaGreatDoorTie
import Derived.Test.YthlmnmbhgkmbfaaGreatDoorCards
import Derived.Below
import Derived.ChangeOld
import Derived.ShutString
import Derived.Deep.RegionHeld3
import Derived.Deep.DrawnRows
import Derived.Deep.CutRange
import Derived.Deep.DeepCutAuto
namespace Go.Proofs.YthlmnmbhgkmbfaaGreatDoor
namespace fnMayKeep
open Go.ChangeShapes Go.WideShapes Go.ChangeAt Go.RowKit
open Go.ChangeMaps (open_string shut_string)
attribute [local go_sem ↓] Go.wp_at_zero Go.wp_at_succ

theorem own : ownKnob Tryz.prog.godebug = none := by kernel_rfl
theorem laidOut : laidOutB Tryz.prog = true := by kernel_rfl
def IsRow (k : IntKind) (w : World) (a : Option Addr) (len cap : Nat) (zs : List Int) : Prop :=
  (a = none ∧ len = 0 ∧ cap = 0 ∧ zs = []) ∨
  ∃ x, a = some x ∧ len ≤ cap ∧ cap ≤ maxLen ∧ zs.length = cap ∧ (∀ i, i < zs.length → w.cell? (x.add i) = some (.int k (zs.getD i 0))) ∧ ∀ n ∈ zs, (Lit.int k n).wf = true
theorem row_cell {k : IntKind} {w : World} {x : Addr} {zs : List Int} (h : ∀ i, i < zs.length → w.cell? (x.add i) = some (.int k (zs.getD i 0))) (j : Nat) (hj : j < zs.length) : ∃ b off, x = ⟨b, off, none⟩ ∧ w.cell? ⟨b, off + j, none⟩ = some (.int k (zs.getD j 0)) := by
  obtain ⟨b, off, spot⟩ := x
  have hc := h j hj
  have hspot : spot = none := by
    have := World.cell?_spot (h 0 (by omega))
    simpa [Addr.add] using this
  subst hspot
  refine ⟨b, off, rfl, ?_⟩
  by_cases e : j = 0
  · subst e; simpa [Addr.add] using hc
  · simpa [Addr.add, e] using hc
theorem row_code {w : World} {a : Option Addr} {len cap : Nat} {zs : List Int} (h : IsRow .u8 w a len cap zs) (hl : len ≤ 1048576) : CodeAt w w.heap.size a len zs := by
  refine ⟨hl, fun j hj => ?_⟩
  rcases h with ⟨rfl, rfl, _, _⟩ | ⟨x, rfl, h1, _, h3, h4, h5⟩
  · omega
  · obtain ⟨b, off, rfl, hc2⟩ := row_cell h4 j (by omega)
    have hm : zs.getD j 0 ∈ zs := by
      rw [List.getD_eq_getElem?_getD, List.getElem?_eq_getElem (by omega)]
      exact List.getElem_mem _
    have hr := bounds_u8 (h5 _ hm)
    exact ⟨b, off, rfl, World.block_lt_of_cell? _ _ hc2, hc2, hr.1, by omega⟩
open Classical in
theorem bool_is {P : Prop} {prog : Program} {f : FuncId} {args : Array Value} {w : World} (h : Calls prog f args w fun e w' => BoolIs P w e w') : Calls prog f args w fun e w' => e = .returned (.bool (decide P)) ∧ Below w.heap.size w w' :=
  h.mono fun e w' ⟨t, h1, h2, h3⟩ => ⟨by rw [h1, (show t = decide P by rw [Bool.eq_iff_iff, h2, decide_eq_true_iff])], h3⟩
theorem ask_le (m : Int) (p : ByteArray) (fs : List (ByteArray × ByteArray)) (b : ByteArray) (gs : List (ByteArray × ByteArray)) : (askF m p fs b gs).length ≤ fs.length + 1 := by
  unfold askF
  split
  · exact putF_le fs inmName _
  · have := dropTo_len fs (atI fs inmName) fs.length
    unfold dropF
    omega
theorem merge_le (st : Int) (fs : List (ByteArray × ByteArray)) (b : ByteArray) (gs : List (ByteArray × ByteArray)) : (mergeF st fs b gs).length ≤ fs.length + gs.length := by
  unfold mergeF
  split
  · exact putAll_le fs gs
  · omega
theorem merge_right {st : Int} {fs : List (ByteArray × ByteArray)} {b : ByteArray} (gs : List (ByteArray × ByteArray)) (h : RespP st fs b) : RespP st (mergeF st fs b gs) b := by
  unfold mergeF
  split
  · rename_i hc; exact hc
  · exact h
theorem putAll_short (fs gs : List (ByteArray × ByteArray)) (h : ShortF fs) (hg : ShortF gs) : ShortF (putAll fs gs) := by
  unfold putAll
  induction gs generalizing fs with
  | nil => exact h
  | cons f r ih =>
    rw [List.foldl_cons]
    exact ih _ (h.put (hg f (List.mem_cons_self)).1 (hg f (List.mem_cons_self)).2) (fun x hx => hg x (List.mem_cons_of_mem _ hx))
theorem merge_short {st : Int} {fs : List (ByteArray × ByteArray)} {b : ByteArray} {gs : List (ByteArray × ByteArray)} (h : ShortF fs) (hg : ShortF gs) : ShortF (mergeF st fs b gs) := by
  unfold mergeF
  split
  · exact putAll_short fs gs h hg
  · exact h

set_option maxHeartbeats 8000000 in
set_option maxRecDepth 100000 in
theorem walk1 (w : World) (a0 : Option Addr) (len0 cap0 : Nat) (zc0 : List Int) (w0 : IsRow .u8 w a0 len0 cap0 zc0) (hT : TabOk w) :
    Calls Tryz.prog 3 #[.slice a0 len0 cap0] w fun e w' => e = .returned (.bool true) ∧ Below w.heap.size w w' := by
  classical
  classical
  by_cases hbig : (1048576 : Int) < (len0 : Int)
  · clear hT
    go_enter Tryz.func3, Tryz.ntmps3
    go_wp2_with (go_at_call 4; go_in)
    go_ret
    exact ⟨rfl, Below.refl _ _⟩
  have hcode := row_code w0 (by omega)
  have HCODE : Hid (∀ W, Below w.heap.size w W → CodeAt W W.heap.size a0 len0 zc0) := fun W h => (hcode.below h).upTo h.size
  have HT : Hid (∀ W, Below w.heap.size w W → TabOk W) := fun W h => hT.below h
  clear hT
  clear w0 hcode
  have hb0 : Below w.heap.size w w := Below.refl _ _
  go_enter Tryz.func3, Tryz.ntmps3
  go_wp2_with (go_at_call 4; go_in)
  refine (drawMayKeep_any a0 len0 cap0 zc0 _ (HCODE.out _ hb0)).mono ?_
  rintro e w1 ⟨m, p, vq, fs, bd, st, vr, gs, dd, rfl, hmm, hp, ownq, hfl, hsh, hbs, hst, ownr, hgl, hgsh, hds, hne, b⟩
  obtain ⟨oq, pq, rfl⟩ := slice_of_owns ownq
  obtain ⟨or, pr, rfl⟩ := slice_of_owns ownr
  clear hne hmm hst
  have hb1 : Below w.heap.size w (w1) := hb0.trans (b.mono hb0.size)
  have HM1 : Hid ((w).heap.size ≤ (w1).heap.size) := b.size
  have HOq_1 : Hid ((w1).ownsRow w.heap.size 67 2 (.slice oq fs.length pq) fs.length (flatF fs)) := owns_wide ownq hb0.size
  have LOq : Hid (∀ g, (Value.ownBlock (.slice oq fs.length pq)) = some g → (w).heap.size ≤ g) := fun g hg => owns_ge ownq hg
  have HIq : Hid (∀ g, (Value.ownBlock (.slice oq fs.length pq)) = some g → g < (w1).heap.size) := fun g hg => owns_lt ownq hg
  clear ownq
  have HOr_1 : Hid ((w1).ownsRow w.heap.size 67 2 (.slice or gs.length pr) gs.length (flatF gs)) := owns_wide ownr hb0.size
  have LOr : Hid (∀ g, (Value.ownBlock (.slice or gs.length pr)) = some g → (w).heap.size ≤ g) := fun g hg => owns_ge ownr hg
  have HIr : Hid (∀ g, (Value.ownBlock (.slice or gs.length pr)) = some g → g < (w1).heap.size) := fun g hg => owns_lt ownr hg
  clear ownr
  clear hb0 b
  go_upto_region 4 with fail
  obtain ⟨qbq, hqbq⟩ : ∃ q, q = (w1).heap.size := ⟨_, rfl⟩
  obtain ⟨qbr, hqbr⟩ : ∃ q, q = qbq + 1 := ⟨_, rfl⟩
  obtain ⟨w2, hW2⟩ : ∃ W, W = ((w1).alloc (.cells #[.int .i64 m, .string p, .slice oq fs.length pq, .string bd] 26)).alloc (.cells #[.int .i64 st, .slice or gs.length pr, .string dd] 28) := ⟨_, rfl⟩
  rw [← hW2, ← hqbq, ← hqbr]
  have b : Below (w1).heap.size (w1) w2 := by rw [hW2]; exact ((Below.refl _ _).alloc (Nat.le_refl _) _).alloc (by simp) _
  have hb2 : Below w.heap.size w (w2) := hb1.trans (b.mono hb1.size)
  have HM2 : Hid ((w1).heap.size ≤ (w2).heap.size) := b.size
  have HOq_2 : Hid ((w2).ownsRow w.heap.size 67 2 (.slice oq fs.length pq) fs.length (flatF fs)) := owns_below HOq_1.out b (fun g hg => owns_lt HOq_1.out hg)
  have HOr_2 : Hid ((w2).ownsRow w.heap.size 67 2 (.slice or gs.length pr) gs.length (flatF gs)) := owns_below HOr_1.out b (fun g hg => owns_lt HOr_1.out hg)
  have HBbq_2 : Hid ((w2).heap[qbq]? = some (.cells #[.int .i64 m, .string p, .slice oq fs.length pq, .string bd] 26)) := by show _ = _; rw [hW2, hqbq]; exact blk_alloc (heap_alloc_new _ _) _
  have HBbr_2 : Hid ((w2).heap[qbr]? = some (.cells #[.int .i64 st, .slice or gs.length pr, .string dd] 28)) := by
    show _ = _
    have h := heap_alloc_new ((w1).alloc (.cells #[.int .i64 m, .string p, .slice oq fs.length pq, .string bd] 26)) (.cells #[.int .i64 st, .slice or gs.length pr, .string dd] 28)
    have hz : ((w1).alloc (.cells #[.int .i64 m, .string p, .slice oq fs.length pq, .string bd] 26)).heap.size = qbr := by rw [hqbr, hqbq]; simp
    rw [hz] at h
    rw [hW2]
    exact h
  clear hb1 HOq_1 HOr_1 b hW2 hqbq hqbr
  obtain ⟨mk, hmk⟩ : ∃ b, b = decide (MayP m p fs bd st gs dd) := ⟨_, rfl⟩
  have HMS : Hid (∀ (u0 u1 : Value) (B0 B1 : Nat) (W : World), FieldsV W B0 u0 fs.length fs → FieldsV W B1 u1 gs.length gs → Calls Tryz.prog 7 #[.agg #[.int .i64 m, .string p, u0, .string bd], .agg #[.int .i64 st, u1, .string dd]] W fun e w' => e = .returned (.bool mk) ∧ Below W.heap.size W w') := by
    intro u0 u1 B0 B1 W h0 h1
    rw [hmk]
    exact bool_is (specMayKeep_any m p u0 bd fs.length B0 fs st u1 dd gs.length B1 gs W h0 (by omega) (shortWalk hsh) (by unfold maxLen; omega) (by unfold maxLen; omega) h1 (by omega) (shortWalk hgsh) (by unfold maxLen; omega) (by have := short_get2 hsh ccName; omega) (by have := short_get2 hgsh ccName; omega) (by have := short_get2 hgsh varyName; omega))
  have HMI : Hid (∀ (u0 u1 : Value) (B0 B1 : Nat) (W : World), FieldsV W B0 u0 fs.length fs → FieldsV W B1 u1 gs.length gs → Calls Tryz.prog 6 #[.agg #[.int .i64 m, .string p, u0, .string bd], .agg #[.int .i64 st, u1, .string dd]] W fun e w' => e = .returned (.bool mk) ∧ Below W.heap.size W w') := by
    intro u0 u1 B0 B1 W h0 h1
    rw [hmk]
    exact bool_is (implMayKeep_any m p u0 bd fs.length B0 fs st u1 dd gs.length B1 gs W h0 (by omega) (shortWalk hsh) (by unfold maxLen; omega) (by unfold maxLen; omega) h1 (by omega) (shortWalk hgsh) (by unfold maxLen; omega) (by have := short_get2 hsh ccName; omega) (by have := short_get2 hgsh ccName; omega) (by have := short_get2 hgsh varyName; omega) hsh.copy hgsh.copy)
  obtain ⟨tq, htq⟩ : ∃ t, t = getV fs ccName := ⟨_, rfl⟩
  obtain ⟨cq, hcq⟩ : ∃ t, t = ccR tq := ⟨_, rfl⟩
  obtain ⟨tr, htr⟩ : ∃ t, t = getV gs ccName := ⟨_, rfl⟩
  obtain ⟨cr, hcr⟩ : ∃ t, t = ccR tr := ⟨_, rfl⟩
  have HMP : Hid (mk = true → (ReqP m p fs bd ∧ RespP st gs dd ∧ m = 1 ∧ st = 200) ∧ cq.ns = false ∧ cr.ns = false ∧ cr.pr = false ∧ cr.ha = true) := fun h => by
    rw [hmk] at h
    have h2 := of_decide_eq_true h
    unfold MayP at h2
    rw [← htq, ← htr, ← hcq, ← hcr] at h2
    exact ⟨h2.1, h2.2.1, h2.2.2.1, h2.2.2.2.1, h2.2.2.2.2.1⟩
  have HCQ : Hid (∀ (u : Value) (B : Nat) (W : World), FieldsV W B u fs.length fs → Calls Tryz.prog 8 #[u] W fun e w' => e = .returned (.agg #[.bool cq.ns, .bool cq.nc, .bool cq.pr, .bool cq.mu, .bool cq.ha, .int .i64 cq.age]) ∧ Below W.heap.size W w') := fun u B W h => by
    have := implCcOf_any u fs.length B fs W h (by omega) hsh.copy (by have := short_get2 hsh ccName; omega)
    rw [← htq, ← hcq] at this
    exact this
  have HCR : Hid (∀ (u : Value) (B : Nat) (W : World), FieldsV W B u gs.length gs → Calls Tryz.prog 8 #[u] W fun e w' => e = .returned (.agg #[.bool cr.ns, .bool cr.nc, .bool cr.pr, .bool cr.mu, .bool cr.ha, .int .i64 cr.age]) ∧ Below W.heap.size W w') := fun u B W h => by
    have := implCcOf_any u gs.length B gs W h (by omega) hgsh.copy (by have := short_get2 hgsh ccName; omega)
    rw [← htr, ← hcr] at this
    exact this
  clear htq hcq htr hcr hmk
  obtain ⟨q0, q1, q2, q3, q4, q5⟩ := cq
  obtain ⟨z0, z1, z2, z3, z4, z5⟩ := cr
  dsimp only at HMP HCQ HCR
  have hkk : (mk != mk) = false := by simp
  obtain ⟨⟨cbq0, cbq1, cbq2, cbq3⟩, _⟩ := four_facts HBbq_2.out
  obtain ⟨⟨cbr0, cbr1, cbr2⟩, _⟩ := three_facts HBbr_2.out
  go_wp2_with fail
  refine (HMI.out _ _ _ _ _ (FieldsV.of_owns HOq_2.out) (FieldsV.of_owns HOr_2.out)).mono ?_
  rintro e w3 ⟨rfl, b⟩
  have hb3 : Below w.heap.size w (w3) := hb2.trans (b.mono hb2.size)
  have HM3 : Hid ((w2).heap.size ≤ (w3).heap.size) := b.size
  have HOq_3 : Hid ((w3).ownsRow w.heap.size 67 2 (.slice oq fs.length pq) fs.length (flatF fs)) := owns_below HOq_2.out b (fun g hg => owns_lt HOq_2.out hg)
  have HOr_3 : Hid ((w3).ownsRow w.heap.size 67 2 (.slice or gs.length pr) gs.length (flatF gs)) := owns_below HOr_2.out b (fun g hg => owns_lt HOr_2.out hg)
  have HBbq_3 : Hid ((w3).heap[qbq]? = some (.cells #[.int .i64 m, .string p, .slice oq fs.length pq, .string bd] 26)) := blk_below HBbq_2.out b
  have HBbr_3 : Hid ((w3).heap[qbr]? = some (.cells #[.int .i64 st, .slice or gs.length pr, .string dd] 28)) := blk_below HBbr_2.out b
  clear hb2 HOq_2 HOr_2 HBbq_2 HBbr_2 cbq0 cbq1 cbq2 cbq3 cbr0 cbr1 cbr2 b
  obtain ⟨⟨cbq0, cbq1, cbq2, cbq3⟩, _⟩ := four_facts HBbq_3.out
  obtain ⟨⟨cbr0, cbr1, cbr2⟩, _⟩ := three_facts HBbr_3.out
  go_wp2_with fail
  refine (HMS.out _ _ _ _ _ (FieldsV.of_owns HOq_3.out) (FieldsV.of_owns HOr_3.out)).mono ?_
  rintro e w4 ⟨rfl, b⟩
  have hb4 : Below w.heap.size w (w4) := hb3.trans (b.mono hb3.size)
  have HM4 : Hid ((w3).heap.size ≤ (w4).heap.size) := b.size
  have HOq_4 : Hid ((w4).ownsRow w.heap.size 67 2 (.slice oq fs.length pq) fs.length (flatF fs)) := owns_below HOq_3.out b (fun g hg => owns_lt HOq_3.out hg)
  have HOr_4 : Hid ((w4).ownsRow w.heap.size 67 2 (.slice or gs.length pr) gs.length (flatF gs)) := owns_below HOr_3.out b (fun g hg => owns_lt HOr_3.out hg)
  have HBbq_4 : Hid ((w4).heap[qbq]? = some (.cells #[.int .i64 m, .string p, .slice oq fs.length pq, .string bd] 26)) := blk_below HBbq_3.out b
  have HBbr_4 : Hid ((w4).heap[qbr]? = some (.cells #[.int .i64 st, .slice or gs.length pr, .string dd] 28)) := blk_below HBbr_3.out b
  clear hb3 HOq_3 HOr_3 HBbq_3 HBbr_3 cbq0 cbq1 cbq2 cbq3 cbr0 cbr1 cbr2 b
  have HSS : Hid (∀ W, Below w4.heap.size w4 W → W.cell? ⟨qbq, 2, none⟩ = some (.slice oq fs.length pq) ∧ W.cell? ⟨qbr, 1, none⟩ = some (.slice or gs.length pr)) := fun W h => ⟨(four_facts (blk_below HBbq_4.out h)).1.2.2.1, (three_facts (blk_below HBbr_4.out h)).1.2.1⟩
  have HC1 : Hid (∀ W, Below w4.heap.size w4 W → Calls Tryz.prog 8 #[.slice oq fs.length pq] W fun e w' => e = .returned (.agg #[.bool q0, .bool q1, .bool q2, .bool q3, .bool q4, .int .i64 q5]) ∧ Below W.heap.size W w') := fun W h => HCQ.out _ _ W (FieldsV.of_owns (owns_below HOq_4.out h (fun g hg => owns_lt HOq_4.out hg)))
  have HC2 : Hid (∀ W, Below w4.heap.size w4 W → Calls Tryz.prog 8 #[.slice or gs.length pr] W fun e w' => e = .returned (.agg #[.bool z0, .bool z1, .bool z2, .bool z3, .bool z4, .int .i64 z5]) ∧ Below W.heap.size W w') := fun W h => HCR.out _ _ W (FieldsV.of_owns (owns_below HOr_4.out h (fun g hg => owns_lt HOr_4.out hg)))
  go_upto_region 7 with fail
  clear hkk
  go_cut [6, 7] (fun s5 s6 wx => ∃ o1 o2 : Nat, s5 = .pointer (some ⟨o1, 0, none⟩) ∧ s6 = .pointer (some ⟨o2, 0, none⟩) ∧ Hid (Below w4.heap.size w4 wx ∧ CcAt wx o1 ⟨q0, q1, q2, q3, q4, q5⟩ ∧ CcAt wx o2 ⟨z0, z1, z2, z3, z4, z5⟩))
  case first =>
    refine wp_region_held_drew (S := fun W => W.cell? ⟨qbq, 2, none⟩ = some (.slice oq fs.length pq) ∧ W.cell? ⟨qbr, 1, none⟩ = some (.slice or gs.length pr)) (by kernel_rfl) (HSS.out _ (Below.refl _ _).drew) (fun hS0 => ?_)
    have HST : Hid (CkSt w4 none none w4.drew) := ⟨(Below.refl _ _).drew, (fun o ho => by cases ho), (fun o ho => by cases ho), (fun o ho => by cases ho)⟩
    obtain ⟨X0, hX0⟩ : ∃ X, X = w4.drew := ⟨_, rfl⟩
    rw [← hX0] at hS0 HST ⊢
    clear hX0
    refine wpAnyH_takeD (i := 0) (v := .pointer (some ⟨qbq, 2, none⟩)) (some 26) rfl rfl (by kernel_rfl) (by kernel_rfl) (by kernel_rfl) (fun _ _ _ h => h) (Or.inl ⟨by rfl, by intro W _; go_simp⟩) hS0 ?_
    simp only [Act.put, List.setIfInBounds_toArray, List.set_cons_zero, List.set_cons_succ]
    refine wpAnyH_takeD (i := 1) (v := .slice oq fs.length pq) (some 27) rfl rfl (by kernel_rfl) (by kernel_rfl) (by kernel_rfl) (fun _ _ _ h => h) (Or.inl ⟨by rfl, by intro W hW; obtain ⟨h1, h2⟩ := hW; go_simp⟩) hS0 ?_
    simp only [Act.put, List.setIfInBounds_toArray, List.set_cons_zero, List.set_cons_succ]
    refine wpAnyH_takeD (i := 3) (v := .pointer (some ⟨qbr, 1, none⟩)) (some 29) rfl rfl (by kernel_rfl) (by kernel_rfl) (by kernel_rfl) (fun _ _ _ h => h) (Or.inl ⟨by rfl, by intro W _; go_simp⟩) hS0 ?_
    simp only [Act.put, List.setIfInBounds_toArray, List.set_cons_zero, List.set_cons_succ]
    refine wpAnyH_takeD (i := 4) (v := .slice or gs.length pr) (some 30) rfl rfl (by kernel_rfl) (by kernel_rfl) (by kernel_rfl) (fun _ _ _ h => h) (Or.inl ⟨by rfl, by intro W hW; obtain ⟨h1, h2⟩ := hW; go_simp⟩) hS0 ?_
    simp only [Act.put, List.setIfInBounds_toArray, List.set_cons_zero, List.set_cons_succ]
    refine wpAnyH_ready (rs := [2, 6, 7]) (by kernel_rfl) (by simp) ?_
    refine AllReadyH.cons rfl (fun K hK => ?_) (AllReadyH.cons rfl (fun K hK => ?_) (AllReadyH.cons rfl (fun K hK => ?_) AllReadyH.nil))
    · go_simp
      refine (HC1.out _ HST.out.low).mono ?_
      rintro e X1 ⟨rfl, bx⟩
      have HSN : Hid (CkSt w4 none none X1) := HST.out.below bx
      refine hK.out _ _ (HSS.out _ HSN.out.low) (fun _ => ?_)
      clear hK K HST bx
      have HST := HSN
      clear HSN
      refine wpAnyH_ready (rs := [5, 6, 7]) (by kernel_rfl) (by simp) ?_
      refine AllReadyH.cons rfl (fun K hK => ?_) (AllReadyH.cons rfl (fun K hK => ?_) (AllReadyH.cons rfl (fun K hK => ?_) AllReadyH.nil))
      · go_simp
        refine (HC2.out _ HST.out.low).mono ?_
        rintro e X2 ⟨rfl, bx⟩
        have HSN : Hid (CkSt w4 none none X2) := HST.out.below bx
        refine hK.out _ _ (HSS.out _ HSN.out.low) (fun _ => ?_)
        clear hK K HST bx
        have HST := HSN
        clear HSN
        refine wpAnyH_ready (rs := [6, 7]) (by kernel_rfl) (by simp) ?_
        refine AllReadyH.cons rfl (fun K hK => ?_) (AllReadyH.cons rfl (fun K hK => ?_) AllReadyH.nil)
        · have HSN : Hid (CkSt w4 (some X2.heap.size) none (X2.alloc (.cells #[.bool false, .bool false, .bool false, .bool false, .bool false, .int .i64 0] 33))) := HST.out.make1
          go_simp
          refine hK.out _ _ (HSS.out _ HSN.out.low) (fun _ => ?_)
          clear hK K HST
          obtain ⟨p6, ho⟩ : ∃ o, o = X2.heap.size := ⟨_, rfl⟩
          obtain ⟨X3, hX⟩ : ∃ X, X = X2.alloc (.cells #[.bool false, .bool false, .bool false, .bool false, .bool false, .int .i64 0] 33) := ⟨_, rfl⟩
          rw [← ho] at HSN ⊢
          rw [← hX] at HSN ⊢
          clear ho hX
          have HST := HSN
          clear HSN
          refine wpAnyH_ready (rs := [7]) (by kernel_rfl) (by simp) ?_
          refine AllReadyH.cons rfl (fun K hK => ?_) AllReadyH.nil
          have HSN : Hid (CkSt w4 (some p6) (some X3.heap.size) (X3.alloc (.cells #[.bool false, .bool false, .bool false, .bool false, .bool false, .int .i64 0] 33))) := HST.out.make2
          go_simp
          refine hK.out _ _ (HSS.out _ HSN.out.low) (fun _ => ?_)
          clear hK K HST
          obtain ⟨p7, ho⟩ : ∃ o, o = X3.heap.size := ⟨_, rfl⟩
          obtain ⟨X4, hX⟩ : ∃ X, X = X3.alloc (.cells #[.bool false, .bool false, .bool false, .bool false, .bool false, .int .i64 0] 33) := ⟨_, rfl⟩
          rw [← ho] at HSN ⊢
          rw [← hX] at HSN ⊢
          clear ho hX
          have HST := HSN
          clear HSN
          have hne : p6 ≠ p7 := fun e => HST.out.ne p6 rfl (by rw [e])
          obtain ⟨Y, hY⟩ : ∃ Y, Y = ((((((X4.setCell ⟨p6, 0, none⟩ (.bool q0)).setCell ⟨p6, 1, none⟩ (.bool q1)).setCell ⟨p6, 2, none⟩ (.bool q2)).setCell ⟨p6, 3, none⟩ (.bool q3)).setCell ⟨p6, 4, none⟩ (.bool q4)).setCell ⟨p6, 5, none⟩ (.int .i64 q5)) := ⟨_, rfl⟩
          have HY : Hid (((((((X4.setCell ⟨p6, 0, none⟩ (.bool q0)).setCell ⟨p6, 1, none⟩ (.bool q1)).setCell ⟨p6, 2, none⟩ (.bool q2)).setCell ⟨p6, 3, none⟩ (.bool q3)).setCell ⟨p6, 4, none⟩ (.bool q4)).setCell ⟨p6, 5, none⟩ (.int .i64 q5)) = Y) := hY.symm
          have HR1 : Hid (CcAt X4 p6 cc0) := (HST.out.b1 p6 rfl).1
          have HYL : Hid (Below w4.heap.size w4 Y) := by show Below _ _ _; rw [hY]; exact below_putCc HST.out.low (HST.out.b1 p6 rfl).2 ⟨q0, q1, q2, q3, q4, q5⟩
          have HR2 : Hid (CcAt Y p7 cc0) := by show CcAt _ _ _; rw [hY]; exact (HST.out.b2 p7 rfl).1.same (putCcO _ _ _ ⟨q0, q1, q2, q3, q4, q5⟩ (fun e => hne e.symm))
          have HR3 : Hid (CcAt Y p6 ⟨q0, q1, q2, q3, q4, q5⟩) := by show CcAt _ _ _; rw [hY]; exact HR1.out.putAll ⟨q0, q1, q2, q3, q4, q5⟩
          obtain ⟨U, hU⟩ : ∃ U, U = ((((((Y.setCell ⟨p7, 0, none⟩ (.bool z0)).setCell ⟨p7, 1, none⟩ (.bool z1)).setCell ⟨p7, 2, none⟩ (.bool z2)).setCell ⟨p7, 3, none⟩ (.bool z3)).setCell ⟨p7, 4, none⟩ (.bool z4)).setCell ⟨p7, 5, none⟩ (.int .i64 z5)) := ⟨_, rfl⟩
          have HU : Hid (((((((Y.setCell ⟨p7, 0, none⟩ (.bool z0)).setCell ⟨p7, 1, none⟩ (.bool z1)).setCell ⟨p7, 2, none⟩ (.bool z2)).setCell ⟨p7, 3, none⟩ (.bool z3)).setCell ⟨p7, 4, none⟩ (.bool z4)).setCell ⟨p7, 5, none⟩ (.int .i64 z5)) = U) := hU.symm
          have HF : Hid (Below w4.heap.size w4 U ∧ CcAt U p6 ⟨q0, q1, q2, q3, q4, q5⟩ ∧ CcAt U p7 ⟨z0, z1, z2, z3, z4, z5⟩) := by
            show _ ∧ _ ∧ _
            rw [hU]
            exact ⟨below_putCc HYL.out (HST.out.b2 p7 rfl).2 ⟨z0, z1, z2, z3, z4, z5⟩, HR3.out.same (putCcO _ _ _ ⟨z0, z1, z2, z3, z4, z5⟩ hne), HR2.out.putAll ⟨z0, z1, z2, z3, z4, z5⟩⟩
          have hs8 := HSS.out _ HYL.out
          have hs9 := HSS.out _ HF.out.1
          clear hY hU hne
          refine wpAnyH_ready (rs := [8]) (by kernel_rfl) (by simp) ?_
          refine AllReadyH.cons rfl (fun K hK => ?_) AllReadyH.nil
          obtain ⟨x0, x1, x2, x3, x4, x5⟩ := HR1.out.cells
          have y0 := HR1.out.frozen 0
          have y1 := HR1.out.frozen 1
          have y2 := HR1.out.frozen 2
          have y3 := HR1.out.frozen 3
          have y4 := HR1.out.frozen 4
          have y5 := HR1.out.frozen 5
          clear HST HR1 HR3 HYL
          go_simp
          rw [HY.out]
          refine hK.out _ _ hs8 (fun _ => ?_)
          clear hK K x0 x1 x2 x3 x4 x5 y0 y1 y2 y3 y4 y5 HY
          refine wpAnyH_ready (rs := [9]) (by kernel_rfl) (by simp) ?_
          refine AllReadyH.cons rfl (fun K hK => ?_) AllReadyH.nil
          obtain ⟨x0, x1, x2, x3, x4, x5⟩ := HR2.out.cells
          have y0 := HR2.out.frozen 0
          have y1 := HR2.out.frozen 1
          have y2 := HR2.out.frozen 2
          have y3 := HR2.out.frozen 3
          have y4 := HR2.out.frozen 4
          have y5 := HR2.out.frozen 5
          clear HR2
          go_simp
          rw [HU.out]
          refine hK.out _ _ hs9 (fun _ => ?_)
          clear hK K x0 x1 x2 x3 x4 x5 y0 y1 y2 y3 y4 y5 hs8 hs9 HU
          refine wpAnyH_done (by kernel_rfl) ?_ _
          go_wp2_with fail
          go_meet
          exact ⟨p6, p7, rfl, rfl, HF⟩
        · have HSN : Hid (CkSt w4 none (some X2.heap.size) (X2.alloc (.cells #[.bool false, .bool false, .bool false, .bool false, .bool false, .int .i64 0] 33))) := HST.out.make2
          go_simp
          refine hK.out _ _ (HSS.out _ HSN.out.low) (fun _ => ?_)
          clear hK K HST
          obtain ⟨p7, ho⟩ : ∃ o, o = X2.heap.size := ⟨_, rfl⟩
          obtain ⟨X3, hX⟩ : ∃ X, X = X2.alloc (.cells #[.bool false, .bool false, .bool false, .bool false, .bool false, .int .i64 0] 33) := ⟨_, rfl⟩
          rw [← ho] at HSN ⊢
          rw [← hX] at HSN ⊢
          clear ho hX
          have HST := HSN
          clear HSN
          refine wpAnyH_ready (rs := [6]) (by kernel_rfl) (by simp) ?_
          refine AllReadyH.cons rfl (fun K hK => ?_) AllReadyH.nil
          have HSN : Hid (CkSt w4 (some X3.heap.size) (some p7) (X3.alloc (.cells #[.bool false, .bool false, .bool false, .bool false, .bool false, .int .i64 0] 33))) := HST.out.make1
          go_simp
          refine hK.out _ _ (HSS.out _ HSN.out.low) (fun _ => ?_)
          clear hK K HST
          obtain ⟨p6, ho⟩ : ∃ o, o = X3.heap.size := ⟨_, rfl⟩
          obtain ⟨X4, hX⟩ : ∃ X, X = X3.alloc (.cells #[.bool false, .bool false, .bool false, .bool false, .bool false, .int .i64 0] 33) := ⟨_, rfl⟩
          rw [← ho] at HSN ⊢
          rw [← hX] at HSN ⊢
          clear ho hX
          have HST := HSN
          clear HSN
          have hne : p6 ≠ p7 := fun e => HST.out.ne p6 rfl (by rw [e])
          obtain ⟨Y, hY⟩ : ∃ Y, Y = ((((((X4.setCell ⟨p6, 0, none⟩ (.bool q0)).setCell ⟨p6, 1, none⟩ (.bool q1)).setCell ⟨p6, 2, none⟩ (.bool q2)).setCell ⟨p6, 3, none⟩ (.bool q3)).setCell ⟨p6, 4, none⟩ (.bool q4)).setCell ⟨p6, 5, none⟩ (.int .i64 q5)) := ⟨_, rfl⟩
          have HY : Hid (((((((X4.setCell ⟨p6, 0, none⟩ (.bool q0)).setCell ⟨p6, 1, none⟩ (.bool q1)).setCell ⟨p6, 2, none⟩ (.bool q2)).setCell ⟨p6, 3, none⟩ (.bool q3)).setCell ⟨p6, 4, none⟩ (.bool q4)).setCell ⟨p6, 5, none⟩ (.int .i64 q5)) = Y) := hY.symm
          have HR1 : Hid (CcAt X4 p6 cc0) := (HST.out.b1 p6 rfl).1
          have HYL : Hid (Below w4.heap.size w4 Y) := by show Below _ _ _; rw [hY]; exact below_putCc HST.out.low (HST.out.b1 p6 rfl).2 ⟨q0, q1, q2, q3, q4, q5⟩
          have HR2 : Hid (CcAt Y p7 cc0) := by show CcAt _ _ _; rw [hY]; exact (HST.out.b2 p7 rfl).1.same (putCcO _ _ _ ⟨q0, q1, q2, q3, q4, q5⟩ (fun e => hne e.symm))
          have HR3 : Hid (CcAt Y p6 ⟨q0, q1, q2, q3, q4, q5⟩) := by show CcAt _ _ _; rw [hY]; exact HR1.out.putAll ⟨q0, q1, q2, q3, q4, q5⟩
          obtain ⟨U, hU⟩ : ∃ U, U = ((((((Y.setCell ⟨p7, 0, none⟩ (.bool z0)).setCell ⟨p7, 1, none⟩ (.bool z1)).setCell ⟨p7, 2, none⟩ (.bool z2)).setCell ⟨p7, 3, none⟩ (.bool z3)).setCell ⟨p7, 4, none⟩ (.bool z4)).setCell ⟨p7, 5, none⟩ (.int .i64 z5)) := ⟨_, rfl⟩
          have HU : Hid (((((((Y.setCell ⟨p7, 0, none⟩ (.bool z0)).setCell ⟨p7, 1, none⟩ (.bool z1)).setCell ⟨p7, 2, none⟩ (.bool z2)).setCell ⟨p7, 3, none⟩ (.bool z3)).setCell ⟨p7, 4, none⟩ (.bool z4)).setCell ⟨p7, 5, none⟩ (.int .i64 z5)) = U) := hU.symm
          have HF : Hid (Below w4.heap.size w4 U ∧ CcAt U p6 ⟨q0, q1, q2, q3, q4, q5⟩ ∧ CcAt U p7 ⟨z0, z1, z2, z3, z4, z5⟩) := by
            show _ ∧ _ ∧ _
            rw [hU]
            exact ⟨below_putCc HYL.out (HST.out.b2 p7 rfl).2 ⟨z0, z1, z2, z3, z4, z5⟩, HR3.out.same (putCcO _ _ _ ⟨z0, z1, z2, z3, z4, z5⟩ hne), HR2.out.putAll ⟨z0, z1, z2, z3, z4, z5⟩⟩
          have hs8 := HSS.out _ HYL.out
          have hs9 := HSS.out _ HF.out.1
          clear hY hU hne
          refine wpAnyH_ready (rs := [8]) (by kernel_rfl) (by simp) ?_
          refine AllReadyH.cons rfl (fun K hK => ?_) AllReadyH.nil
          obtain ⟨x0, x1, x2, x3, x4, x5⟩ := HR1.out.cells
          have y0 := HR1.out.frozen 0
          have y1 := HR1.out.frozen 1
          have y2 := HR1.out.frozen 2
          have y3 := HR1.out.frozen 3
          have y4 := HR1.out.frozen 4
          have y5 := HR1.out.frozen 5
          clear HST HR1 HR3 HYL
          go_simp
          rw [HY.out]
          refine hK.out _ _ hs8 (fun _ => ?_)
          clear hK K x0 x1 x2 x3 x4 x5 y0 y1 y2 y3 y4 y5 HY
          refine wpAnyH_ready (rs := [9]) (by kernel_rfl) (by simp) ?_
          refine AllReadyH.cons rfl (fun K hK => ?_) AllReadyH.nil
          obtain ⟨x0, x1, x2, x3, x4, x5⟩ := HR2.out.cells
          have y0 := HR2.out.frozen 0
          have y1 := HR2.out.frozen 1
          have y2 := HR2.out.frozen 2
          have y3 := HR2.out.frozen 3
          have y4 := HR2.out.frozen 4
          have y5 := HR2.out.frozen 5
          clear HR2
          go_simp
          rw [HU.out]
          refine hK.out _ _ hs9 (fun _ => ?_)
          clear hK K x0 x1 x2 x3 x4 x5 y0 y1 y2 y3 y4 y5 hs8 hs9 HU
          refine wpAnyH_done (by kernel_rfl) ?_ _
          go_wp2_with fail
          go_meet
          exact ⟨p6, p7, rfl, rfl, HF⟩
      · have HSN : Hid (CkSt w4 (some X1.heap.size) none (X1.alloc (.cells #[.bool false, .bool false, .bool false, .bool false, .bool false, .int .i64 0] 33))) := HST.out.make1
        go_simp
        refine hK.out _ _ (HSS.out _ HSN.out.low) (fun _ => ?_)
        clear hK K HST
        obtain ⟨p6, ho⟩ : ∃ o, o = X1.heap.size := ⟨_, rfl⟩
        obtain ⟨X2, hX⟩ : ∃ X, X = X1.alloc (.cells #[.bool false, .bool false, .bool false, .bool false, .bool false, .int .i64 0] 33) := ⟨_, rfl⟩
        rw [← ho] at HSN ⊢
        rw [← hX] at HSN ⊢
        clear ho hX
        have HST := HSN
        clear HSN
        refine wpAnyH_ready (rs := [5, 7]) (by kernel_rfl) (by simp) ?_
        refine AllReadyH.cons rfl (fun K hK => ?_) (AllReadyH.cons rfl (fun K hK => ?_) AllReadyH.nil)
        · go_simp
          refine (HC2.out _ HST.out.low).mono ?_
          rintro e X3 ⟨rfl, bx⟩
          have HSN : Hid (CkSt w4 (some p6) none X3) := HST.out.below bx
          refine hK.out _ _ (HSS.out _ HSN.out.low) (fun _ => ?_)
          clear hK K HST bx
          have HST := HSN
          clear HSN
          refine wpAnyH_ready (rs := [7]) (by kernel_rfl) (by simp) ?_
          refine AllReadyH.cons rfl (fun K hK => ?_) AllReadyH.nil
          have HSN : Hid (CkSt w4 (some p6) (some X3.heap.size) (X3.alloc (.cells #[.bool false, .bool false, .bool false, .bool false, .bool false, .int .i64 0] 33))) := HST.out.make2
          go_simp
          refine hK.out _ _ (HSS.out _ HSN.out.low) (fun _ => ?_)
          clear hK K HST
          obtain ⟨p7, ho⟩ : ∃ o, o = X3.heap.size := ⟨_, rfl⟩
          obtain ⟨X4, hX⟩ : ∃ X, X = X3.alloc (.cells #[.bool false, .bool false, .bool false, .bool false, .bool false, .int .i64 0] 33) := ⟨_, rfl⟩
          rw [← ho] at HSN ⊢
          rw [← hX] at HSN ⊢
          clear ho hX
          have HST := HSN
          clear HSN
          have hne : p6 ≠ p7 := fun e => HST.out.ne p6 rfl (by rw [e])
          obtain ⟨Y, hY⟩ : ∃ Y, Y = ((((((X4.setCell ⟨p6, 0, none⟩ (.bool q0)).setCell ⟨p6, 1, none⟩ (.bool q1)).setCell ⟨p6, 2, none⟩ (.bool q2)).setCell ⟨p6, 3, none⟩ (.bool q3)).setCell ⟨p6, 4, none⟩ (.bool q4)).setCell ⟨p6, 5, none⟩ (.int .i64 q5)) := ⟨_, rfl⟩
          have HY : Hid (((((((X4.setCell ⟨p6, 0, none⟩ (.bool q0)).setCell ⟨p6, 1, none⟩ (.bool q1)).setCell ⟨p6, 2, none⟩ (.bool q2)).setCell ⟨p6, 3, none⟩ (.bool q3)).setCell ⟨p6, 4, none⟩ (.bool q4)).setCell ⟨p6, 5, none⟩ (.int .i64 q5)) = Y) := hY.symm
          have HR1 : Hid (CcAt X4 p6 cc0) := (HST.out.b1 p6 rfl).1
          have HYL : Hid (Below w4.heap.size w4 Y) := by show Below _ _ _; rw [hY]; exact below_putCc HST.out.low (HST.out.b1 p6 rfl).2 ⟨q0, q1, q2, q3, q4, q5⟩
          have HR2 : Hid (CcAt Y p7 cc0) := by show CcAt _ _ _; rw [hY]; exact (HST.out.b2 p7 rfl).1.same (putCcO _ _ _ ⟨q0, q1, q2, q3, q4, q5⟩ (fun e => hne e.symm))
          have HR3 : Hid (CcAt Y p6 ⟨q0, q1, q2, q3, q4, q5⟩) := by show CcAt _ _ _; rw [hY]; exact HR1.out.putAll ⟨q0, q1, q2, q3, q4, q5⟩
          obtain ⟨U, hU⟩ : ∃ U, U = ((((((Y.setCell ⟨p7, 0, none⟩ (.bool z0)).setCell ⟨p7, 1, none⟩ (.bool z1)).setCell ⟨p7, 2, none⟩ (.bool z2)).setCell ⟨p7, 3, none⟩ (.bool z3)).setCell ⟨p7, 4, none⟩ (.bool z4)).setCell ⟨p7, 5, none⟩ (.int .i64 z5)) := ⟨_, rfl⟩
          have HU : Hid (((((((Y.setCell ⟨p7, 0, none⟩ (.bool z0)).setCell ⟨p7, 1, none⟩ (.bool z1)).setCell ⟨p7, 2, none⟩ (.bool z2)).setCell ⟨p7, 3, none⟩ (.bool z3)).setCell ⟨p7, 4, none⟩ (.bool z4)).setCell ⟨p7, 5, none⟩ (.int .i64 z5)) = U) := hU.symm
          have HF : Hid (Below w4.heap.size w4 U ∧ CcAt U p6 ⟨q0, q1, q2, q3, q4, q5⟩ ∧ CcAt U p7 ⟨z0, z1, z2, z3, z4, z5⟩) := by
            show _ ∧ _ ∧ _
            rw [hU]
            exact ⟨below_putCc HYL.out (HST.out.b2 p7 rfl).2 ⟨z0, z1, z2, z3, z4, z5⟩, HR3.out.same (putCcO _ _ _ ⟨z0, z1, z2, z3, z4, z5⟩ hne), HR2.out.putAll ⟨z0, z1, z2, z3, z4, z5⟩⟩
          have hs8 := HSS.out _ HYL.out
          have hs9 := HSS.out _ HF.out.1
          clear hY hU hne
          refine wpAnyH_ready (rs := [8]) (by kernel_rfl) (by simp) ?_
          refine AllReadyH.cons rfl (fun K hK => ?_) AllReadyH.nil
          obtain ⟨x0, x1, x2, x3, x4, x5⟩ := HR1.out.cells
          have y0 := HR1.out.frozen 0
          have y1 := HR1.out.frozen 1
          have y2 := HR1.out.frozen 2
          have y3 := HR1.out.frozen 3
          have y4 := HR1.out.frozen 4
          have y5 := HR1.out.frozen 5
          clear HST HR1 HR3 HYL
          go_simp
          rw [HY.out]
          refine hK.out _ _ hs8 (fun _ => ?_)
          clear hK K x0 x1 x2 x3 x4 x5 y0 y1 y2 y3 y4 y5 HY
          refine wpAnyH_ready (rs := [9]) (by kernel_rfl) (by simp) ?_
          refine AllReadyH.cons rfl (fun K hK => ?_) AllReadyH.nil
          obtain ⟨x0, x1, x2, x3, x4, x5⟩ := HR2.out.cells
          have y0 := HR2.out.frozen 0
          have y1 := HR2.out.frozen 1
          have y2 := HR2.out.frozen 2
          have y3 := HR2.out.frozen 3
          have y4 := HR2.out.frozen 4
          have y5 := HR2.out.frozen 5
          clear HR2
          go_simp
          rw [HU.out]
          refine hK.out _ _ hs9 (fun _ => ?_)
          clear hK K x0 x1 x2 x3 x4 x5 y0 y1 y2 y3 y4 y5 hs8 hs9 HU
          refine wpAnyH_done (by kernel_rfl) ?_ _
          go_wp2_with fail
          go_meet
          exact ⟨p6, p7, rfl, rfl, HF⟩
        · have HSN : Hid (CkSt w4 (some p6) (some X2.heap.size) (X2.alloc (.cells #[.bool false, .bool false, .bool false, .bool false, .bool false, .int .i64 0] 33))) := HST.out.make2
          go_simp
          refine hK.out _ _ (HSS.out _ HSN.out.low) (fun _ => ?_)
          clear hK K HST
          obtain ⟨p7, ho⟩ : ∃ o, o = X2.heap.size := ⟨_, rfl⟩
          obtain ⟨X3, hX⟩ : ∃ X, X = X2.alloc (.cells #[.bool false, .bool false, .bool false, .bool false, .bool false, .int .i64 0] 33) := ⟨_, rfl⟩
          rw [← ho] at HSN ⊢
          rw [← hX] at HSN ⊢
          clear ho hX
          have HST := HSN
          clear HSN
          refine wpAnyH_ready (rs := [5]) (by kernel_rfl) (by simp) ?_
          refine AllReadyH.cons rfl (fun K hK => ?_) AllReadyH.nil
          go_simp
          refine (HC2.out _ HST.out.low).mono ?_
          rintro e X4 ⟨rfl, bx⟩
          have HSN : Hid (CkSt w4 (some p6) (some p7) X4) := HST.out.below bx
          refine hK.out _ _ (HSS.out _ HSN.out.low) (fun _ => ?_)
          clear hK K HST bx
          have HST := HSN
          clear HSN
          have hne : p6 ≠ p7 := fun e => HST.out.ne p6 rfl (by rw [e])
          obtain ⟨Y, hY⟩ : ∃ Y, Y = ((((((X4.setCell ⟨p6, 0, none⟩ (.bool q0)).setCell ⟨p6, 1, none⟩ (.bool q1)).setCell ⟨p6, 2, none⟩ (.bool q2)).setCell ⟨p6, 3, none⟩ (.bool q3)).setCell ⟨p6, 4, none⟩ (.bool q4)).setCell ⟨p6, 5, none⟩ (.int .i64 q5)) := ⟨_, rfl⟩
          have HY : Hid (((((((X4.setCell ⟨p6, 0, none⟩ (.bool q0)).setCell ⟨p6, 1, none⟩ (.bool q1)).setCell ⟨p6, 2, none⟩ (.bool q2)).setCell ⟨p6, 3, none⟩ (.bool q3)).setCell ⟨p6, 4, none⟩ (.bool q4)).setCell ⟨p6, 5, none⟩ (.int .i64 q5)) = Y) := hY.symm
          have HR1 : Hid (CcAt X4 p6 cc0) := (HST.out.b1 p6 rfl).1
          have HYL : Hid (Below w4.heap.size w4 Y) := by show Below _ _ _; rw [hY]; exact below_putCc HST.out.low (HST.out.b1 p6 rfl).2 ⟨q0, q1, q2, q3, q4, q5⟩
          have HR2 : Hid (CcAt Y p7 cc0) := by show CcAt _ _ _; rw [hY]; exact (HST.out.b2 p7 rfl).1.same (putCcO _ _ _ ⟨q0, q1, q2, q3, q4, q5⟩ (fun e => hne e.symm))
          have HR3 : Hid (CcAt Y p6 ⟨q0, q1, q2, q3, q4, q5⟩) := by show CcAt _ _ _; rw [hY]; exact HR1.out.putAll ⟨q0, q1, q2, q3, q4, q5⟩
          obtain ⟨U, hU⟩ : ∃ U, U = ((((((Y.setCell ⟨p7, 0, none⟩ (.bool z0)).setCell ⟨p7, 1, none⟩ (.bool z1)).setCell ⟨p7, 2, none⟩ (.bool z2)).setCell ⟨p7, 3, none⟩ (.bool z3)).setCell ⟨p7, 4, none⟩ (.bool z4)).setCell ⟨p7, 5, none⟩ (.int .i64 z5)) := ⟨_, rfl⟩
          have HU : Hid (((((((Y.setCell ⟨p7, 0, none⟩ (.bool z0)).setCell ⟨p7, 1, none⟩ (.bool z1)).setCell ⟨p7, 2, none⟩ (.bool z2)).setCell ⟨p7, 3, none⟩ (.bool z3)).setCell ⟨p7, 4, none⟩ (.bool z4)).setCell ⟨p7, 5, none⟩ (.int .i64 z5)) = U) := hU.symm
          have HF : Hid (Below w4.heap.size w4 U ∧ CcAt U p6 ⟨q0, q1, q2, q3, q4, q5⟩ ∧ CcAt U p7 ⟨z0, z1, z2, z3, z4, z5⟩) := by
            show _ ∧ _ ∧ _
            rw [hU]
            exact ⟨below_putCc HYL.out (HST.out.b2 p7 rfl).2 ⟨z0, z1, z2, z3, z4, z5⟩, HR3.out.same (putCcO _ _ _ ⟨z0, z1, z2, z3, z4, z5⟩ hne), HR2.out.putAll ⟨z0, z1, z2, z3, z4, z5⟩⟩
          have hs8 := HSS.out _ HYL.out
          have hs9 := HSS.out _ HF.out.1
          clear hY hU hne
          refine wpAnyH_ready (rs := [8]) (by kernel_rfl) (by simp) ?_
          refine AllReadyH.cons rfl (fun K hK => ?_) AllReadyH.nil
          obtain ⟨x0, x1, x2, x3, x4, x5⟩ := HR1.out.cells
          have y0 := HR1.out.frozen 0
          have y1 := HR1.out.frozen 1
          have y2 := HR1.out.frozen 2
          have y3 := HR1.out.frozen 3
          have y4 := HR1.out.frozen 4
          have y5 := HR1.out.frozen 5
          clear HST HR1 HR3 HYL
          go_simp
          rw [HY.out]
          refine hK.out _ _ hs8 (fun _ => ?_)
          clear hK K x0 x1 x2 x3 x4 x5 y0 y1 y2 y3 y4 y5 HY
          refine wpAnyH_ready (rs := [9]) (by kernel_rfl) (by simp) ?_
          refine AllReadyH.cons rfl (fun K hK => ?_) AllReadyH.nil
          obtain ⟨x0, x1, x2, x3, x4, x5⟩ := HR2.out.cells
          have y0 := HR2.out.frozen 0
          have y1 := HR2.out.frozen 1
          have y2 := HR2.out.frozen 2
          have y3 := HR2.out.frozen 3
          have y4 := HR2.out.frozen 4
          have y5 := HR2.out.frozen 5
          clear HR2
          go_simp
          rw [HU.out]
          refine hK.out _ _ hs9 (fun _ => ?_)
          clear hK K x0 x1 x2 x3 x4 x5 y0 y1 y2 y3 y4 y5 hs8 hs9 HU
          refine wpAnyH_done (by kernel_rfl) ?_ _
          go_wp2_with fail
          go_meet
          exact ⟨p6, p7, rfl, rfl, HF⟩
      · have HSN : Hid (CkSt w4 none (some X1.heap.size) (X1.alloc (.cells #[.bool false, .bool false, .bool false, .bool false, .bool false, .int .i64 0] 33))) := HST.out.make2
        go_simp
        refine hK.out _ _ (HSS.out _ HSN.out.low) (fun _ => ?_)
        clear hK K HST
        obtain ⟨p7, ho⟩ : ∃ o, o = X1.heap.size := ⟨_, rfl⟩
        obtain ⟨X2, hX⟩ : ∃ X, X = X1.alloc (.cells #[.bool false, .bool false, .bool false, .bool false, .bool false, .int .i64 0] 33) := ⟨_, rfl⟩
        rw [← ho] at HSN ⊢
        rw [← hX] at HSN ⊢
        clear ho hX
        have HST := HSN
        clear HSN
        refine wpAnyH_ready (rs := [5, 6]) (by kernel_rfl) (by simp) ?_
        refine AllReadyH.cons rfl (fun K hK => ?_) (AllReadyH.cons rfl (fun K hK => ?_) AllReadyH.nil)
        · go_simp
          refine (HC2.out _ HST.out.low).mono ?_
          rintro e X3 ⟨rfl, bx⟩
          have HSN : Hid (CkSt w4 none (some p7) X3) := HST.out.below bx
          refine hK.out _ _ (HSS.out _ HSN.out.low) (fun _ => ?_)
          clear hK K HST bx
          have HST := HSN
          clear HSN
          refine wpAnyH_ready (rs := [6]) (by kernel_rfl) (by simp) ?_
          refine AllReadyH.cons rfl (fun K hK => ?_) AllReadyH.nil
          have HSN : Hid (CkSt w4 (some X3.heap.size) (some p7) (X3.alloc (.cells #[.bool false, .bool false, .bool false, .bool false, .bool false, .int .i64 0] 33))) := HST.out.make1
          go_simp
          refine hK.out _ _ (HSS.out _ HSN.out.low) (fun _ => ?_)
          clear hK K HST
          obtain ⟨p6, ho⟩ : ∃ o, o = X3.heap.size := ⟨_, rfl⟩
          obtain ⟨X4, hX⟩ : ∃ X, X = X3.alloc (.cells #[.bool false, .bool false, .bool false, .bool false, .bool false, .int .i64 0] 33) := ⟨_, rfl⟩
          rw [← ho] at HSN ⊢
          rw [← hX] at HSN ⊢
          clear ho hX
          have HST := HSN
          clear HSN
          have hne : p6 ≠ p7 := fun e => HST.out.ne p6 rfl (by rw [e])
          obtain ⟨Y, hY⟩ : ∃ Y, Y = ((((((X4.setCell ⟨p6, 0, none⟩ (.bool q0)).setCell ⟨p6, 1, none⟩ (.bool q1)).setCell ⟨p6, 2, none⟩ (.bool q2)).setCell ⟨p6, 3, none⟩ (.bool q3)).setCell ⟨p6, 4, none⟩ (.bool q4)).setCell ⟨p6, 5, none⟩ (.int .i64 q5)) := ⟨_, rfl⟩
          have HY : Hid (((((((X4.setCell ⟨p6, 0, none⟩ (.bool q0)).setCell ⟨p6, 1, none⟩ (.bool q1)).setCell ⟨p6, 2, none⟩ (.bool q2)).setCell ⟨p6, 3, none⟩ (.bool q3)).setCell ⟨p6, 4, none⟩ (.bool q4)).setCell ⟨p6, 5, none⟩ (.int .i64 q5)) = Y) := hY.symm
          have HR1 : Hid (CcAt X4 p6 cc0) := (HST.out.b1 p6 rfl).1
          have HYL : Hid (Below w4.heap.size w4 Y) := by show Below _ _ _; rw [hY]; exact below_putCc HST.out.low (HST.out.b1 p6 rfl).2 ⟨q0, q1, q2, q3, q4, q5⟩
          have HR2 : Hid (CcAt Y p7 cc0) := by show CcAt _ _ _; rw [hY]; exact (HST.out.b2 p7 rfl).1.same (putCcO _ _ _ ⟨q0, q1, q2, q3, q4, q5⟩ (fun e => hne e.symm))
          have HR3 : Hid (CcAt Y p6 ⟨q0, q1, q2, q3, q4, q5⟩) := by show CcAt _ _ _; rw [hY]; exact HR1.out.putAll ⟨q0, q1, q2, q3, q4, q5⟩
          obtain ⟨U, hU⟩ : ∃ U, U = ((((((Y.setCell ⟨p7, 0, none⟩ (.bool z0)).setCell ⟨p7, 1, none⟩ (.bool z1)).setCell ⟨p7, 2, none⟩ (.bool z2)).setCell ⟨p7, 3, none⟩ (.bool z3)).setCell ⟨p7, 4, none⟩ (.bool z4)).setCell ⟨p7, 5, none⟩ (.int .i64 z5)) := ⟨_, rfl⟩
          have HU : Hid (((((((Y.setCell ⟨p7, 0, none⟩ (.bool z0)).setCell ⟨p7, 1, none⟩ (.bool z1)).setCell ⟨p7, 2, none⟩ (.bool z2)).setCell ⟨p7, 3, none⟩ (.bool z3)).setCell ⟨p7, 4, none⟩ (.bool z4)).setCell ⟨p7, 5, none⟩ (.int .i64 z5)) = U) := hU.symm
          have HF : Hid (Below w4.heap.size w4 U ∧ CcAt U p6 ⟨q0, q1, q2, q3, q4, q5⟩ ∧ CcAt U p7 ⟨z0, z1, z2, z3, z4, z5⟩) := by
            show _ ∧ _ ∧ _
            rw [hU]
            exact ⟨below_putCc HYL.out (HST.out.b2 p7 rfl).2 ⟨z0, z1, z2, z3, z4, z5⟩, HR3.out.same (putCcO _ _ _ ⟨z0, z1, z2, z3, z4, z5⟩ hne), HR2.out.putAll ⟨z0, z1, z2, z3, z4, z5⟩⟩
          have hs8 := HSS.out _ HYL.out
          have hs9 := HSS.out _ HF.out.1
          clear hY hU hne
          refine wpAnyH_ready (rs := [8]) (by kernel_rfl) (by simp) ?_
          refine AllReadyH.cons rfl (fun K hK => ?_) AllReadyH.nil
          obtain ⟨x0, x1, x2, x3, x4, x5⟩ := HR1.out.cells
          have y0 := HR1.out.frozen 0
          have y1 := HR1.out.frozen 1
          have y2 := HR1.out.frozen 2
          have y3 := HR1.out.frozen 3
          have y4 := HR1.out.frozen 4
          have y5 := HR1.out.frozen 5
          clear HST HR1 HR3 HYL
          go_simp
          rw [HY.out]
          refine hK.out _ _ hs8 (fun _ => ?_)
          clear hK K x0 x1 x2 x3 x4 x5 y0 y1 y2 y3 y4 y5 HY
          refine wpAnyH_ready (rs := [9]) (by kernel_rfl) (by simp) ?_
          refine AllReadyH.cons rfl (fun K hK => ?_) AllReadyH.nil
          obtain ⟨x0, x1, x2, x3, x4, x5⟩ := HR2.out.cells
          have y0 := HR2.out.frozen 0
          have y1 := HR2.out.frozen 1
          have y2 := HR2.out.frozen 2
          have y3 := HR2.out.frozen 3
          have y4 := HR2.out.frozen 4
          have y5 := HR2.out.frozen 5
          clear HR2
          go_simp
          rw [HU.out]
          refine hK.out _ _ hs9 (fun _ => ?_)
          clear hK K x0 x1 x2 x3 x4 x5 y0 y1 y2 y3 y4 y5 hs8 hs9 HU
          refine wpAnyH_done (by kernel_rfl) ?_ _
          go_wp2_with fail
          go_meet
          exact ⟨p6, p7, rfl, rfl, HF⟩
        · have HSN : Hid (CkSt w4 (some X2.heap.size) (some p7) (X2.alloc (.cells #[.bool false, .bool false, .bool false, .bool false, .bool false, .int .i64 0] 33))) := HST.out.make1
          go_simp
          refine hK.out _ _ (HSS.out _ HSN.out.low) (fun _ => ?_)
          clear hK K HST
          obtain ⟨p6, ho⟩ : ∃ o, o = X2.heap.size := ⟨_, rfl⟩
          obtain ⟨X3, hX⟩ : ∃ X, X = X2.alloc (.cells #[.bool false, .bool false, .bool false, .bool false, .bool false, .int .i64 0] 33) := ⟨_, rfl⟩
          rw [← ho] at HSN ⊢
          rw [← hX] at HSN ⊢
          clear ho hX
          have HST := HSN
          clear HSN
          refine wpAnyH_ready (rs := [5]) (by kernel_rfl) (by simp) ?_
          refine AllReadyH.cons rfl (fun K hK => ?_) AllReadyH.nil
          go_simp
          refine (HC2.out _ HST.out.low).mono ?_
          rintro e X4 ⟨rfl, bx⟩
          have HSN : Hid (CkSt w4 (some p6) (some p7) X4) := HST.out.below bx
          refine hK.out _ _ (HSS.out _ HSN.out.low) (fun _ => ?_)
          clear hK K HST bx
          have HST := HSN
          clear HSN
          have hne : p6 ≠ p7 := fun e => HST.out.ne p6 rfl (by rw [e])
          obtain ⟨Y, hY⟩ : ∃ Y, Y = ((((((X4.setCell ⟨p6, 0, none⟩ (.bool q0)).setCell ⟨p6, 1, none⟩ (.bool q1)).setCell ⟨p6, 2, none⟩ (.bool q2)).setCell ⟨p6, 3, none⟩ (.bool q3)).setCell ⟨p6, 4, none⟩ (.bool q4)).setCell ⟨p6, 5, none⟩ (.int .i64 q5)) := ⟨_, rfl⟩
          have HY : Hid (((((((X4.setCell ⟨p6, 0, none⟩ (.bool q0)).setCell ⟨p6, 1, none⟩ (.bool q1)).setCell ⟨p6, 2, none⟩ (.bool q2)).setCell ⟨p6, 3, none⟩ (.bool q3)).setCell ⟨p6, 4, none⟩ (.bool q4)).setCell ⟨p6, 5, none⟩ (.int .i64 q5)) = Y) := hY.symm
          have HR1 : Hid (CcAt X4 p6 cc0) := (HST.out.b1 p6 rfl).1
          have HYL : Hid (Below w4.heap.size w4 Y) := by show Below _ _ _; rw [hY]; exact below_putCc HST.out.low (HST.out.b1 p6 rfl).2 ⟨q0, q1, q2, q3, q4, q5⟩
          have HR2 : Hid (CcAt Y p7 cc0) := by show CcAt _ _ _; rw [hY]; exact (HST.out.b2 p7 rfl).1.same (putCcO _ _ _ ⟨q0, q1, q2, q3, q4, q5⟩ (fun e => hne e.symm))
          have HR3 : Hid (CcAt Y p6 ⟨q0, q1, q2, q3, q4, q5⟩) := by show CcAt _ _ _; rw [hY]; exact HR1.out.putAll ⟨q0, q1, q2, q3, q4, q5⟩
          obtain ⟨U, hU⟩ : ∃ U, U = ((((((Y.setCell ⟨p7, 0, none⟩ (.bool z0)).setCell ⟨p7, 1, none⟩ (.bool z1)).setCell ⟨p7, 2, none⟩ (.bool z2)).setCell ⟨p7, 3, none⟩ (.bool z3)).setCell ⟨p7, 4, none⟩ (.bool z4)).setCell ⟨p7, 5, none⟩ (.int .i64 z5)) := ⟨_, rfl⟩
          have HU : Hid (((((((Y.setCell ⟨p7, 0, none⟩ (.bool z0)).setCell ⟨p7, 1, none⟩ (.bool z1)).setCell ⟨p7, 2, none⟩ (.bool z2)).setCell ⟨p7, 3, none⟩ (.bool z3)).setCell ⟨p7, 4, none⟩ (.bool z4)).setCell ⟨p7, 5, none⟩ (.int .i64 z5)) = U) := hU.symm
          have HF : Hid (Below w4.heap.size w4 U ∧ CcAt U p6 ⟨q0, q1, q2, q3, q4, q5⟩ ∧ CcAt U p7 ⟨z0, z1, z2, z3, z4, z5⟩) := by
            show _ ∧ _ ∧ _
            rw [hU]
            exact ⟨below_putCc HYL.out (HST.out.b2 p7 rfl).2 ⟨z0, z1, z2, z3, z4, z5⟩, HR3.out.same (putCcO _ _ _ ⟨z0, z1, z2, z3, z4, z5⟩ hne), HR2.out.putAll ⟨z0, z1, z2, z3, z4, z5⟩⟩
          have hs8 := HSS.out _ HYL.out
          have hs9 := HSS.out _ HF.out.1
          clear hY hU hne
          refine wpAnyH_ready (rs := [8]) (by kernel_rfl) (by simp) ?_
          refine AllReadyH.cons rfl (fun K hK => ?_) AllReadyH.nil
          obtain ⟨x0, x1, x2, x3, x4, x5⟩ := HR1.out.cells
          have y0 := HR1.out.frozen 0
          have y1 := HR1.out.frozen 1
          have y2 := HR1.out.frozen 2
          have y3 := HR1.out.frozen 3
          have y4 := HR1.out.frozen 4
          have y5 := HR1.out.frozen 5
          clear HST HR1 HR3 HYL
          go_simp
          rw [HY.out]
          refine hK.out _ _ hs8 (fun _ => ?_)
          clear hK K x0 x1 x2 x3 x4 x5 y0 y1 y2 y3 y4 y5 HY
          refine wpAnyH_ready (rs := [9]) (by kernel_rfl) (by simp) ?_
          refine AllReadyH.cons rfl (fun K hK => ?_) AllReadyH.nil
          obtain ⟨x0, x1, x2, x3, x4, x5⟩ := HR2.out.cells
          have y0 := HR2.out.frozen 0
          have y1 := HR2.out.frozen 1
          have y2 := HR2.out.frozen 2
          have y3 := HR2.out.frozen 3
          have y4 := HR2.out.frozen 4
          have y5 := HR2.out.frozen 5
          clear HR2
          go_simp
          rw [HU.out]
          refine hK.out _ _ hs9 (fun _ => ?_)
          clear hK K x0 x1 x2 x3 x4 x5 y0 y1 y2 y3 y4 y5 hs8 hs9 HU
          refine wpAnyH_done (by kernel_rfl) ?_ _
          go_wp2_with fail
          go_meet
          exact ⟨p6, p7, rfl, rfl, HF⟩
    · have HSN : Hid (CkSt w4 (some X0.heap.size) none (X0.alloc (.cells #[.bool false, .bool false, .bool false, .bool false, .bool false, .int .i64 0] 33))) := HST.out.make1
      go_simp
      refine hK.out _ _ (HSS.out _ HSN.out.low) (fun _ => ?_)
      clear hK K HST
      obtain ⟨p6, ho⟩ : ∃ o, o = X0.heap.size := ⟨_, rfl⟩
      obtain ⟨X1, hX⟩ : ∃ X, X = X0.alloc (.cells #[.bool false, .bool false, .bool false, .bool false, .bool false, .int .i64 0] 33) := ⟨_, rfl⟩
      rw [← ho] at HSN ⊢
      rw [← hX] at HSN ⊢
      clear ho hX
      have HST := HSN
      clear HSN
      refine wpAnyH_ready (rs := [2, 7]) (by kernel_rfl) (by simp) ?_
      refine AllReadyH.cons rfl (fun K hK => ?_) (AllReadyH.cons rfl (fun K hK => ?_) AllReadyH.nil)
      · go_simp
        refine (HC1.out _ HST.out.low).mono ?_
        rintro e X2 ⟨rfl, bx⟩
        have HSN : Hid (CkSt w4 (some p6) none X2) := HST.out.below bx
        refine hK.out _ _ (HSS.out _ HSN.out.low) (fun _ => ?_)
        clear hK K HST bx
        have HST := HSN
        clear HSN
        refine wpAnyH_ready (rs := [5, 7]) (by kernel_rfl) (by simp) ?_
        refine AllReadyH.cons rfl (fun K hK => ?_) (AllReadyH.cons rfl (fun K hK => ?_) AllReadyH.nil)
        · go_simp
          refine (HC2.out _ HST.out.low).mono ?_
          rintro e X3 ⟨rfl, bx⟩
          have HSN : Hid (CkSt w4 (some p6) none X3) := HST.out.below bx
          refine hK.out _ _ (HSS.out _ HSN.out.low) (fun _ => ?_)
          clear hK K HST bx
          have HST := HSN
          clear HSN
          refine wpAnyH_ready (rs := [7]) (by kernel_rfl) (by simp) ?_
          refine AllReadyH.cons rfl (fun K hK => ?_) AllReadyH.nil
          have HSN : Hid (CkSt w4 (some p6) (some X3.heap.size) (X3.alloc (.cells #[.bool false, .bool false, .bool false, .bool false, .bool false, .int .i64 0] 33))) := HST.out.make2
          go_simp
          refine hK.out _ _ (HSS.out _ HSN.out.low) (fun _ => ?_)
          clear hK K HST
          obtain ⟨p7, ho⟩ : ∃ o, o = X3.heap.size := ⟨_, rfl⟩
          obtain ⟨X4, hX⟩ : ∃ X, X = X3.alloc (.cells #[.bool false, .bool false, .bool false, .bool false, .bool false, .int .i64 0] 33) := ⟨_, rfl⟩
          rw [← ho] at HSN ⊢
          rw [← hX] at HSN ⊢
          clear ho hX
          have HST := HSN
          clear HSN
          have hne : p6 ≠ p7 := fun e => HST.out.ne p6 rfl (by rw [e])
          obtain ⟨Y, hY⟩ : ∃ Y, Y = ((((((X4.setCell ⟨p6, 0, none⟩ (.bool q0)).setCell ⟨p6, 1, none⟩ (.bool q1)).setCell ⟨p6, 2, none⟩ (.bool q2)).setCell ⟨p6, 3, none⟩ (.bool q3)).setCell ⟨p6, 4, none⟩ (.bool q4)).setCell ⟨p6, 5, none⟩ (.int .i64 q5)) := ⟨_, rfl⟩
          have HY : Hid (((((((X4.setCell ⟨p6, 0, none⟩ (.bool q0)).setCell ⟨p6, 1, none⟩ (.bool q1)).setCell ⟨p6, 2, none⟩ (.bool q2)).setCell ⟨p6, 3, none⟩ (.bool q3)).setCell ⟨p6, 4, none⟩ (.bool q4)).setCell ⟨p6, 5, none⟩ (.int .i64 q5)) = Y) := hY.symm
          have HR1 : Hid (CcAt X4 p6 cc0) := (HST.out.b1 p6 rfl).1
          have HYL : Hid (Below w4.heap.size w4 Y) := by show Below _ _ _; rw [hY]; exact below_putCc HST.out.low (HST.out.b1 p6 rfl).2 ⟨q0, q1, q2, q3, q4, q5⟩
          have HR2 : Hid (CcAt Y p7 cc0) := by show CcAt _ _ _; rw [hY]; exact (HST.out.b2 p7 rfl).1.same (putCcO _ _ _ ⟨q0, q1, q2, q3, q4, q5⟩ (fun e => hne e.symm))
          have HR3 : Hid (CcAt Y p6 ⟨q0, q1, q2, q3, q4, q5⟩) := by show CcAt _ _ _; rw [hY]; exact HR1.out.putAll ⟨q0, q1, q2, q3, q4, q5⟩
          obtain ⟨U, hU⟩ : ∃ U, U = ((((((Y.setCell ⟨p7, 0, none⟩ (.bool z0)).setCell ⟨p7, 1, none⟩ (.bool z1)).setCell ⟨p7, 2, none⟩ (.bool z2)).setCell ⟨p7, 3, none⟩ (.bool z3)).setCell ⟨p7, 4, none⟩ (.bool z4)).setCell ⟨p7, 5, none⟩ (.int .i64 z5)) := ⟨_, rfl⟩
          have HU : Hid (((((((Y.setCell ⟨p7, 0, none⟩ (.bool z0)).setCell ⟨p7, 1, none⟩ (.bool z1)).setCell ⟨p7, 2, none⟩ (.bool z2)).setCell ⟨p7, 3, none⟩ (.bool z3)).setCell ⟨p7, 4, none⟩ (.bool z4)).setCell ⟨p7, 5, none⟩ (.int .i64 z5)) = U) := hU.symm
          have HF : Hid (Below w4.heap.size w4 U ∧ CcAt U p6 ⟨q0, q1, q2, q3, q4, q5⟩ ∧ CcAt U p7 ⟨z0, z1, z2, z3, z4, z5⟩) := by
            show _ ∧ _ ∧ _
            rw [hU]
            exact ⟨below_putCc HYL.out (HST.out.b2 p7 rfl).2 ⟨z0, z1, z2, z3, z4, z5⟩, HR3.out.same (putCcO _ _ _ ⟨z0, z1, z2, z3, z4, z5⟩ hne), HR2.out.putAll ⟨z0, z1, z2, z3, z4, z5⟩⟩
          have hs8 := HSS.out _ HYL.out
          have hs9 := HSS.out _ HF.out.1
          clear hY hU hne
          refine wpAnyH_ready (rs := [8]) (by kernel_rfl) (by simp) ?_
          refine AllReadyH.cons rfl (fun K hK => ?_) AllReadyH.nil
          obtain ⟨x0, x1, x2, x3, x4, x5⟩ := HR1.out.cells
          have y0 := HR1.out.frozen 0
          have y1 := HR1.out.frozen 1
          have y2 := HR1.out.frozen 2
          have y3 := HR1.out.frozen 3
          have y4 := HR1.out.frozen 4
          have y5 := HR1.out.frozen 5
          clear HST HR1 HR3 HYL
          go_simp
          rw [HY.out]
          refine hK.out _ _ hs8 (fun _ => ?_)
          clear hK K x0 x1 x2 x3 x4 x5 y0 y1 y2 y3 y4 y5 HY
          refine wpAnyH_ready (rs := [9]) (by kernel_rfl) (by simp) ?_
          refine AllReadyH.cons rfl (fun K hK => ?_) AllReadyH.nil
          obtain ⟨x0, x1, x2, x3, x4, x5⟩ := HR2.out.cells
          have y0 := HR2.out.frozen 0
          have y1 := HR2.out.frozen 1
          have y2 := HR2.out.frozen 2
          have y3 := HR2.out.frozen 3
          have y4 := HR2.out.frozen 4
          have y5 := HR2.out.frozen 5
          clear HR2
          go_simp
          rw [HU.out]
          refine hK.out _ _ hs9 (fun _ => ?_)
          clear hK K x0 x1 x2 x3 x4 x5 y0 y1 y2 y3 y4 y5 hs8 hs9 HU
          refine wpAnyH_done (by kernel_rfl) ?_ _
          go_wp2_with fail
          go_meet
          exact ⟨p6, p7, rfl, rfl, HF⟩
        · have HSN : Hid (CkSt w4 (some p6) (some X2.heap.size) (X2.alloc (.cells #[.bool false, .bool false, .bool false, .bool false, .bool false, .int .i64 0] 33))) := HST.out.make2
          go_simp
          refine hK.out _ _ (HSS.out _ HSN.out.low) (fun _ => ?_)
          clear hK K HST
          obtain ⟨p7, ho⟩ : ∃ o, o = X2.heap.size := ⟨_, rfl⟩
          obtain ⟨X3, hX⟩ : ∃ X, X = X2.alloc (.cells #[.bool false, .bool false, .bool false, .bool false, .bool false, .int .i64 0] 33) := ⟨_, rfl⟩
          rw [← ho] at HSN ⊢
          rw [← hX] at HSN ⊢
          clear ho hX
          have HST := HSN
          clear HSN
          refine wpAnyH_ready (rs := [5]) (by kernel_rfl) (by simp) ?_
          refine AllReadyH.cons rfl (fun K hK => ?_) AllReadyH.nil
          go_simp
          refine (HC2.out _ HST.out.low).mono ?_
          rintro e X4 ⟨rfl, bx⟩
          have HSN : Hid (CkSt w4 (some p6) (some p7) X4) := HST.out.below bx
          refine hK.out _ _ (HSS.out _ HSN.out.low) (fun _ => ?_)
          clear hK K HST bx
          have HST := HSN
          clear HSN
          have hne : p6 ≠ p7 := fun e => HST.out.ne p6 rfl (by rw [e])
          obtain ⟨Y, hY⟩ : ∃ Y, Y = ((((((X4.setCell ⟨p6, 0, none⟩ (.bool q0)).setCell ⟨p6, 1, none⟩ (.bool q1)).setCell ⟨p6, 2, none⟩ (.bool q2)).setCell ⟨p6, 3, none⟩ (.bool q3)).setCell ⟨p6, 4, none⟩ (.bool q4)).setCell ⟨p6, 5, none⟩ (.int .i64 q5)) := ⟨_, rfl⟩
          have HY : Hid (((((((X4.setCell ⟨p6, 0, none⟩ (.bool q0)).setCell ⟨p6, 1, none⟩ (.bool q1)).setCell ⟨p6, 2, none⟩ (.bool q2)).setCell ⟨p6, 3, none⟩ (.bool q3)).setCell ⟨p6, 4, none⟩ (.bool q4)).setCell ⟨p6, 5, none⟩ (.int .i64 q5)) = Y) := hY.symm
          have HR1 : Hid (CcAt X4 p6 cc0) := (HST.out.b1 p6 rfl).1
          have HYL : Hid (Below w4.heap.size w4 Y) := by show Below _ _ _; rw [hY]; exact below_putCc HST.out.low (HST.out.b1 p6 rfl).2 ⟨q0, q1, q2, q3, q4, q5⟩
          have HR2 : Hid (CcAt Y p7 cc0) := by show CcAt _ _ _; rw [hY]; exact (HST.out.b2 p7 rfl).1.same (putCcO _ _ _ ⟨q0, q1, q2, q3, q4, q5⟩ (fun e => hne e.symm))
          have HR3 : Hid (CcAt Y p6 ⟨q0, q1, q2, q3, q4, q5⟩) := by show CcAt _ _ _; rw [hY]; exact HR1.out.putAll ⟨q0, q1, q2, q3, q4, q5⟩
          obtain ⟨U, hU⟩ : ∃ U, U = ((((((Y.setCell ⟨p7, 0, none⟩ (.bool z0)).setCell ⟨p7, 1, none⟩ (.bool z1)).setCell ⟨p7, 2, none⟩ (.bool z2)).setCell ⟨p7, 3, none⟩ (.bool z3)).setCell ⟨p7, 4, none⟩ (.bool z4)).setCell ⟨p7, 5, none⟩ (.int .i64 z5)) := ⟨_, rfl⟩
          have HU : Hid (((((((Y.setCell ⟨p7, 0, none⟩ (.bool z0)).setCell ⟨p7, 1, none⟩ (.bool z1)).setCell ⟨p7, 2, none⟩ (.bool z2)).setCell ⟨p7, 3, none⟩ (.bool z3)).setCell ⟨p7, 4, none⟩ (.bool z4)).setCell ⟨p7, 5, none⟩ (.int .i64 z5)) = U) := hU.symm
          have HF : Hid (Below w4.heap.size w4 U ∧ CcAt U p6 ⟨q0, q1, q2, q3, q4, q5⟩ ∧ CcAt U p7 ⟨z0, z1, z2, z3, z4, z5⟩) := by
            show _ ∧ _ ∧ _
            rw [hU]
            exact ⟨below_putCc HYL.out (HST.out.b2 p7 rfl).2 ⟨z0, z1, z2, z3, z4, z5⟩, HR3.out.same (putCcO _ _ _ ⟨z0, z1, z2, z3, z4, z5⟩ hne), HR2.out.putAll ⟨z0, z1, z2, z3, z4, z5⟩⟩
          have hs8 := HSS.out _ HYL.out
          have hs9 := HSS.out _ HF.out.1
          clear hY hU hne
          refine wpAnyH_ready (rs := [8]) (by kernel_rfl) (by simp) ?_
          refine AllReadyH.cons rfl (fun K hK => ?_) AllReadyH.nil
          obtain ⟨x0, x1, x2, x3, x4, x5⟩ := HR1.out.cells
          have y0 := HR1.out.frozen 0
          have y1 := HR1.out.frozen 1
          have y2 := HR1.out.frozen 2
          have y3 := HR1.out.frozen 3
          have y4 := HR1.out.frozen 4
          have y5 := HR1.out.frozen 5
          clear HST HR1 HR3 HYL
          go_simp
          rw [HY.out]
          refine hK.out _ _ hs8 (fun _ => ?_)
          clear hK K x0 x1 x2 x3 x4 x5 y0 y1 y2 y3 y4 y5 HY
          refine wpAnyH_ready (rs := [9]) (by kernel_rfl) (by simp) ?_
          refine AllReadyH.cons rfl (fun K hK => ?_) AllReadyH.nil
          obtain ⟨x0, x1, x2, x3, x4, x5⟩ := HR2.out.cells
          have y0 := HR2.out.frozen 0
          have y1 := HR2.out.frozen 1
          have y2 := HR2.out.frozen 2
          have y3 := HR2.out.frozen 3
          have y4 := HR2.out.frozen 4
          have y5 := HR2.out.frozen 5
          clear HR2
          go_simp
          rw [HU.out]
          refine hK.out _ _ hs9 (fun _ => ?_)
          clear hK K x0 x1 x2 x3 x4 x5 y0 y1 y2 y3 y4 y5 hs8 hs9 HU
          refine wpAnyH_done (by kernel_rfl) ?_ _
          go_wp2_with fail
          go_meet
          exact ⟨p6, p7, rfl, rfl, HF⟩
      · have HSN : Hid (CkSt w4 (some p6) (some X1.heap.size) (X1.alloc (.cells #[.bool false, .bool false, .bool false, .bool false, .bool false, .int .i64 0] 33))) := HST.out.make2
        go_simp
        refine hK.out _ _ (HSS.out _ HSN.out.low) (fun _ => ?_)
        clear hK K HST
        obtain ⟨p7, ho⟩ : ∃ o, o = X1.heap.size := ⟨_, rfl⟩
        obtain ⟨X2, hX⟩ : ∃ X, X = X1.alloc (.cells #[.bool false, .bool false, .bool false, .bool false, .bool false, .int .i64 0] 33) := ⟨_, rfl⟩
        rw [← ho] at HSN ⊢
        rw [← hX] at HSN ⊢
        clear ho hX
        have HST := HSN
        clear HSN
        refine wpAnyH_ready (rs := [2]) (by kernel_rfl) (by simp) ?_
        refine AllReadyH.cons rfl (fun K hK => ?_) AllReadyH.nil
        go_simp
        refine (HC1.out _ HST.out.low).mono ?_
        rintro e X3 ⟨rfl, bx⟩
        have HSN : Hid (CkSt w4 (some p6) (some p7) X3) := HST.out.below bx
        refine hK.out _ _ (HSS.out _ HSN.out.low) (fun _ => ?_)
        clear hK K HST bx
        have HST := HSN
        clear HSN
        refine wpAnyH_ready (rs := [5]) (by kernel_rfl) (by simp) ?_
        refine AllReadyH.cons rfl (fun K hK => ?_) AllReadyH.nil
        go_simp
        refine (HC2.out _ HST.out.low).mono ?_
        rintro e X4 ⟨rfl, bx⟩
        have HSN : Hid (CkSt w4 (some p6) (some p7) X4) := HST.out.below bx
        refine hK.out _ _ (HSS.out _ HSN.out.low) (fun _ => ?_)
        clear hK K HST bx
        have HST := HSN
        clear HSN
        have hne : p6 ≠ p7 := fun e => HST.out.ne p6 rfl (by rw [e])
        obtain ⟨Y, hY⟩ : ∃ Y, Y = ((((((X4.setCell ⟨p6, 0, none⟩ (.bool q0)).setCell ⟨p6, 1, none⟩ (.bool q1)).setCell ⟨p6, 2, none⟩ (.bool q2)).setCell ⟨p6, 3, none⟩ (.bool q3)).setCell ⟨p6, 4, none⟩ (.bool q4)).setCell ⟨p6, 5, none⟩ (.int .i64 q5)) := ⟨_, rfl⟩
        have HY : Hid (((((((X4.setCell ⟨p6, 0, none⟩ (.bool q0)).setCell ⟨p6, 1, none⟩ (.bool q1)).setCell ⟨p6, 2, none⟩ (.bool q2)).setCell ⟨p6, 3, none⟩ (.bool q3)).setCell ⟨p6, 4, none⟩ (.bool q4)).setCell ⟨p6, 5, none⟩ (.int .i64 q5)) = Y) := hY.symm
        have HR1 : Hid (CcAt X4 p6 cc0) := (HST.out.b1 p6 rfl).1
        have HYL : Hid (Below w4.heap.size w4 Y) := by show Below _ _ _; rw [hY]; exact below_putCc HST.out.low (HST.out.b1 p6 rfl).2 ⟨q0, q1, q2, q3, q4, q5⟩
        have HR2 : Hid (CcAt Y p7 cc0) := by show CcAt _ _ _; rw [hY]; exact (HST.out.b2 p7 rfl).1.same (putCcO _ _ _ ⟨q0, q1, q2, q3, q4, q5⟩ (fun e => hne e.symm))
        have HR3 : Hid (CcAt Y p6 ⟨q0, q1, q2, q3, q4, q5⟩) := by show CcAt _ _ _; rw [hY]; exact HR1.out.putAll ⟨q0, q1, q2, q3, q4, q5⟩
        obtain ⟨U, hU⟩ : ∃ U, U = ((((((Y.setCell ⟨p7, 0, none⟩ (.bool z0)).setCell ⟨p7, 1, none⟩ (.bool z1)).setCell ⟨p7, 2, none⟩ (.bool z2)).setCell ⟨p7, 3, none⟩ (.bool z3)).setCell ⟨p7, 4, none⟩ (.bool z4)).setCell ⟨p7, 5, none⟩ (.int .i64 z5)) := ⟨_, rfl⟩
        have HU : Hid (((((((Y.setCell ⟨p7, 0, none⟩ (.bool z0)).setCell ⟨p7, 1, none⟩ (.bool z1)).setCell ⟨p7, 2, none⟩ (.bool z2)).setCell ⟨p7, 3, none⟩ (.bool z3)).setCell ⟨p7, 4, none⟩ (.bool z4)).setCell ⟨p7, 5, none⟩ (.int .i64 z5)) = U) := hU.symm
        have HF : Hid (Below w4.heap.size w4 U ∧ CcAt U p6 ⟨q0, q1, q2, q3, q4, q5⟩ ∧ CcAt U p7 ⟨z0, z1, z2, z3, z4, z5⟩) := by
          show _ ∧ _ ∧ _
          rw [hU]
          exact ⟨below_putCc HYL.out (HST.out.b2 p7 rfl).2 ⟨z0, z1, z2, z3, z4, z5⟩, HR3.out.same (putCcO _ _ _ ⟨z0, z1, z2, z3, z4, z5⟩ hne), HR2.out.putAll ⟨z0, z1, z2, z3, z4, z5⟩⟩
        have hs8 := HSS.out _ HYL.out
        have hs9 := HSS.out _ HF.out.1
        clear hY hU hne
        refine wpAnyH_ready (rs := [8]) (by kernel_rfl) (by simp) ?_
        refine AllReadyH.cons rfl (fun K hK => ?_) AllReadyH.nil
        obtain ⟨x0, x1, x2, x3, x4, x5⟩ := HR1.out.cells
        have y0 := HR1.out.frozen 0
        have y1 := HR1.out.frozen 1
        have y2 := HR1.out.frozen 2
        have y3 := HR1.out.frozen 3
        have y4 := HR1.out.frozen 4
        have y5 := HR1.out.frozen 5
        clear HST HR1 HR3 HYL
        go_simp
        rw [HY.out]
        refine hK.out _ _ hs8 (fun _ => ?_)
        clear hK K x0 x1 x2 x3 x4 x5 y0 y1 y2 y3 y4 y5 HY
        refine wpAnyH_ready (rs := [9]) (by kernel_rfl) (by simp) ?_
        refine AllReadyH.cons rfl (fun K hK => ?_) AllReadyH.nil
        obtain ⟨x0, x1, x2, x3, x4, x5⟩ := HR2.out.cells
        have y0 := HR2.out.frozen 0
        have y1 := HR2.out.frozen 1
        have y2 := HR2.out.frozen 2
        have y3 := HR2.out.frozen 3
        have y4 := HR2.out.frozen 4
        have y5 := HR2.out.frozen 5
        clear HR2
        go_simp
        rw [HU.out]
        refine hK.out _ _ hs9 (fun _ => ?_)
        clear hK K x0 x1 x2 x3 x4 x5 y0 y1 y2 y3 y4 y5 hs8 hs9 HU
        refine wpAnyH_done (by kernel_rfl) ?_ _
        go_wp2_with fail
        go_meet
        exact ⟨p6, p7, rfl, rfl, HF⟩
    · have HSN : Hid (CkSt w4 none (some X0.heap.size) (X0.alloc (.cells #[.bool false, .bool false, .bool false, .bool false, .bool false, .int .i64 0] 33))) := HST.out.make2
      go_simp
      refine hK.out _ _ (HSS.out _ HSN.out.low) (fun _ => ?_)
      clear hK K HST
      obtain ⟨p7, ho⟩ : ∃ o, o = X0.heap.size := ⟨_, rfl⟩
      obtain ⟨X1, hX⟩ : ∃ X, X = X0.alloc (.cells #[.bool false, .bool false, .bool false, .bool false, .bool false, .int .i64 0] 33) := ⟨_, rfl⟩
      rw [← ho] at HSN ⊢
      rw [← hX] at HSN ⊢
      clear ho hX
      have HST := HSN
      clear HSN
      refine wpAnyH_ready (rs := [2, 6]) (by kernel_rfl) (by simp) ?_
      refine AllReadyH.cons rfl (fun K hK => ?_) (AllReadyH.cons rfl (fun K hK => ?_) AllReadyH.nil)
      · go_simp
        refine (HC1.out _ HST.out.low).mono ?_
        rintro e X2 ⟨rfl, bx⟩
        have HSN : Hid (CkSt w4 none (some p7) X2) := HST.out.below bx
        refine hK.out _ _ (HSS.out _ HSN.out.low) (fun _ => ?_)
        clear hK K HST bx
        have HST := HSN
        clear HSN
        refine wpAnyH_ready (rs := [5, 6]) (by kernel_rfl) (by simp) ?_
        refine AllReadyH.cons rfl (fun K hK => ?_) (AllReadyH.cons rfl (fun K hK => ?_) AllReadyH.nil)
        · go_simp
          refine (HC2.out _ HST.out.low).mono ?_
          rintro e X3 ⟨rfl, bx⟩
          have HSN : Hid (CkSt w4 none (some p7) X3) := HST.out.below bx
          refine hK.out _ _ (HSS.out _ HSN.out.low) (fun _ => ?_)
          clear hK K HST bx
          have HST := HSN
          clear HSN
          refine wpAnyH_ready (rs := [6]) (by kernel_rfl) (by simp) ?_
          refine AllReadyH.cons rfl (fun K hK => ?_) AllReadyH.nil
          have HSN : Hid (CkSt w4 (some X3.heap.size) (some p7) (X3.alloc (.cells #[.bool false, .bool false, .bool false, .bool false, .bool false, .int .i64 0] 33))) := HST.out.make1
          go_simp
          refine hK.out _ _ (HSS.out _ HSN.out.low) (fun _ => ?_)
          clear hK K HST
          obtain ⟨p6, ho⟩ : ∃ o, o = X3.heap.size := ⟨_, rfl⟩
          obtain ⟨X4, hX⟩ : ∃ X, X = X3.alloc (.cells #[.bool false, .bool false, .bool false, .bool false, .bool false, .int .i64 0] 33) := ⟨_, rfl⟩
          rw [← ho] at HSN ⊢
          rw [← hX] at HSN ⊢
          clear ho hX
          have HST := HSN
          clear HSN
          have hne : p6 ≠ p7 := fun e => HST.out.ne p6 rfl (by rw [e])
          obtain ⟨Y, hY⟩ : ∃ Y, Y = ((((((X4.setCell ⟨p6, 0, none⟩ (.bool q0)).setCell ⟨p6, 1, none⟩ (.bool q1)).setCell ⟨p6, 2, none⟩ (.bool q2)).setCell ⟨p6, 3, none⟩ (.bool q3)).setCell ⟨p6, 4, none⟩ (.bool q4)).setCell ⟨p6, 5, none⟩ (.int .i64 q5)) := ⟨_, rfl⟩
          have HY : Hid (((((((X4.setCell ⟨p6, 0, none⟩ (.bool q0)).setCell ⟨p6, 1, none⟩ (.bool q1)).setCell ⟨p6, 2, none⟩ (.bool q2)).setCell ⟨p6, 3, none⟩ (.bool q3)).setCell ⟨p6, 4, none⟩ (.bool q4)).setCell ⟨p6, 5, none⟩ (.int .i64 q5)) = Y) := hY.symm
          have HR1 : Hid (CcAt X4 p6 cc0) := (HST.out.b1 p6 rfl).1
          have HYL : Hid (Below w4.heap.size w4 Y) := by show Below _ _ _; rw [hY]; exact below_putCc HST.out.low (HST.out.b1 p6 rfl).2 ⟨q0, q1, q2, q3, q4, q5⟩
          have HR2 : Hid (CcAt Y p7 cc0) := by show CcAt _ _ _; rw [hY]; exact (HST.out.b2 p7 rfl).1.same (putCcO _ _ _ ⟨q0, q1, q2, q3, q4, q5⟩ (fun e => hne e.symm))
          have HR3 : Hid (CcAt Y p6 ⟨q0, q1, q2, q3, q4, q5⟩) := by show CcAt _ _ _; rw [hY]; exact HR1.out.putAll ⟨q0, q1, q2, q3, q4, q5⟩
          obtain ⟨U, hU⟩ : ∃ U, U = ((((((Y.setCell ⟨p7, 0, none⟩ (.bool z0)).setCell ⟨p7, 1, none⟩ (.bool z1)).setCell ⟨p7, 2, none⟩ (.bool z2)).setCell ⟨p7, 3, none⟩ (.bool z3)).setCell ⟨p7, 4, none⟩ (.bool z4)).setCell ⟨p7, 5, none⟩ (.int .i64 z5)) := ⟨_, rfl⟩
          have HU : Hid (((((((Y.setCell ⟨p7, 0, none⟩ (.bool z0)).setCell ⟨p7, 1, none⟩ (.bool z1)).setCell ⟨p7, 2, none⟩ (.bool z2)).setCell ⟨p7, 3, none⟩ (.bool z3)).setCell ⟨p7, 4, none⟩ (.bool z4)).setCell ⟨p7, 5, none⟩ (.int .i64 z5)) = U) := hU.symm
          have HF : Hid (Below w4.heap.size w4 U ∧ CcAt U p6 ⟨q0, q1, q2, q3, q4, q5⟩ ∧ CcAt U p7 ⟨z0, z1, z2, z3, z4, z5⟩) := by
            show _ ∧ _ ∧ _
            rw [hU]
            exact ⟨below_putCc HYL.out (HST.out.b2 p7 rfl).2 ⟨z0, z1, z2, z3, z4, z5⟩, HR3.out.same (putCcO _ _ _ ⟨z0, z1, z2, z3, z4, z5⟩ hne), HR2.out.putAll ⟨z0, z1, z2, z3, z4, z5⟩⟩
          have hs8 := HSS.out _ HYL.out
          have hs9 := HSS.out _ HF.out.1
          clear hY hU hne
          refine wpAnyH_ready (rs := [8]) (by kernel_rfl) (by simp) ?_
          refine AllReadyH.cons rfl (fun K hK => ?_) AllReadyH.nil
          obtain ⟨x0, x1, x2, x3, x4, x5⟩ := HR1.out.cells
          have y0 := HR1.out.frozen 0
          have y1 := HR1.out.frozen 1
          have y2 := HR1.out.frozen 2
          have y3 := HR1.out.frozen 3
          have y4 := HR1.out.frozen 4
          have y5 := HR1.out.frozen 5
          clear HST HR1 HR3 HYL
          go_simp
          rw [HY.out]
          refine hK.out _ _ hs8 (fun _ => ?_)
          clear hK K x0 x1 x2 x3 x4 x5 y0 y1 y2 y3 y4 y5 HY
          refine wpAnyH_ready (rs := [9]) (by kernel_rfl) (by simp) ?_
          refine AllReadyH.cons rfl (fun K hK => ?_) AllReadyH.nil
          obtain ⟨x0, x1, x2, x3, x4, x5⟩ := HR2.out.cells
          have y0 := HR2.out.frozen 0
          have y1 := HR2.out.frozen 1
          have y2 := HR2.out.frozen 2
          have y3 := HR2.out.frozen 3
          have y4 := HR2.out.frozen 4
          have y5 := HR2.out.frozen 5
          clear HR2
          go_simp
          rw [HU.out]
          refine hK.out _ _ hs9 (fun _ => ?_)
          clear hK K x0 x1 x2 x3 x4 x5 y0 y1 y2 y3 y4 y5 hs8 hs9 HU
          refine wpAnyH_done (by kernel_rfl) ?_ _
          go_wp2_with fail
          go_meet
          exact ⟨p6, p7, rfl, rfl, HF⟩
        · have HSN : Hid (CkSt w4 (some X2.heap.size) (some p7) (X2.alloc (.cells #[.bool false, .bool false, .bool false, .bool false, .bool false, .int .i64 0] 33))) := HST.out.make1
          go_simp
          refine hK.out _ _ (HSS.out _ HSN.out.low) (fun _ => ?_)
          clear hK K HST
          obtain ⟨p6, ho⟩ : ∃ o, o = X2.heap.size := ⟨_, rfl⟩
          obtain ⟨X3, hX⟩ : ∃ X, X = X2.alloc (.cells #[.bool false, .bool false, .bool false, .bool false, .bool false, .int .i64 0] 33) := ⟨_, rfl⟩
          rw [← ho] at HSN ⊢
          rw [← hX] at HSN ⊢
          clear ho hX
          have HST := HSN
          clear HSN
          refine wpAnyH_ready (rs := [5]) (by kernel_rfl) (by simp) ?_
          refine AllReadyH.cons rfl (fun K hK => ?_) AllReadyH.nil
          go_simp
          refine (HC2.out _ HST.out.low).mono ?_
          rintro e X4 ⟨rfl, bx⟩
          have HSN : Hid (CkSt w4 (some p6) (some p7) X4) := HST.out.below bx
          refine hK.out _ _ (HSS.out _ HSN.out.low) (fun _ => ?_)
          clear hK K HST bx
          have HST := HSN
          clear HSN
          have hne : p6 ≠ p7 := fun e => HST.out.ne p6 rfl (by rw [e])
          obtain ⟨Y, hY⟩ : ∃ Y, Y = ((((((X4.setCell ⟨p6, 0, none⟩ (.bool q0)).setCell ⟨p6, 1, none⟩ (.bool q1)).setCell ⟨p6, 2, none⟩ (.bool q2)).setCell ⟨p6, 3, none⟩ (.bool q3)).setCell ⟨p6, 4, none⟩ (.bool q4)).setCell ⟨p6, 5, none⟩ (.int .i64 q5)) := ⟨_, rfl⟩
          have HY : Hid (((((((X4.setCell ⟨p6, 0, none⟩ (.bool q0)).setCell ⟨p6, 1, none⟩ (.bool q1)).setCell ⟨p6, 2, none⟩ (.bool q2)).setCell ⟨p6, 3, none⟩ (.bool q3)).setCell ⟨p6, 4, none⟩ (.bool q4)).setCell ⟨p6, 5, none⟩ (.int .i64 q5)) = Y) := hY.symm
          have HR1 : Hid (CcAt X4 p6 cc0) := (HST.out.b1 p6 rfl).1
          have HYL : Hid (Below w4.heap.size w4 Y) := by show Below _ _ _; rw [hY]; exact below_putCc HST.out.low (HST.out.b1 p6 rfl).2 ⟨q0, q1, q2, q3, q4, q5⟩
          have HR2 : Hid (CcAt Y p7 cc0) := by show CcAt _ _ _; rw [hY]; exact (HST.out.b2 p7 rfl).1.same (putCcO _ _ _ ⟨q0, q1, q2, q3, q4, q5⟩ (fun e => hne e.symm))
          have HR3 : Hid (CcAt Y p6 ⟨q0, q1, q2, q3, q4, q5⟩) := by show CcAt _ _ _; rw [hY]; exact HR1.out.putAll ⟨q0, q1, q2, q3, q4, q5⟩
          obtain ⟨U, hU⟩ : ∃ U, U = ((((((Y.setCell ⟨p7, 0, none⟩ (.bool z0)).setCell ⟨p7, 1, none⟩ (.bool z1)).setCell ⟨p7, 2, none⟩ (.bool z2)).setCell ⟨p7, 3, none⟩ (.bool z3)).setCell ⟨p7, 4, none⟩ (.bool z4)).setCell ⟨p7, 5, none⟩ (.int .i64 z5)) := ⟨_, rfl⟩
          have HU : Hid (((((((Y.setCell ⟨p7, 0, none⟩ (.bool z0)).setCell ⟨p7, 1, none⟩ (.bool z1)).setCell ⟨p7, 2, none⟩ (.bool z2)).setCell ⟨p7, 3, none⟩ (.bool z3)).setCell ⟨p7, 4, none⟩ (.bool z4)).setCell ⟨p7, 5, none⟩ (.int .i64 z5)) = U) := hU.symm
          have HF : Hid (Below w4.heap.size w4 U ∧ CcAt U p6 ⟨q0, q1, q2, q3, q4, q5⟩ ∧ CcAt U p7 ⟨z0, z1, z2, z3, z4, z5⟩) := by
            show _ ∧ _ ∧ _
            rw [hU]
            exact ⟨below_putCc HYL.out (HST.out.b2 p7 rfl).2 ⟨z0, z1, z2, z3, z4, z5⟩, HR3.out.same (putCcO _ _ _ ⟨z0, z1, z2, z3, z4, z5⟩ hne), HR2.out.putAll ⟨z0, z1, z2, z3, z4, z5⟩⟩
          have hs8 := HSS.out _ HYL.out
          have hs9 := HSS.out _ HF.out.1
          clear hY hU hne
          refine wpAnyH_ready (rs := [8]) (by kernel_rfl) (by simp) ?_
          refine AllReadyH.cons rfl (fun K hK => ?_) AllReadyH.nil
          obtain ⟨x0, x1, x2, x3, x4, x5⟩ := HR1.out.cells
          have y0 := HR1.out.frozen 0
          have y1 := HR1.out.frozen 1
          have y2 := HR1.out.frozen 2
          have y3 := HR1.out.frozen 3
          have y4 := HR1.out.frozen 4
          have y5 := HR1.out.frozen 5
          clear HST HR1 HR3 HYL
          go_simp
          rw [HY.out]
          refine hK.out _ _ hs8 (fun _ => ?_)
          clear hK K x0 x1 x2 x3 x4 x5 y0 y1 y2 y3 y4 y5 HY
          refine wpAnyH_ready (rs := [9]) (by kernel_rfl) (by simp) ?_
          refine AllReadyH.cons rfl (fun K hK => ?_) AllReadyH.nil
          obtain ⟨x0, x1, x2, x3, x4, x5⟩ := HR2.out.cells
          have y0 := HR2.out.frozen 0
          have y1 := HR2.out.frozen 1
          have y2 := HR2.out.frozen 2
          have y3 := HR2.out.frozen 3
          have y4 := HR2.out.frozen 4
          have y5 := HR2.out.frozen 5
          clear HR2
          go_simp
          rw [HU.out]
          refine hK.out _ _ hs9 (fun _ => ?_)
          clear hK K x0 x1 x2 x3 x4 x5 y0 y1 y2 y3 y4 y5 hs8 hs9 HU
          refine wpAnyH_done (by kernel_rfl) ?_ _
          go_wp2_with fail
          go_meet
          exact ⟨p6, p7, rfl, rfl, HF⟩
      · have HSN : Hid (CkSt w4 (some X1.heap.size) (some p7) (X1.alloc (.cells #[.bool false, .bool false, .bool false, .bool false, .bool false, .int .i64 0] 33))) := HST.out.make1
        go_simp
        refine hK.out _ _ (HSS.out _ HSN.out.low) (fun _ => ?_)
        clear hK K HST
        obtain ⟨p6, ho⟩ : ∃ o, o = X1.heap.size := ⟨_, rfl⟩
        obtain ⟨X2, hX⟩ : ∃ X, X = X1.alloc (.cells #[.bool false, .bool false, .bool false, .bool false, .bool false, .int .i64 0] 33) := ⟨_, rfl⟩
        rw [← ho] at HSN ⊢
        rw [← hX] at HSN ⊢
        clear ho hX
        have HST := HSN
        clear HSN
        refine wpAnyH_ready (rs := [2]) (by kernel_rfl) (by simp) ?_
        refine AllReadyH.cons rfl (fun K hK => ?_) AllReadyH.nil
        go_simp
        refine (HC1.out _ HST.out.low).mono ?_
        rintro e X3 ⟨rfl, bx⟩
        have HSN : Hid (CkSt w4 (some p6) (some p7) X3) := HST.out.below bx
        refine hK.out _ _ (HSS.out _ HSN.out.low) (fun _ => ?_)
        clear hK K HST bx
        have HST := HSN
        clear HSN
        refine wpAnyH_ready (rs := [5]) (by kernel_rfl) (by simp) ?_
        refine AllReadyH.cons rfl (fun K hK => ?_) AllReadyH.nil
        go_simp
        refine (HC2.out _ HST.out.low).mono ?_
        rintro e X4 ⟨rfl, bx⟩
        have HSN : Hid (CkSt w4 (some p6) (some p7) X4) := HST.out.below bx
        refine hK.out _ _ (HSS.out _ HSN.out.low) (fun _ => ?_)
        clear hK K HST bx
        have HST := HSN
        clear HSN
        have hne : p6 ≠ p7 := fun e => HST.out.ne p6 rfl (by rw [e])
        obtain ⟨Y, hY⟩ : ∃ Y, Y = ((((((X4.setCell ⟨p6, 0, none⟩ (.bool q0)).setCell ⟨p6, 1, none⟩ (.bool q1)).setCell ⟨p6, 2, none⟩ (.bool q2)).setCell ⟨p6, 3, none⟩ (.bool q3)).setCell ⟨p6, 4, none⟩ (.bool q4)).setCell ⟨p6, 5, none⟩ (.int .i64 q5)) := ⟨_, rfl⟩
        have HY : Hid (((((((X4.setCell ⟨p6, 0, none⟩ (.bool q0)).setCell ⟨p6, 1, none⟩ (.bool q1)).setCell ⟨p6, 2, none⟩ (.bool q2)).setCell ⟨p6, 3, none⟩ (.bool q3)).setCell ⟨p6, 4, none⟩ (.bool q4)).setCell ⟨p6, 5, none⟩ (.int .i64 q5)) = Y) := hY.symm
        have HR1 : Hid (CcAt X4 p6 cc0) := (HST.out.b1 p6 rfl).1
        have HYL : Hid (Below w4.heap.size w4 Y) := by show Below _ _ _; rw [hY]; exact below_putCc HST.out.low (HST.out.b1 p6 rfl).2 ⟨q0, q1, q2, q3, q4, q5⟩
        have HR2 : Hid (CcAt Y p7 cc0) := by show CcAt _ _ _; rw [hY]; exact (HST.out.b2 p7 rfl).1.same (putCcO _ _ _ ⟨q0, q1, q2, q3, q4, q5⟩ (fun e => hne e.symm))
        have HR3 : Hid (CcAt Y p6 ⟨q0, q1, q2, q3, q4, q5⟩) := by show CcAt _ _ _; rw [hY]; exact HR1.out.putAll ⟨q0, q1, q2, q3, q4, q5⟩
        obtain ⟨U, hU⟩ : ∃ U, U = ((((((Y.setCell ⟨p7, 0, none⟩ (.bool z0)).setCell ⟨p7, 1, none⟩ (.bool z1)).setCell ⟨p7, 2, none⟩ (.bool z2)).setCell ⟨p7, 3, none⟩ (.bool z3)).setCell ⟨p7, 4, none⟩ (.bool z4)).setCell ⟨p7, 5, none⟩ (.int .i64 z5)) := ⟨_, rfl⟩
        have HU : Hid (((((((Y.setCell ⟨p7, 0, none⟩ (.bool z0)).setCell ⟨p7, 1, none⟩ (.bool z1)).setCell ⟨p7, 2, none⟩ (.bool z2)).setCell ⟨p7, 3, none⟩ (.bool z3)).setCell ⟨p7, 4, none⟩ (.bool z4)).setCell ⟨p7, 5, none⟩ (.int .i64 z5)) = U) := hU.symm
        have HF : Hid (Below w4.heap.size w4 U ∧ CcAt U p6 ⟨q0, q1, q2, q3, q4, q5⟩ ∧ CcAt U p7 ⟨z0, z1, z2, z3, z4, z5⟩) := by
          show _ ∧ _ ∧ _
          rw [hU]
          exact ⟨below_putCc HYL.out (HST.out.b2 p7 rfl).2 ⟨z0, z1, z2, z3, z4, z5⟩, HR3.out.same (putCcO _ _ _ ⟨z0, z1, z2, z3, z4, z5⟩ hne), HR2.out.putAll ⟨z0, z1, z2, z3, z4, z5⟩⟩
        have hs8 := HSS.out _ HYL.out
        have hs9 := HSS.out _ HF.out.1
        clear hY hU hne
        refine wpAnyH_ready (rs := [8]) (by kernel_rfl) (by simp) ?_
        refine AllReadyH.cons rfl (fun K hK => ?_) AllReadyH.nil
        obtain ⟨x0, x1, x2, x3, x4, x5⟩ := HR1.out.cells
        have y0 := HR1.out.frozen 0
        have y1 := HR1.out.frozen 1
        have y2 := HR1.out.frozen 2
        have y3 := HR1.out.frozen 3
        have y4 := HR1.out.frozen 4
        have y5 := HR1.out.frozen 5
        clear HST HR1 HR3 HYL
        go_simp
        rw [HY.out]
        refine hK.out _ _ hs8 (fun _ => ?_)
        clear hK K x0 x1 x2 x3 x4 x5 y0 y1 y2 y3 y4 y5 HY
        refine wpAnyH_ready (rs := [9]) (by kernel_rfl) (by simp) ?_
        refine AllReadyH.cons rfl (fun K hK => ?_) AllReadyH.nil
        obtain ⟨x0, x1, x2, x3, x4, x5⟩ := HR2.out.cells
        have y0 := HR2.out.frozen 0
        have y1 := HR2.out.frozen 1
        have y2 := HR2.out.frozen 2
        have y3 := HR2.out.frozen 3
        have y4 := HR2.out.frozen 4
        have y5 := HR2.out.frozen 5
        clear HR2
        go_simp
        rw [HU.out]
        refine hK.out _ _ hs9 (fun _ => ?_)
        clear hK K x0 x1 x2 x3 x4 x5 y0 y1 y2 y3 y4 y5 hs8 hs9 HU
        refine wpAnyH_done (by kernel_rfl) ?_ _
        go_wp2_with fail
        go_meet
        exact ⟨p6, p7, rfl, rfl, HF⟩
  case rest =>
  obtain ⟨o1, o2, hs5, hs6, HF⟩ := hcut
  rw [hs5, hs6]
  obtain ⟨w5, hwj⟩ : ∃ W, W = wc := ⟨_, rfl⟩
  rw [← hwj] at HF ⊢
  clear hs5 hs6 hwj HSS HC1 HC2 HMS HMI HCQ HCR
  obtain ⟨b, hca, hcb⟩ := HF.out
  have HCA : Hid (CcAt w5 o1 ⟨q0, q1, q2, q3, q4, q5⟩) := hca
  have HCB : Hid (CcAt w5 o2 ⟨z0, z1, z2, z3, z4, z5⟩) := hcb
  have hb5 : Below w.heap.size w (w5) := hb4.trans (b.mono hb4.size)
  have HM5 : Hid ((w4).heap.size ≤ (w5).heap.size) := b.size
  have HOq_5 : Hid ((w5).ownsRow w.heap.size 67 2 (.slice oq fs.length pq) fs.length (flatF fs)) := owns_below HOq_4.out b (fun g hg => owns_lt HOq_4.out hg)
  have HOr_5 : Hid ((w5).ownsRow w.heap.size 67 2 (.slice or gs.length pr) gs.length (flatF gs)) := owns_below HOr_4.out b (fun g hg => owns_lt HOr_4.out hg)
  have HBbq_5 : Hid ((w5).heap[qbq]? = some (.cells #[.int .i64 m, .string p, .slice oq fs.length pq, .string bd] 26)) := blk_below HBbq_4.out b
  have HBbr_5 : Hid ((w5).heap[qbr]? = some (.cells #[.int .i64 st, .slice or gs.length pr, .string dd] 28)) := blk_below HBbr_4.out b
  clear hb4 HOq_4 HOr_4 HBbq_4 HBbr_4 b hca hcb HF
  cases mk with
  | false =>
    clear HMP HCA HCB
    clear HOq_5 HOr_5 HBbq_5 HBbr_5
    go_wp2_with fail
    refine (drawMerge_any a0 len0 cap0 zc0 _ (HCODE.out _ hb5)).mono ?_
    rintro e w6 ⟨m3, vx, hs, b3, st4, vy, ks, d4, rfl, hm3, ownx, hxl, hxsh, hxb, hst4, owny, hyl, hysh, hyb, hne, b⟩
    obtain ⟨ox, px, rfl⟩ := slice_of_owns ownx
    obtain ⟨oy, py, rfl⟩ := slice_of_owns owny
    clear hne hm3 hst4
    have hb6 : Below w.heap.size w (w6) := hb5.trans (b.mono hb5.size)
    have HM6 : Hid ((w5).heap.size ≤ (w6).heap.size) := b.size
    have HOx_6 : Hid ((w6).ownsRow w.heap.size 67 2 (.slice ox hs.length px) hs.length (flatF hs)) := owns_wide ownx hb5.size
    have LOx : Hid (∀ g, (Value.ownBlock (.slice ox hs.length px)) = some g → (w5).heap.size ≤ g) := fun g hg => owns_ge ownx hg
    have HIx : Hid (∀ g, (Value.ownBlock (.slice ox hs.length px)) = some g → g < (w6).heap.size) := fun g hg => owns_lt ownx hg
    clear ownx
    have HOy_6 : Hid ((w6).ownsRow w.heap.size 67 2 (.slice oy ks.length py) ks.length (flatF ks)) := owns_wide owny hb5.size
    have LOy : Hid (∀ g, (Value.ownBlock (.slice oy ks.length py)) = some g → (w5).heap.size ≤ g) := fun g hg => owns_ge owny hg
    have HIy : Hid (∀ g, (Value.ownBlock (.slice oy ks.length py)) = some g → g < (w6).heap.size) := fun g hg => owns_lt owny hg
    clear owny
    clear hb5 b
    go_upto_region 11 with fail
    obtain ⟨qbx, hqbx⟩ : ∃ q, q = (w6).heap.size := ⟨_, rfl⟩
    obtain ⟨qby, hqby⟩ : ∃ q, q = qbx + 1 := ⟨_, rfl⟩
    obtain ⟨w7, hW7⟩ : ∃ W, W = ((w6).alloc (.cells #[.int .i64 m3, .slice ox hs.length px, .string b3] 28)).alloc (.cells #[.int .i64 st4, .slice oy ks.length py, .string d4] 28) := ⟨_, rfl⟩
    rw [← hW7, ← hqbx, ← hqby]
    have b : Below (w6).heap.size (w6) w7 := by rw [hW7]; exact ((Below.refl _ _).alloc (Nat.le_refl _) _).alloc (by simp) _
    have hb7 : Below w.heap.size w (w7) := hb6.trans (b.mono hb6.size)
    have HM7 : Hid ((w6).heap.size ≤ (w7).heap.size) := b.size
    have HOx_7 : Hid ((w7).ownsRow w.heap.size 67 2 (.slice ox hs.length px) hs.length (flatF hs)) := owns_below HOx_6.out b (fun g hg => owns_lt HOx_6.out hg)
    have HOy_7 : Hid ((w7).ownsRow w.heap.size 67 2 (.slice oy ks.length py) ks.length (flatF ks)) := owns_below HOy_6.out b (fun g hg => owns_lt HOy_6.out hg)
    have HBbx_7 : Hid ((w7).heap[qbx]? = some (.cells #[.int .i64 m3, .slice ox hs.length px, .string b3] 28)) := by show _ = _; rw [hW7, hqbx]; exact blk_alloc (heap_alloc_new _ _) _
    have HBby_7 : Hid ((w7).heap[qby]? = some (.cells #[.int .i64 st4, .slice oy ks.length py, .string d4] 28)) := by
      show _ = _
      have h := heap_alloc_new ((w6).alloc (.cells #[.int .i64 m3, .slice ox hs.length px, .string b3] 28)) (.cells #[.int .i64 st4, .slice oy ks.length py, .string d4] 28)
      have hz : ((w6).alloc (.cells #[.int .i64 m3, .slice ox hs.length px, .string b3] 28)).heap.size = qby := by rw [hqby, hqbx]; simp
      rw [hz] at h
      rw [hW7]
      exact h
    clear hb6 HOx_6 HOy_6 b hW7 hqbx hqby
    obtain ⟨P, hP⟩ : ∃ P, P = mergeF m3 hs b3 ks := ⟨_, rfl⟩
    obtain ⟨np, hnp⟩ : ∃ m, m = P.length := ⟨_, rfl⟩
    have hnp2 : np ≤ 80 := by
      rw [hnp, hP]
      have h1 := merge_le m3 hs b3 ks
      omega
    have HPS : Hid (ShortF P) := by show ShortF _; rw [hP]; exact merge_short hxsh hysh
    have HNP : Hid (P.length = np) := hnp.symm
    have HWP : Hid (WalkF np P) := by have h := shortWalk HPS.out; rw [HNP.out] at h; exact h
    have HMR : Hid (RespP m3 hs b3 → RespP m3 P b3) := fun h => by rw [hP]; exact merge_right ks h
    have HSG : Hid (∀ (u0 u1 : Value) (B0 B1 : Nat) (W : World), FieldsV W B0 u0 hs.length hs → FieldsV W B1 u1 ks.length ks → Calls Tryz.prog 14 #[.agg #[.int .i64 m3, u0, .string b3], .agg #[.int .i64 st4, u1, .string d4]] W fun e w' => ∃ v, e = .returned (.agg #[.int .i64 m3, v, .string b3]) ∧ w'.ownsRow W.heap.size 67 2 v np (flatF P) ∧ Below W.heap.size W w') := by
      intro u0 u1 B0 B1 W h0 h1
      rw [hnp, hP]
      exact specMerge_any m3 u0 b3 hs.length B0 hs st4 u1 d4 ks.length B1 ks W h0 (shortWalk hxsh) (by unfold maxLen; omega) h1 (by omega) (shortWalk hysh)
    have HIG : Hid (∀ (u0 u1 : Value) (B0 B1 : Nat) (W : World), FieldsV W B0 u0 hs.length hs → FieldsV W B1 u1 ks.length ks → Calls Tryz.prog 12 #[.agg #[.int .i64 m3, u0, .string b3], .agg #[.int .i64 st4, u1, .string d4]] W fun e w' => ∃ v, e = .returned (.agg #[.int .i64 m3, v, .string b3]) ∧ w'.ownsRow W.heap.size 67 2 v np (flatF P) ∧ Below W.heap.size W w') := by
      intro u0 u1 B0 B1 W h0 h1
      rw [hnp, hP]
      exact implMerge_any m3 u0 b3 hs.length B0 hs st4 u1 d4 ks.length B1 ks W h0 (by omega) h1 (by omega) hxsh.copy hysh.copy
    clear hP hnp
    obtain ⟨TT, HTT⟩ : ∃ t : ByteArray, Hid ((RespP m3 P b3 → t = respT m3 P b3) ∧ (¬ RespP m3 P b3 → t = ⟨#[]⟩)) := by
      by_cases h : RespP m3 P b3
      · exact ⟨respT m3 P b3, fun _ => rfl, fun h2 => absurd h h2⟩
      · exact ⟨⟨#[]⟩, fun h2 => absurd h2 h, fun _ => rfl⟩
    have HRT : Hid (∀ (u0 : Value) (B0 : Nat) (W : World), FieldsV W B0 u0 np P → TabOk W → Calls Tryz.prog 13 #[.agg #[.int .i64 m3, u0, .string b3]] W fun e w' => e = .returned (.string TT) ∧ Below W.heap.size W w') := by
      intro u0 B0 W h0 ht
      refine (implRespText_any m3 u0 b3 np B0 P W h0 (by omega) HWP.out (by unfold maxLen; omega) ht).mono ?_
      rintro e w' ⟨u, rfl, k1, k2, b⟩
      obtain rfl : u = TT := by
        by_cases h : RespP m3 P b3
        · rw [k1 h, HTT.out.1 h]
        · rw [k2 h, HTT.out.2 h]
      exact ⟨rfl, b⟩
    obtain ⟨⟨cbx0, cbx1, cbx2⟩, _⟩ := three_facts HBbx_7.out
    obtain ⟨⟨cby0, cby1, cby2⟩, _⟩ := three_facts HBby_7.out
    go_wp2_with fail
    refine (HIG.out _ _ _ _ _ (FieldsV.of_owns HOx_7.out) (FieldsV.of_owns HOy_7.out)).mono ?_
    rintro e w8 ⟨vg, rfl, owng, b⟩
    obtain ⟨og, pg, rfl⟩ := slice_of_owns owng
    have hb8 : Below w.heap.size w (w8) := hb7.trans (b.mono hb7.size)
    have HM8 : Hid ((w7).heap.size ≤ (w8).heap.size) := b.size
    have HOx_8 : Hid ((w8).ownsRow w.heap.size 67 2 (.slice ox hs.length px) hs.length (flatF hs)) := owns_below HOx_7.out b (fun g hg => owns_lt HOx_7.out hg)
    have HOy_8 : Hid ((w8).ownsRow w.heap.size 67 2 (.slice oy ks.length py) ks.length (flatF ks)) := owns_below HOy_7.out b (fun g hg => owns_lt HOy_7.out hg)
    have HBbx_8 : Hid ((w8).heap[qbx]? = some (.cells #[.int .i64 m3, .slice ox hs.length px, .string b3] 28)) := blk_below HBbx_7.out b
    have HBby_8 : Hid ((w8).heap[qby]? = some (.cells #[.int .i64 st4, .slice oy ks.length py, .string d4] 28)) := blk_below HBby_7.out b
    have HOg_8 : Hid ((w8).ownsRow w.heap.size 67 2 (.slice og np pg) np (flatF P)) := owns_wide owng hb7.size
    have LOg : Hid (∀ g, (Value.ownBlock (.slice og np pg)) = some g → (w7).heap.size ≤ g) := fun g hg => owns_ge owng hg
    have HIg : Hid (∀ g, (Value.ownBlock (.slice og np pg)) = some g → g < (w8).heap.size) := fun g hg => owns_lt owng hg
    clear owng
    clear hb7 HOx_7 HOy_7 HBbx_7 HBby_7 cbx0 cbx1 cbx2 cby0 cby1 cby2 b
    go_upto_region 12 with fail
    obtain ⟨qbg, hqbg⟩ : ∃ q, q = (w8).heap.size := ⟨_, rfl⟩
    obtain ⟨w9, hW9⟩ : ∃ W, W = (w8).alloc (.cells #[.int .i64 m3, .slice og np pg, .string b3] 28) := ⟨_, rfl⟩
    rw [← hW9, ← hqbg]
    have b : Below (w8).heap.size (w8) w9 := by rw [hW9]; exact (Below.refl _ _).alloc (Nat.le_refl _) _
    have hb9 : Below w.heap.size w (w9) := hb8.trans (b.mono hb8.size)
    have HM9 : Hid ((w8).heap.size ≤ (w9).heap.size) := b.size
    have HOx_9 : Hid ((w9).ownsRow w.heap.size 67 2 (.slice ox hs.length px) hs.length (flatF hs)) := owns_below HOx_8.out b (fun g hg => owns_lt HOx_8.out hg)
    have HOy_9 : Hid ((w9).ownsRow w.heap.size 67 2 (.slice oy ks.length py) ks.length (flatF ks)) := owns_below HOy_8.out b (fun g hg => owns_lt HOy_8.out hg)
    have HOg_9 : Hid ((w9).ownsRow w.heap.size 67 2 (.slice og np pg) np (flatF P)) := owns_below HOg_8.out b (fun g hg => owns_lt HOg_8.out hg)
    have HBbx_9 : Hid ((w9).heap[qbx]? = some (.cells #[.int .i64 m3, .slice ox hs.length px, .string b3] 28)) := blk_below HBbx_8.out b
    have HBby_9 : Hid ((w9).heap[qby]? = some (.cells #[.int .i64 st4, .slice oy ks.length py, .string d4] 28)) := blk_below HBby_8.out b
    have HBbg_9 : Hid ((w9).heap[qbg]? = some (.cells #[.int .i64 m3, .slice og np pg, .string b3] 28)) := by show _ = _; rw [hW9, hqbg]; exact heap_alloc_new _ _
    clear hb8 HOx_8 HOy_8 HOg_8 HBbx_8 HBby_8 b hW9 hqbg
    have hbb : (b3.toList == b3.toList) = true := by simp
    have htt : (TT.toList == TT.toList) = true := by simp
    have hm33 : (m3 == m3) = true := by simp
    clear HIG HTT
    by_cases hx : RespP m3 hs b3
    · have HOX : Hid (∀ (u0 : Value) (B0 : Nat) (W : World), FieldsV W B0 u0 hs.length hs → Calls Tryz.prog 10 #[.agg #[.int .i64 m3, u0, .string b3]] W fun e w' => e = .returned (.bool true) ∧ Below W.heap.size W w') := by
        intro u0 B0 W h0
        refine (implRespOk_any m3 u0 b3 hs.length B0 hs W h0 (by omega) (shortWalk hxsh) (by unfold maxLen; omega)).mono ?_
        rintro e w' ⟨t, rfl, ht, b⟩
        obtain rfl : t = true := by
          cases t
          · exact absurd (ht.2 hx) (by simp)
          · rfl
        exact ⟨rfl, b⟩
      have HOG : Hid (∀ (u0 : Value) (B0 : Nat) (W : World), FieldsV W B0 u0 np P → Calls Tryz.prog 10 #[.agg #[.int .i64 m3, u0, .string b3]] W fun e w' => e = .returned (.bool true) ∧ Below W.heap.size W w') := by
        intro u0 B0 W h0
        refine (implRespOk_any m3 u0 b3 np B0 P W h0 (by omega) HWP.out (by unfold maxLen; omega)).mono ?_
        rintro e w' ⟨t, rfl, ht, b⟩
        obtain rfl : t = true := ht.2 (HMR.out hx)
        exact ⟨rfl, b⟩
      clear hx HMR
      go_upto_region 12 with fail
      refine wp_region_held_drew (S := fun W => (W.cell? ⟨qbg, 0, none⟩ = some (.int .i64 m3) ∧ W.cell? ⟨qbg, 1, none⟩ = some (.slice og np pg) ∧ W.cell? ⟨qbg, 2, none⟩ = some (.string b3)) ∧ (W.cell? ⟨qbx, 0, none⟩ = some (.int .i64 m3) ∧ W.cell? ⟨qbx, 1, none⟩ = some (.slice ox hs.length px) ∧ W.cell? ⟨qbx, 2, none⟩ = some (.string b3)) ∧ (W.cell? ⟨qby, 0, none⟩ = some (.int .i64 st4) ∧ W.cell? ⟨qby, 1, none⟩ = some (.slice oy ks.length py) ∧ W.cell? ⟨qby, 2, none⟩ = some (.string d4))) (by kernel_rfl) ⟨(three_facts HBbg_9.out).1, (three_facts HBbx_9.out).1, (three_facts HBby_9.out).1⟩ (fun _ => ?_)
      obtain ⟨w10, hX⟩ : ∃ X, X = w9.drew := ⟨_, rfl⟩
      have b : Below w9.heap.size w9 w10 := by rw [hX]; exact (Below.refl _ _).drew
      rw [← hX]
      have hb10 : Below w.heap.size w (w10) := hb9.trans (b.mono hb9.size)
      have HM10 : Hid ((w9).heap.size ≤ (w10).heap.size) := b.size
      have HOx_10 : Hid ((w10).ownsRow w.heap.size 67 2 (.slice ox hs.length px) hs.length (flatF hs)) := owns_below HOx_9.out b (fun g hg => owns_lt HOx_9.out hg)
      have HOy_10 : Hid ((w10).ownsRow w.heap.size 67 2 (.slice oy ks.length py) ks.length (flatF ks)) := owns_below HOy_9.out b (fun g hg => owns_lt HOy_9.out hg)
      have HOg_10 : Hid ((w10).ownsRow w.heap.size 67 2 (.slice og np pg) np (flatF P)) := owns_below HOg_9.out b (fun g hg => owns_lt HOg_9.out hg)
      have HBbx_10 : Hid ((w10).heap[qbx]? = some (.cells #[.int .i64 m3, .slice ox hs.length px, .string b3] 28)) := blk_below HBbx_9.out b
      have HBby_10 : Hid ((w10).heap[qby]? = some (.cells #[.int .i64 st4, .slice oy ks.length py, .string d4] 28)) := blk_below HBby_9.out b
      have HBbg_10 : Hid ((w10).heap[qbg]? = some (.cells #[.int .i64 m3, .slice og np pg, .string b3] 28)) := blk_below HBbg_9.out b
      have hS10 : (w10.cell? ⟨qbg, 0, none⟩ = some (.int .i64 m3) ∧ w10.cell? ⟨qbg, 1, none⟩ = some (.slice og np pg) ∧ w10.cell? ⟨qbg, 2, none⟩ = some (.string b3)) ∧ (w10.cell? ⟨qbx, 0, none⟩ = some (.int .i64 m3) ∧ w10.cell? ⟨qbx, 1, none⟩ = some (.slice ox hs.length px) ∧ w10.cell? ⟨qbx, 2, none⟩ = some (.string b3)) ∧ (w10.cell? ⟨qby, 0, none⟩ = some (.int .i64 st4) ∧ w10.cell? ⟨qby, 1, none⟩ = some (.slice oy ks.length py) ∧ w10.cell? ⟨qby, 2, none⟩ = some (.string d4)) := ⟨(three_facts HBbg_10.out).1, (three_facts HBbx_10.out).1, (three_facts HBby_10.out).1⟩
      clear hb9 HOx_9 HOy_9 HOg_9 HBbx_9 HBby_9 HBbg_9 b hX
      refine wpAnyH_takeD (i := 0) (v := .agg #[.int .i64 m3, .slice og np pg, .string b3]) (some 78) rfl rfl (by kernel_rfl) (by kernel_rfl) (by kernel_rfl) (fun _ _ _ h => h) (Or.inl ⟨by rfl, by intro W hW; obtain ⟨⟨s0, s1, s2⟩, ⟨s3, s4, s5⟩, ⟨s6, s7, s8⟩⟩ := hW; go_simp⟩) hS10 ?_
      simp only [Act.put, List.setIfInBounds_toArray, List.set_cons_zero, List.set_cons_succ]
      refine wpAnyH_takeD (i := 2) (v := .agg #[.int .i64 m3, .slice ox hs.length px, .string b3]) (some 80) rfl rfl (by kernel_rfl) (by kernel_rfl) (by kernel_rfl) (fun _ _ _ h => h) (Or.inl ⟨by rfl, by intro W hW; obtain ⟨⟨s0, s1, s2⟩, ⟨s3, s4, s5⟩, ⟨s6, s7, s8⟩⟩ := hW; go_simp⟩) hS10 ?_
      simp only [Act.put, List.setIfInBounds_toArray, List.set_cons_zero, List.set_cons_succ]
      refine wpAnyH_takeD (i := 3) (v := .agg #[.int .i64 st4, .slice oy ks.length py, .string d4]) (some 81) rfl rfl (by kernel_rfl) (by kernel_rfl) (by kernel_rfl) (fun _ _ _ h => h) (Or.inl ⟨by rfl, by intro W hW; obtain ⟨⟨s0, s1, s2⟩, ⟨s3, s4, s5⟩, ⟨s6, s7, s8⟩⟩ := hW; go_simp⟩) hS10 ?_
      simp only [Act.put, List.setIfInBounds_toArray, List.set_cons_zero, List.set_cons_succ]
      refine wpAnyH_ready (rs := [1]) (by kernel_rfl) (by simp) ?_
      refine AllReadyH.cons rfl (fun K hK => ?_) AllReadyH.nil
      go_simp
      refine (HRT.out _ _ _ (FieldsV.of_owns HOg_10.out) (HT.out _ hb10)).mono ?_
      rintro e w11 ⟨rfl, b⟩
      have hb11 : Below w.heap.size w (w11) := hb10.trans (b.mono hb10.size)
      have HM11 : Hid ((w10).heap.size ≤ (w11).heap.size) := b.size
      have HOx_11 : Hid ((w11).ownsRow w.heap.size 67 2 (.slice ox hs.length px) hs.length (flatF hs)) := owns_below HOx_10.out b (fun g hg => owns_lt HOx_10.out hg)
      have HOy_11 : Hid ((w11).ownsRow w.heap.size 67 2 (.slice oy ks.length py) ks.length (flatF ks)) := owns_below HOy_10.out b (fun g hg => owns_lt HOy_10.out hg)
      have HOg_11 : Hid ((w11).ownsRow w.heap.size 67 2 (.slice og np pg) np (flatF P)) := owns_below HOg_10.out b (fun g hg => owns_lt HOg_10.out hg)
      have HBbx_11 : Hid ((w11).heap[qbx]? = some (.cells #[.int .i64 m3, .slice ox hs.length px, .string b3] 28)) := blk_below HBbx_10.out b
      have HBby_11 : Hid ((w11).heap[qby]? = some (.cells #[.int .i64 st4, .slice oy ks.length py, .string d4] 28)) := blk_below HBby_10.out b
      have HBbg_11 : Hid ((w11).heap[qbg]? = some (.cells #[.int .i64 m3, .slice og np pg, .string b3] 28)) := blk_below HBbg_10.out b
      have hS11 : (w11.cell? ⟨qbg, 0, none⟩ = some (.int .i64 m3) ∧ w11.cell? ⟨qbg, 1, none⟩ = some (.slice og np pg) ∧ w11.cell? ⟨qbg, 2, none⟩ = some (.string b3)) ∧ (w11.cell? ⟨qbx, 0, none⟩ = some (.int .i64 m3) ∧ w11.cell? ⟨qbx, 1, none⟩ = some (.slice ox hs.length px) ∧ w11.cell? ⟨qbx, 2, none⟩ = some (.string b3)) ∧ (w11.cell? ⟨qby, 0, none⟩ = some (.int .i64 st4) ∧ w11.cell? ⟨qby, 1, none⟩ = some (.slice oy ks.length py) ∧ w11.cell? ⟨qby, 2, none⟩ = some (.string d4)) := ⟨(three_facts HBbg_11.out).1, (three_facts HBbx_11.out).1, (three_facts HBby_11.out).1⟩
      refine hK.out _ _ hS11 (fun _ => ?_)
      clear hK K b hS10 hb10 HOx_10 HOy_10 HOg_10 HBbx_10 HBby_10 HBbg_10
      refine wpAnyH_ready (rs := [4]) (by kernel_rfl) (by simp) ?_
      refine AllReadyH.cons rfl (fun K hK => ?_) AllReadyH.nil
      go_simp
      refine (HSG.out _ _ _ _ _ (FieldsV.of_owns HOx_11.out) (FieldsV.of_owns HOy_11.out)).mono ?_
      rintro e w12 ⟨vs, rfl, owns, b⟩
      obtain ⟨os, ps, rfl⟩ := slice_of_owns owns
      have hb12 : Below w.heap.size w (w12) := hb11.trans (b.mono hb11.size)
      have HM12 : Hid ((w11).heap.size ≤ (w12).heap.size) := b.size
      have HOx_12 : Hid ((w12).ownsRow w.heap.size 67 2 (.slice ox hs.length px) hs.length (flatF hs)) := owns_below HOx_11.out b (fun g hg => owns_lt HOx_11.out hg)
      have HOy_12 : Hid ((w12).ownsRow w.heap.size 67 2 (.slice oy ks.length py) ks.length (flatF ks)) := owns_below HOy_11.out b (fun g hg => owns_lt HOy_11.out hg)
      have HOg_12 : Hid ((w12).ownsRow w.heap.size 67 2 (.slice og np pg) np (flatF P)) := owns_below HOg_11.out b (fun g hg => owns_lt HOg_11.out hg)
      have HBbx_12 : Hid ((w12).heap[qbx]? = some (.cells #[.int .i64 m3, .slice ox hs.length px, .string b3] 28)) := blk_below HBbx_11.out b
      have HBby_12 : Hid ((w12).heap[qby]? = some (.cells #[.int .i64 st4, .slice oy ks.length py, .string d4] 28)) := blk_below HBby_11.out b
      have HBbg_12 : Hid ((w12).heap[qbg]? = some (.cells #[.int .i64 m3, .slice og np pg, .string b3] 28)) := blk_below HBbg_11.out b
      have HOs_12 : Hid ((w12).ownsRow w.heap.size 67 2 (.slice os np ps) np (flatF P)) := owns_wide owns hb11.size
      have LOs : Hid (∀ g, (Value.ownBlock (.slice os np ps)) = some g → (w11).heap.size ≤ g) := fun g hg => owns_ge owns hg
      have HIs : Hid (∀ g, (Value.ownBlock (.slice os np ps)) = some g → g < (w12).heap.size) := fun g hg => owns_lt owns hg
      clear owns
      have hS12 : (w12.cell? ⟨qbg, 0, none⟩ = some (.int .i64 m3) ∧ w12.cell? ⟨qbg, 1, none⟩ = some (.slice og np pg) ∧ w12.cell? ⟨qbg, 2, none⟩ = some (.string b3)) ∧ (w12.cell? ⟨qbx, 0, none⟩ = some (.int .i64 m3) ∧ w12.cell? ⟨qbx, 1, none⟩ = some (.slice ox hs.length px) ∧ w12.cell? ⟨qbx, 2, none⟩ = some (.string b3)) ∧ (w12.cell? ⟨qby, 0, none⟩ = some (.int .i64 st4) ∧ w12.cell? ⟨qby, 1, none⟩ = some (.slice oy ks.length py) ∧ w12.cell? ⟨qby, 2, none⟩ = some (.string d4)) := ⟨(three_facts HBbg_12.out).1, (three_facts HBbx_12.out).1, (three_facts HBby_12.out).1⟩
      refine hK.out _ _ hS12 (fun _ => ?_)
      clear hK K b hS11 hb11 HOx_11 HOy_11 HOg_11 HBbx_11 HBby_11 HBbg_11
      refine wpAnyH_ready (rs := [5]) (by kernel_rfl) (by simp) ?_
      refine AllReadyH.cons rfl (fun K hK => ?_) AllReadyH.nil
      go_simp
      refine (HRT.out _ _ _ (FieldsV.of_owns HOs_12.out) (HT.out _ hb12)).mono ?_
      rintro e w13 ⟨rfl, b⟩
      have hb13 : Below w.heap.size w (w13) := hb12.trans (b.mono hb12.size)
      have HM13 : Hid ((w12).heap.size ≤ (w13).heap.size) := b.size
      have HOx_13 : Hid ((w13).ownsRow w.heap.size 67 2 (.slice ox hs.length px) hs.length (flatF hs)) := owns_below HOx_12.out b (fun g hg => owns_lt HOx_12.out hg)
      have HOy_13 : Hid ((w13).ownsRow w.heap.size 67 2 (.slice oy ks.length py) ks.length (flatF ks)) := owns_below HOy_12.out b (fun g hg => owns_lt HOy_12.out hg)
      have HOg_13 : Hid ((w13).ownsRow w.heap.size 67 2 (.slice og np pg) np (flatF P)) := owns_below HOg_12.out b (fun g hg => owns_lt HOg_12.out hg)
      have HOs_13 : Hid ((w13).ownsRow w.heap.size 67 2 (.slice os np ps) np (flatF P)) := owns_below HOs_12.out b (fun g hg => owns_lt HOs_12.out hg)
      have HBbx_13 : Hid ((w13).heap[qbx]? = some (.cells #[.int .i64 m3, .slice ox hs.length px, .string b3] 28)) := blk_below HBbx_12.out b
      have HBby_13 : Hid ((w13).heap[qby]? = some (.cells #[.int .i64 st4, .slice oy ks.length py, .string d4] 28)) := blk_below HBby_12.out b
      have HBbg_13 : Hid ((w13).heap[qbg]? = some (.cells #[.int .i64 m3, .slice og np pg, .string b3] 28)) := blk_below HBbg_12.out b
      have hS13 : (w13.cell? ⟨qbg, 0, none⟩ = some (.int .i64 m3) ∧ w13.cell? ⟨qbg, 1, none⟩ = some (.slice og np pg) ∧ w13.cell? ⟨qbg, 2, none⟩ = some (.string b3)) ∧ (w13.cell? ⟨qbx, 0, none⟩ = some (.int .i64 m3) ∧ w13.cell? ⟨qbx, 1, none⟩ = some (.slice ox hs.length px) ∧ w13.cell? ⟨qbx, 2, none⟩ = some (.string b3)) ∧ (w13.cell? ⟨qby, 0, none⟩ = some (.int .i64 st4) ∧ w13.cell? ⟨qby, 1, none⟩ = some (.slice oy ks.length py) ∧ w13.cell? ⟨qby, 2, none⟩ = some (.string d4)) := ⟨(three_facts HBbg_13.out).1, (three_facts HBbx_13.out).1, (three_facts HBby_13.out).1⟩
      refine hK.out _ _ hS13 (fun _ => ?_)
      clear hK K b hS12 hb12 HOx_12 HOy_12 HOg_12 HOs_12 HBbx_12 HBby_12 HBbg_12
      refine wpAnyH_takeD (i := 6) (v := .bool true) (some 84) rfl rfl (by kernel_rfl) (by kernel_rfl) (by kernel_rfl) (fun _ _ _ h => h) (Or.inl ⟨by rfl, by intro W _; go_simp⟩) hS13 ?_
      simp only [Act.put, List.setIfInBounds_toArray, List.set_cons_zero, List.set_cons_succ]
      refine wpAnyH_takeD (i := 7) (v := .bool true) (some 85) rfl rfl (by kernel_rfl) (by kernel_rfl) (by kernel_rfl) (fun _ _ _ h => h) (Or.inl ⟨by rfl, by intro W _; go_simp⟩) hS13 ?_
      simp only [Act.put, List.setIfInBounds_toArray, List.set_cons_zero, List.set_cons_succ]
      refine wpAnyH_takeD (i := 8) (v := .pointer (some ⟨qbg, 2, none⟩)) (some 86) rfl rfl (by kernel_rfl) (by kernel_rfl) (by kernel_rfl) (fun _ _ _ h => h) (Or.inl ⟨by rfl, by intro W _; go_simp⟩) hS13 ?_
      simp only [Act.put, List.setIfInBounds_toArray, List.set_cons_zero, List.set_cons_succ]
      refine wpAnyH_takeD (i := 9) (v := .string b3) (some 87) rfl rfl (by kernel_rfl) (by kernel_rfl) (by kernel_rfl) (fun _ _ _ h => h) (Or.inl ⟨by rfl, by intro W hW; obtain ⟨⟨s0, s1, s2⟩, ⟨s3, s4, s5⟩, ⟨s6, s7, s8⟩⟩ := hW; go_simp⟩) hS13 ?_
      simp only [Act.put, List.setIfInBounds_toArray, List.set_cons_zero, List.set_cons_succ]
      refine wpAnyH_takeD (i := 10) (v := .pointer (some ⟨qbx, 2, none⟩)) (some 88) rfl rfl (by kernel_rfl) (by kernel_rfl) (by kernel_rfl) (fun _ _ _ h => h) (Or.inl ⟨by rfl, by intro W _; go_simp⟩) hS13 ?_
      simp only [Act.put, List.setIfInBounds_toArray, List.set_cons_zero, List.set_cons_succ]
      refine wpAnyH_takeD (i := 11) (v := .string b3) (some 89) rfl rfl (by kernel_rfl) (by kernel_rfl) (by kernel_rfl) (fun _ _ _ h => h) (Or.inl ⟨by rfl, by intro W hW; obtain ⟨⟨s0, s1, s2⟩, ⟨s3, s4, s5⟩, ⟨s6, s7, s8⟩⟩ := hW; go_simp⟩) hS13 ?_
      simp only [Act.put, List.setIfInBounds_toArray, List.set_cons_zero, List.set_cons_succ]
      refine wpAnyH_takeD (i := 12) (v := .bool true) (some 90) rfl rfl (by kernel_rfl) (by kernel_rfl) (by kernel_rfl) (fun _ _ _ h => h) (Or.inl ⟨by rfl, by intro W _; go_simp⟩) hS13 ?_
      simp only [Act.put, List.setIfInBounds_toArray, List.set_cons_zero, List.set_cons_succ]
      refine wpAnyH_takeD (i := 13) (v := .bool true) (some 91) rfl rfl (by kernel_rfl) (by kernel_rfl) (by kernel_rfl) (fun _ _ _ h => h) (Or.inl ⟨by rfl, by intro W _; go_simp⟩) hS13 ?_
      simp only [Act.put, List.setIfInBounds_toArray, List.set_cons_zero, List.set_cons_succ]
      refine wpAnyH_takeD (i := 14) (v := .bool true) (some 92) rfl rfl (by kernel_rfl) (by kernel_rfl) (by kernel_rfl) (fun _ _ _ h => h) (Or.inl ⟨by rfl, by intro W _; go_simp⟩) hS13 ?_
      simp only [Act.put, List.setIfInBounds_toArray, List.set_cons_zero, List.set_cons_succ]
      refine wpAnyH_takeD (i := 15) (v := .pointer (some ⟨qbg, 0, none⟩)) (some 93) rfl rfl (by kernel_rfl) (by kernel_rfl) (by kernel_rfl) (fun _ _ _ h => h) (Or.inl ⟨by rfl, by intro W _; go_simp⟩) hS13 ?_
      simp only [Act.put, List.setIfInBounds_toArray, List.set_cons_zero, List.set_cons_succ]
      refine wpAnyH_takeD (i := 16) (v := .int .i64 m3) (some 94) rfl rfl (by kernel_rfl) (by kernel_rfl) (by kernel_rfl) (fun _ _ _ h => h) (Or.inl ⟨by rfl, by intro W hW; obtain ⟨⟨s0, s1, s2⟩, ⟨s3, s4, s5⟩, ⟨s6, s7, s8⟩⟩ := hW; go_simp⟩) hS13 ?_
      simp only [Act.put, List.setIfInBounds_toArray, List.set_cons_zero, List.set_cons_succ]
      refine wpAnyH_takeD (i := 17) (v := .pointer (some ⟨qbx, 0, none⟩)) (some 95) rfl rfl (by kernel_rfl) (by kernel_rfl) (by kernel_rfl) (fun _ _ _ h => h) (Or.inl ⟨by rfl, by intro W _; go_simp⟩) hS13 ?_
      simp only [Act.put, List.setIfInBounds_toArray, List.set_cons_zero, List.set_cons_succ]
      refine wpAnyH_takeD (i := 18) (v := .int .i64 m3) (some 96) rfl rfl (by kernel_rfl) (by kernel_rfl) (by kernel_rfl) (fun _ _ _ h => h) (Or.inl ⟨by rfl, by intro W hW; obtain ⟨⟨s0, s1, s2⟩, ⟨s3, s4, s5⟩, ⟨s6, s7, s8⟩⟩ := hW; go_simp⟩) hS13 ?_
      simp only [Act.put, List.setIfInBounds_toArray, List.set_cons_zero, List.set_cons_succ]
      refine wpAnyH_takeD (i := 19) (v := .bool true) (some 97) rfl rfl (by kernel_rfl) (by kernel_rfl) (by kernel_rfl) (fun _ _ _ h => h) (Or.inl ⟨by rfl, by intro W _; go_simp⟩) hS13 ?_
      simp only [Act.put, List.setIfInBounds_toArray, List.set_cons_zero, List.set_cons_succ]
      refine wpAnyH_takeD (i := 20) (v := .bool true) (some 98) rfl rfl (by kernel_rfl) (by kernel_rfl) (by kernel_rfl) (fun _ _ _ h => h) (Or.inl ⟨by rfl, by intro W _; go_simp⟩) hS13 ?_
      simp only [Act.put, List.setIfInBounds_toArray, List.set_cons_zero, List.set_cons_succ]
      refine wpAnyH_takeD (i := 21) (v := .bool true) (some 99) rfl rfl (by kernel_rfl) (by kernel_rfl) (by kernel_rfl) (fun _ _ _ h => h) (Or.inl ⟨by rfl, by intro W _; go_simp⟩) hS13 ?_
      simp only [Act.put, List.setIfInBounds_toArray, List.set_cons_zero, List.set_cons_succ]
      refine wpAnyH_takeD (i := 22) (v := .agg #[.int .i64 m3, .slice ox hs.length px, .string b3]) (some 100) rfl rfl (by kernel_rfl) (by kernel_rfl) (by kernel_rfl) (fun _ _ _ h => h) (Or.inl ⟨by rfl, by intro W hW; obtain ⟨⟨s0, s1, s2⟩, ⟨s3, s4, s5⟩, ⟨s6, s7, s8⟩⟩ := hW; go_simp⟩) hS13 ?_
      simp only [Act.put, List.setIfInBounds_toArray, List.set_cons_zero, List.set_cons_succ]
      refine wpAnyH_ready (rs := [23]) (by kernel_rfl) (by simp) ?_
      refine AllReadyH.cons rfl (fun K hK => ?_) AllReadyH.nil
      go_simp
      refine (HOX.out _ _ _ (FieldsV.of_owns HOx_13.out)).mono ?_
      rintro e w14 ⟨rfl, b⟩
      have hb14 : Below w.heap.size w (w14) := hb13.trans (b.mono hb13.size)
      have HM14 : Hid ((w13).heap.size ≤ (w14).heap.size) := b.size
      have HOx_14 : Hid ((w14).ownsRow w.heap.size 67 2 (.slice ox hs.length px) hs.length (flatF hs)) := owns_below HOx_13.out b (fun g hg => owns_lt HOx_13.out hg)
      have HOy_14 : Hid ((w14).ownsRow w.heap.size 67 2 (.slice oy ks.length py) ks.length (flatF ks)) := owns_below HOy_13.out b (fun g hg => owns_lt HOy_13.out hg)
      have HOg_14 : Hid ((w14).ownsRow w.heap.size 67 2 (.slice og np pg) np (flatF P)) := owns_below HOg_13.out b (fun g hg => owns_lt HOg_13.out hg)
      have HOs_14 : Hid ((w14).ownsRow w.heap.size 67 2 (.slice os np ps) np (flatF P)) := owns_below HOs_13.out b (fun g hg => owns_lt HOs_13.out hg)
      have HBbx_14 : Hid ((w14).heap[qbx]? = some (.cells #[.int .i64 m3, .slice ox hs.length px, .string b3] 28)) := blk_below HBbx_13.out b
      have HBby_14 : Hid ((w14).heap[qby]? = some (.cells #[.int .i64 st4, .slice oy ks.length py, .string d4] 28)) := blk_below HBby_13.out b
      have HBbg_14 : Hid ((w14).heap[qbg]? = some (.cells #[.int .i64 m3, .slice og np pg, .string b3] 28)) := blk_below HBbg_13.out b
      have hS14 : (w14.cell? ⟨qbg, 0, none⟩ = some (.int .i64 m3) ∧ w14.cell? ⟨qbg, 1, none⟩ = some (.slice og np pg) ∧ w14.cell? ⟨qbg, 2, none⟩ = some (.string b3)) ∧ (w14.cell? ⟨qbx, 0, none⟩ = some (.int .i64 m3) ∧ w14.cell? ⟨qbx, 1, none⟩ = some (.slice ox hs.length px) ∧ w14.cell? ⟨qbx, 2, none⟩ = some (.string b3)) ∧ (w14.cell? ⟨qby, 0, none⟩ = some (.int .i64 st4) ∧ w14.cell? ⟨qby, 1, none⟩ = some (.slice oy ks.length py) ∧ w14.cell? ⟨qby, 2, none⟩ = some (.string d4)) := ⟨(three_facts HBbg_14.out).1, (three_facts HBbx_14.out).1, (three_facts HBby_14.out).1⟩
      refine hK.out _ _ hS14 (fun _ => ?_)
      clear hK K b hS13 hb13 HOx_13 HOy_13 HOg_13 HOs_13 HBbx_13 HBby_13 HBbg_13
      refine wpAnyH_takeD (i := 24) (v := .bool false) (some 102) rfl rfl (by kernel_rfl) (by kernel_rfl) (by kernel_rfl) (fun _ _ _ h => h) (Or.inl ⟨by rfl, by intro W _; go_simp⟩) hS14 ?_
      simp only [Act.put, List.setIfInBounds_toArray, List.set_cons_zero, List.set_cons_succ]
      refine wpAnyH_takeD (i := 25) (v := .bool false) (some 103) rfl rfl (by kernel_rfl) (by kernel_rfl) (by kernel_rfl) (fun _ _ _ h => h) (Or.inl ⟨by rfl, by intro W _; go_simp⟩) hS14 ?_
      simp only [Act.put, List.setIfInBounds_toArray, List.set_cons_zero, List.set_cons_succ]
      refine wpAnyH_takeD (i := 26) (v := .agg #[.int .i64 m3, .slice og np pg, .string b3]) (some 104) rfl rfl (by kernel_rfl) (by kernel_rfl) (by kernel_rfl) (fun _ _ _ h => h) (Or.inl ⟨by rfl, by intro W hW; obtain ⟨⟨s0, s1, s2⟩, ⟨s3, s4, s5⟩, ⟨s6, s7, s8⟩⟩ := hW; go_simp⟩) hS14 ?_
      simp only [Act.put, List.setIfInBounds_toArray, List.set_cons_zero, List.set_cons_succ]
      refine wpAnyH_ready (rs := [27]) (by kernel_rfl) (by simp) ?_
      refine AllReadyH.cons rfl (fun K hK => ?_) AllReadyH.nil
      go_simp
      refine (HOG.out _ _ _ (FieldsV.of_owns HOg_14.out)).mono ?_
      rintro e w15 ⟨rfl, b⟩
      have hb15 : Below w.heap.size w (w15) := hb14.trans (b.mono hb14.size)
      have HM15 : Hid ((w14).heap.size ≤ (w15).heap.size) := b.size
      have HOx_15 : Hid ((w15).ownsRow w.heap.size 67 2 (.slice ox hs.length px) hs.length (flatF hs)) := owns_below HOx_14.out b (fun g hg => owns_lt HOx_14.out hg)
      have HOy_15 : Hid ((w15).ownsRow w.heap.size 67 2 (.slice oy ks.length py) ks.length (flatF ks)) := owns_below HOy_14.out b (fun g hg => owns_lt HOy_14.out hg)
      have HOg_15 : Hid ((w15).ownsRow w.heap.size 67 2 (.slice og np pg) np (flatF P)) := owns_below HOg_14.out b (fun g hg => owns_lt HOg_14.out hg)
      have HOs_15 : Hid ((w15).ownsRow w.heap.size 67 2 (.slice os np ps) np (flatF P)) := owns_below HOs_14.out b (fun g hg => owns_lt HOs_14.out hg)
      have HBbx_15 : Hid ((w15).heap[qbx]? = some (.cells #[.int .i64 m3, .slice ox hs.length px, .string b3] 28)) := blk_below HBbx_14.out b
      have HBby_15 : Hid ((w15).heap[qby]? = some (.cells #[.int .i64 st4, .slice oy ks.length py, .string d4] 28)) := blk_below HBby_14.out b
      have HBbg_15 : Hid ((w15).heap[qbg]? = some (.cells #[.int .i64 m3, .slice og np pg, .string b3] 28)) := blk_below HBbg_14.out b
      have hS15 : (w15.cell? ⟨qbg, 0, none⟩ = some (.int .i64 m3) ∧ w15.cell? ⟨qbg, 1, none⟩ = some (.slice og np pg) ∧ w15.cell? ⟨qbg, 2, none⟩ = some (.string b3)) ∧ (w15.cell? ⟨qbx, 0, none⟩ = some (.int .i64 m3) ∧ w15.cell? ⟨qbx, 1, none⟩ = some (.slice ox hs.length px) ∧ w15.cell? ⟨qbx, 2, none⟩ = some (.string b3)) ∧ (w15.cell? ⟨qby, 0, none⟩ = some (.int .i64 st4) ∧ w15.cell? ⟨qby, 1, none⟩ = some (.slice oy ks.length py) ∧ w15.cell? ⟨qby, 2, none⟩ = some (.string d4)) := ⟨(three_facts HBbg_15.out).1, (three_facts HBbx_15.out).1, (three_facts HBby_15.out).1⟩
      refine hK.out _ _ hS15 (fun _ => ?_)
      clear hK K b hS14 hb14 HOx_14 HOy_14 HOg_14 HOs_14 HBbx_14 HBby_14 HBbg_14
      refine wpAnyH_takeD (i := 28) (v := .bool true) (some 106) rfl rfl (by kernel_rfl) (by kernel_rfl) (by kernel_rfl) (fun _ _ _ h => h) (Or.inl ⟨by rfl, by intro W _; go_simp⟩) hS15 ?_
      simp only [Act.put, List.setIfInBounds_toArray, List.set_cons_zero, List.set_cons_succ]
      refine wpAnyH_takeD (i := 29) (v := .bool true) (some 107) rfl rfl (by kernel_rfl) (by kernel_rfl) (by kernel_rfl) (fun _ _ _ h => h) (Or.inl ⟨by rfl, by intro W _; go_simp⟩) hS15 ?_
      simp only [Act.put, List.setIfInBounds_toArray, List.set_cons_zero, List.set_cons_succ]
      refine wpAnyH_takeD (i := 30) (v := .bool true) (some 2) rfl rfl (by kernel_rfl) (by kernel_rfl) (by kernel_rfl) (fun _ _ _ h => h) (Or.inl ⟨by rfl, by intro W _; go_simp⟩) hS15 ?_
      simp only [Act.put, List.setIfInBounds_toArray, List.set_cons_zero, List.set_cons_succ]
      clear hS15
      refine wpAnyH_done (by kernel_rfl) ?_ _
      go_wp2_with fail
      go_ret
      exact ⟨rfl, hb15⟩
    · have HOX : Hid (∀ (u0 : Value) (B0 : Nat) (W : World), FieldsV W B0 u0 hs.length hs → Calls Tryz.prog 10 #[.agg #[.int .i64 m3, u0, .string b3]] W fun e w' => e = .returned (.bool false) ∧ Below W.heap.size W w') := by
        intro u0 B0 W h0
        refine (implRespOk_any m3 u0 b3 hs.length B0 hs W h0 (by omega) (shortWalk hxsh) (by unfold maxLen; omega)).mono ?_
        rintro e w' ⟨t, rfl, ht, b⟩
        obtain rfl : t = false := by
          cases t
          · rfl
          · exact absurd (ht.1 rfl) hx
        exact ⟨rfl, b⟩
      clear hx HMR
      go_upto_region 12 with fail
      refine wp_region_held_drew (S := fun W => (W.cell? ⟨qbg, 0, none⟩ = some (.int .i64 m3) ∧ W.cell? ⟨qbg, 1, none⟩ = some (.slice og np pg) ∧ W.cell? ⟨qbg, 2, none⟩ = some (.string b3)) ∧ (W.cell? ⟨qbx, 0, none⟩ = some (.int .i64 m3) ∧ W.cell? ⟨qbx, 1, none⟩ = some (.slice ox hs.length px) ∧ W.cell? ⟨qbx, 2, none⟩ = some (.string b3)) ∧ (W.cell? ⟨qby, 0, none⟩ = some (.int .i64 st4) ∧ W.cell? ⟨qby, 1, none⟩ = some (.slice oy ks.length py) ∧ W.cell? ⟨qby, 2, none⟩ = some (.string d4))) (by kernel_rfl) ⟨(three_facts HBbg_9.out).1, (three_facts HBbx_9.out).1, (three_facts HBby_9.out).1⟩ (fun _ => ?_)
      obtain ⟨w10, hX⟩ : ∃ X, X = w9.drew := ⟨_, rfl⟩
      have b : Below w9.heap.size w9 w10 := by rw [hX]; exact (Below.refl _ _).drew
      rw [← hX]
      have hb10 : Below w.heap.size w (w10) := hb9.trans (b.mono hb9.size)
      have HM10 : Hid ((w9).heap.size ≤ (w10).heap.size) := b.size
      have HOx_10 : Hid ((w10).ownsRow w.heap.size 67 2 (.slice ox hs.length px) hs.length (flatF hs)) := owns_below HOx_9.out b (fun g hg => owns_lt HOx_9.out hg)
      have HOy_10 : Hid ((w10).ownsRow w.heap.size 67 2 (.slice oy ks.length py) ks.length (flatF ks)) := owns_below HOy_9.out b (fun g hg => owns_lt HOy_9.out hg)
      have HOg_10 : Hid ((w10).ownsRow w.heap.size 67 2 (.slice og np pg) np (flatF P)) := owns_below HOg_9.out b (fun g hg => owns_lt HOg_9.out hg)
      have HBbx_10 : Hid ((w10).heap[qbx]? = some (.cells #[.int .i64 m3, .slice ox hs.length px, .string b3] 28)) := blk_below HBbx_9.out b
      have HBby_10 : Hid ((w10).heap[qby]? = some (.cells #[.int .i64 st4, .slice oy ks.length py, .string d4] 28)) := blk_below HBby_9.out b
      have HBbg_10 : Hid ((w10).heap[qbg]? = some (.cells #[.int .i64 m3, .slice og np pg, .string b3] 28)) := blk_below HBbg_9.out b
      have hS10 : (w10.cell? ⟨qbg, 0, none⟩ = some (.int .i64 m3) ∧ w10.cell? ⟨qbg, 1, none⟩ = some (.slice og np pg) ∧ w10.cell? ⟨qbg, 2, none⟩ = some (.string b3)) ∧ (w10.cell? ⟨qbx, 0, none⟩ = some (.int .i64 m3) ∧ w10.cell? ⟨qbx, 1, none⟩ = some (.slice ox hs.length px) ∧ w10.cell? ⟨qbx, 2, none⟩ = some (.string b3)) ∧ (w10.cell? ⟨qby, 0, none⟩ = some (.int .i64 st4) ∧ w10.cell? ⟨qby, 1, none⟩ = some (.slice oy ks.length py) ∧ w10.cell? ⟨qby, 2, none⟩ = some (.string d4)) := ⟨(three_facts HBbg_10.out).1, (three_facts HBbx_10.out).1, (three_facts HBby_10.out).1⟩
      clear hb9 HOx_9 HOy_9 HOg_9 HBbx_9 HBby_9 HBbg_9 b hX
      refine wpAnyH_takeD (i := 0) (v := .agg #[.int .i64 m3, .slice og np pg, .string b3]) (some 78) rfl rfl (by kernel_rfl) (by kernel_rfl) (by kernel_rfl) (fun _ _ _ h => h) (Or.inl ⟨by rfl, by intro W hW; obtain ⟨⟨s0, s1, s2⟩, ⟨s3, s4, s5⟩, ⟨s6, s7, s8⟩⟩ := hW; go_simp⟩) hS10 ?_
      simp only [Act.put, List.setIfInBounds_toArray, List.set_cons_zero, List.set_cons_succ]
      refine wpAnyH_takeD (i := 2) (v := .agg #[.int .i64 m3, .slice ox hs.length px, .string b3]) (some 80) rfl rfl (by kernel_rfl) (by kernel_rfl) (by kernel_rfl) (fun _ _ _ h => h) (Or.inl ⟨by rfl, by intro W hW; obtain ⟨⟨s0, s1, s2⟩, ⟨s3, s4, s5⟩, ⟨s6, s7, s8⟩⟩ := hW; go_simp⟩) hS10 ?_
      simp only [Act.put, List.setIfInBounds_toArray, List.set_cons_zero, List.set_cons_succ]
      refine wpAnyH_takeD (i := 3) (v := .agg #[.int .i64 st4, .slice oy ks.length py, .string d4]) (some 81) rfl rfl (by kernel_rfl) (by kernel_rfl) (by kernel_rfl) (fun _ _ _ h => h) (Or.inl ⟨by rfl, by intro W hW; obtain ⟨⟨s0, s1, s2⟩, ⟨s3, s4, s5⟩, ⟨s6, s7, s8⟩⟩ := hW; go_simp⟩) hS10 ?_
      simp only [Act.put, List.setIfInBounds_toArray, List.set_cons_zero, List.set_cons_succ]
      refine wpAnyH_ready (rs := [1]) (by kernel_rfl) (by simp) ?_
      refine AllReadyH.cons rfl (fun K hK => ?_) AllReadyH.nil
      go_simp
      refine (HRT.out _ _ _ (FieldsV.of_owns HOg_10.out) (HT.out _ hb10)).mono ?_
      rintro e w11 ⟨rfl, b⟩
      have hb11 : Below w.heap.size w (w11) := hb10.trans (b.mono hb10.size)
      have HM11 : Hid ((w10).heap.size ≤ (w11).heap.size) := b.size
      have HOx_11 : Hid ((w11).ownsRow w.heap.size 67 2 (.slice ox hs.length px) hs.length (flatF hs)) := owns_below HOx_10.out b (fun g hg => owns_lt HOx_10.out hg)
      have HOy_11 : Hid ((w11).ownsRow w.heap.size 67 2 (.slice oy ks.length py) ks.length (flatF ks)) := owns_below HOy_10.out b (fun g hg => owns_lt HOy_10.out hg)
      have HOg_11 : Hid ((w11).ownsRow w.heap.size 67 2 (.slice og np pg) np (flatF P)) := owns_below HOg_10.out b (fun g hg => owns_lt HOg_10.out hg)
      have HBbx_11 : Hid ((w11).heap[qbx]? = some (.cells #[.int .i64 m3, .slice ox hs.length px, .string b3] 28)) := blk_below HBbx_10.out b
      have HBby_11 : Hid ((w11).heap[qby]? = some (.cells #[.int .i64 st4, .slice oy ks.length py, .string d4] 28)) := blk_below HBby_10.out b
      have HBbg_11 : Hid ((w11).heap[qbg]? = some (.cells #[.int .i64 m3, .slice og np pg, .string b3] 28)) := blk_below HBbg_10.out b
      have hS11 : (w11.cell? ⟨qbg, 0, none⟩ = some (.int .i64 m3) ∧ w11.cell? ⟨qbg, 1, none⟩ = some (.slice og np pg) ∧ w11.cell? ⟨qbg, 2, none⟩ = some (.string b3)) ∧ (w11.cell? ⟨qbx, 0, none⟩ = some (.int .i64 m3) ∧ w11.cell? ⟨qbx, 1, none⟩ = some (.slice ox hs.length px) ∧ w11.cell? ⟨qbx, 2, none⟩ = some (.string b3)) ∧ (w11.cell? ⟨qby, 0, none⟩ = some (.int .i64 st4) ∧ w11.cell? ⟨qby, 1, none⟩ = some (.slice oy ks.length py) ∧ w11.cell? ⟨qby, 2, none⟩ = some (.string d4)) := ⟨(three_facts HBbg_11.out).1, (three_facts HBbx_11.out).1, (three_facts HBby_11.out).1⟩
      refine hK.out _ _ hS11 (fun _ => ?_)
      clear hK K b hS10 hb10 HOx_10 HOy_10 HOg_10 HBbx_10 HBby_10 HBbg_10
      refine wpAnyH_ready (rs := [4]) (by kernel_rfl) (by simp) ?_
      refine AllReadyH.cons rfl (fun K hK => ?_) AllReadyH.nil
      go_simp
      refine (HSG.out _ _ _ _ _ (FieldsV.of_owns HOx_11.out) (FieldsV.of_owns HOy_11.out)).mono ?_
      rintro e w12 ⟨vs, rfl, owns, b⟩
      obtain ⟨os, ps, rfl⟩ := slice_of_owns owns
      have hb12 : Below w.heap.size w (w12) := hb11.trans (b.mono hb11.size)
      have HM12 : Hid ((w11).heap.size ≤ (w12).heap.size) := b.size
      have HOx_12 : Hid ((w12).ownsRow w.heap.size 67 2 (.slice ox hs.length px) hs.length (flatF hs)) := owns_below HOx_11.out b (fun g hg => owns_lt HOx_11.out hg)
      have HOy_12 : Hid ((w12).ownsRow w.heap.size 67 2 (.slice oy ks.length py) ks.length (flatF ks)) := owns_below HOy_11.out b (fun g hg => owns_lt HOy_11.out hg)
      have HOg_12 : Hid ((w12).ownsRow w.heap.size 67 2 (.slice og np pg) np (flatF P)) := owns_below HOg_11.out b (fun g hg => owns_lt HOg_11.out hg)
      have HBbx_12 : Hid ((w12).heap[qbx]? = some (.cells #[.int .i64 m3, .slice ox hs.length px, .string b3] 28)) := blk_below HBbx_11.out b
      have HBby_12 : Hid ((w12).heap[qby]? = some (.cells #[.int .i64 st4, .slice oy ks.length py, .string d4] 28)) := blk_below HBby_11.out b
      have HBbg_12 : Hid ((w12).heap[qbg]? = some (.cells #[.int .i64 m3, .slice og np pg, .string b3] 28)) := blk_below HBbg_11.out b
      have HOs_12 : Hid ((w12).ownsRow w.heap.size 67 2 (.slice os np ps) np (flatF P)) := owns_wide owns hb11.size
      have LOs : Hid (∀ g, (Value.ownBlock (.slice os np ps)) = some g → (w11).heap.size ≤ g) := fun g hg => owns_ge owns hg
      have HIs : Hid (∀ g, (Value.ownBlock (.slice os np ps)) = some g → g < (w12).heap.size) := fun g hg => owns_lt owns hg
      clear owns
      have hS12 : (w12.cell? ⟨qbg, 0, none⟩ = some (.int .i64 m3) ∧ w12.cell? ⟨qbg, 1, none⟩ = some (.slice og np pg) ∧ w12.cell? ⟨qbg, 2, none⟩ = some (.string b3)) ∧ (w12.cell? ⟨qbx, 0, none⟩ = some (.int .i64 m3) ∧ w12.cell? ⟨qbx, 1, none⟩ = some (.slice ox hs.length px) ∧ w12.cell? ⟨qbx, 2, none⟩ = some (.string b3)) ∧ (w12.cell? ⟨qby, 0, none⟩ = some (.int .i64 st4) ∧ w12.cell? ⟨qby, 1, none⟩ = some (.slice oy ks.length py) ∧ w12.cell? ⟨qby, 2, none⟩ = some (.string d4)) := ⟨(three_facts HBbg_12.out).1, (three_facts HBbx_12.out).1, (three_facts HBby_12.out).1⟩
      refine hK.out _ _ hS12 (fun _ => ?_)
      clear hK K b hS11 hb11 HOx_11 HOy_11 HOg_11 HBbx_11 HBby_11 HBbg_11
      refine wpAnyH_ready (rs := [5]) (by kernel_rfl) (by simp) ?_
      refine AllReadyH.cons rfl (fun K hK => ?_) AllReadyH.nil
      go_simp
      refine (HRT.out _ _ _ (FieldsV.of_owns HOs_12.out) (HT.out _ hb12)).mono ?_
      rintro e w13 ⟨rfl, b⟩
      have hb13 : Below w.heap.size w (w13) := hb12.trans (b.mono hb12.size)
      have HM13 : Hid ((w12).heap.size ≤ (w13).heap.size) := b.size
      have HOx_13 : Hid ((w13).ownsRow w.heap.size 67 2 (.slice ox hs.length px) hs.length (flatF hs)) := owns_below HOx_12.out b (fun g hg => owns_lt HOx_12.out hg)
      have HOy_13 : Hid ((w13).ownsRow w.heap.size 67 2 (.slice oy ks.length py) ks.length (flatF ks)) := owns_below HOy_12.out b (fun g hg => owns_lt HOy_12.out hg)
      have HOg_13 : Hid ((w13).ownsRow w.heap.size 67 2 (.slice og np pg) np (flatF P)) := owns_below HOg_12.out b (fun g hg => owns_lt HOg_12.out hg)
      have HOs_13 : Hid ((w13).ownsRow w.heap.size 67 2 (.slice os np ps) np (flatF P)) := owns_below HOs_12.out b (fun g hg => owns_lt HOs_12.out hg)
      have HBbx_13 : Hid ((w13).heap[qbx]? = some (.cells #[.int .i64 m3, .slice ox hs.length px, .string b3] 28)) := blk_below HBbx_12.out b
      have HBby_13 : Hid ((w13).heap[qby]? = some (.cells #[.int .i64 st4, .slice oy ks.length py, .string d4] 28)) := blk_below HBby_12.out b
      have HBbg_13 : Hid ((w13).heap[qbg]? = some (.cells #[.int .i64 m3, .slice og np pg, .string b3] 28)) := blk_below HBbg_12.out b
      have hS13 : (w13.cell? ⟨qbg, 0, none⟩ = some (.int .i64 m3) ∧ w13.cell? ⟨qbg, 1, none⟩ = some (.slice og np pg) ∧ w13.cell? ⟨qbg, 2, none⟩ = some (.string b3)) ∧ (w13.cell? ⟨qbx, 0, none⟩ = some (.int .i64 m3) ∧ w13.cell? ⟨qbx, 1, none⟩ = some (.slice ox hs.length px) ∧ w13.cell? ⟨qbx, 2, none⟩ = some (.string b3)) ∧ (w13.cell? ⟨qby, 0, none⟩ = some (.int .i64 st4) ∧ w13.cell? ⟨qby, 1, none⟩ = some (.slice oy ks.length py) ∧ w13.cell? ⟨qby, 2, none⟩ = some (.string d4)) := ⟨(three_facts HBbg_13.out).1, (three_facts HBbx_13.out).1, (three_facts HBby_13.out).1⟩
      refine hK.out _ _ hS13 (fun _ => ?_)
      clear hK K b hS12 hb12 HOx_12 HOy_12 HOg_12 HOs_12 HBbx_12 HBby_12 HBbg_12
      refine wpAnyH_takeD (i := 6) (v := .bool true) (some 84) rfl rfl (by kernel_rfl) (by kernel_rfl) (by kernel_rfl) (fun _ _ _ h => h) (Or.inl ⟨by rfl, by intro W _; go_simp⟩) hS13 ?_
      simp only [Act.put, List.setIfInBounds_toArray, List.set_cons_zero, List.set_cons_succ]
      refine wpAnyH_takeD (i := 7) (v := .bool true) (some 85) rfl rfl (by kernel_rfl) (by kernel_rfl) (by kernel_rfl) (fun _ _ _ h => h) (Or.inl ⟨by rfl, by intro W _; go_simp⟩) hS13 ?_
      simp only [Act.put, List.setIfInBounds_toArray, List.set_cons_zero, List.set_cons_succ]
      refine wpAnyH_takeD (i := 8) (v := .pointer (some ⟨qbg, 2, none⟩)) (some 86) rfl rfl (by kernel_rfl) (by kernel_rfl) (by kernel_rfl) (fun _ _ _ h => h) (Or.inl ⟨by rfl, by intro W _; go_simp⟩) hS13 ?_
      simp only [Act.put, List.setIfInBounds_toArray, List.set_cons_zero, List.set_cons_succ]
      refine wpAnyH_takeD (i := 9) (v := .string b3) (some 87) rfl rfl (by kernel_rfl) (by kernel_rfl) (by kernel_rfl) (fun _ _ _ h => h) (Or.inl ⟨by rfl, by intro W hW; obtain ⟨⟨s0, s1, s2⟩, ⟨s3, s4, s5⟩, ⟨s6, s7, s8⟩⟩ := hW; go_simp⟩) hS13 ?_
      simp only [Act.put, List.setIfInBounds_toArray, List.set_cons_zero, List.set_cons_succ]
      refine wpAnyH_takeD (i := 10) (v := .pointer (some ⟨qbx, 2, none⟩)) (some 88) rfl rfl (by kernel_rfl) (by kernel_rfl) (by kernel_rfl) (fun _ _ _ h => h) (Or.inl ⟨by rfl, by intro W _; go_simp⟩) hS13 ?_
      simp only [Act.put, List.setIfInBounds_toArray, List.set_cons_zero, List.set_cons_succ]
      refine wpAnyH_takeD (i := 11) (v := .string b3) (some 89) rfl rfl (by kernel_rfl) (by kernel_rfl) (by kernel_rfl) (fun _ _ _ h => h) (Or.inl ⟨by rfl, by intro W hW; obtain ⟨⟨s0, s1, s2⟩, ⟨s3, s4, s5⟩, ⟨s6, s7, s8⟩⟩ := hW; go_simp⟩) hS13 ?_
      simp only [Act.put, List.setIfInBounds_toArray, List.set_cons_zero, List.set_cons_succ]
      refine wpAnyH_takeD (i := 12) (v := .bool true) (some 90) rfl rfl (by kernel_rfl) (by kernel_rfl) (by kernel_rfl) (fun _ _ _ h => h) (Or.inl ⟨by rfl, by intro W _; go_simp⟩) hS13 ?_
      simp only [Act.put, List.setIfInBounds_toArray, List.set_cons_zero, List.set_cons_succ]
      refine wpAnyH_takeD (i := 13) (v := .bool true) (some 91) rfl rfl (by kernel_rfl) (by kernel_rfl) (by kernel_rfl) (fun _ _ _ h => h) (Or.inl ⟨by rfl, by intro W _; go_simp⟩) hS13 ?_
      simp only [Act.put, List.setIfInBounds_toArray, List.set_cons_zero, List.set_cons_succ]
      refine wpAnyH_takeD (i := 14) (v := .bool true) (some 92) rfl rfl (by kernel_rfl) (by kernel_rfl) (by kernel_rfl) (fun _ _ _ h => h) (Or.inl ⟨by rfl, by intro W _; go_simp⟩) hS13 ?_
      simp only [Act.put, List.setIfInBounds_toArray, List.set_cons_zero, List.set_cons_succ]
      refine wpAnyH_takeD (i := 15) (v := .pointer (some ⟨qbg, 0, none⟩)) (some 93) rfl rfl (by kernel_rfl) (by kernel_rfl) (by kernel_rfl) (fun _ _ _ h => h) (Or.inl ⟨by rfl, by intro W _; go_simp⟩) hS13 ?_
      simp only [Act.put, List.setIfInBounds_toArray, List.set_cons_zero, List.set_cons_succ]
      refine wpAnyH_takeD (i := 16) (v := .int .i64 m3) (some 94) rfl rfl (by kernel_rfl) (by kernel_rfl) (by kernel_rfl) (fun _ _ _ h => h) (Or.inl ⟨by rfl, by intro W hW; obtain ⟨⟨s0, s1, s2⟩, ⟨s3, s4, s5⟩, ⟨s6, s7, s8⟩⟩ := hW; go_simp⟩) hS13 ?_
      simp only [Act.put, List.setIfInBounds_toArray, List.set_cons_zero, List.set_cons_succ]
      refine wpAnyH_takeD (i := 17) (v := .pointer (some ⟨qbx, 0, none⟩)) (some 95) rfl rfl (by kernel_rfl) (by kernel_rfl) (by kernel_rfl) (fun _ _ _ h => h) (Or.inl ⟨by rfl, by intro W _; go_simp⟩) hS13 ?_
      simp only [Act.put, List.setIfInBounds_toArray, List.set_cons_zero, List.set_cons_succ]
      refine wpAnyH_takeD (i := 18) (v := .int .i64 m3) (some 96) rfl rfl (by kernel_rfl) (by kernel_rfl) (by kernel_rfl) (fun _ _ _ h => h) (Or.inl ⟨by rfl, by intro W hW; obtain ⟨⟨s0, s1, s2⟩, ⟨s3, s4, s5⟩, ⟨s6, s7, s8⟩⟩ := hW; go_simp⟩) hS13 ?_
      simp only [Act.put, List.setIfInBounds_toArray, List.set_cons_zero, List.set_cons_succ]
      refine wpAnyH_takeD (i := 19) (v := .bool true) (some 97) rfl rfl (by kernel_rfl) (by kernel_rfl) (by kernel_rfl) (fun _ _ _ h => h) (Or.inl ⟨by rfl, by intro W _; go_simp⟩) hS13 ?_
      simp only [Act.put, List.setIfInBounds_toArray, List.set_cons_zero, List.set_cons_succ]
      refine wpAnyH_takeD (i := 20) (v := .bool true) (some 98) rfl rfl (by kernel_rfl) (by kernel_rfl) (by kernel_rfl) (fun _ _ _ h => h) (Or.inl ⟨by rfl, by intro W _; go_simp⟩) hS13 ?_
      simp only [Act.put, List.setIfInBounds_toArray, List.set_cons_zero, List.set_cons_succ]
      refine wpAnyH_takeD (i := 21) (v := .bool true) (some 99) rfl rfl (by kernel_rfl) (by kernel_rfl) (by kernel_rfl) (fun _ _ _ h => h) (Or.inl ⟨by rfl, by intro W _; go_simp⟩) hS13 ?_
      simp only [Act.put, List.setIfInBounds_toArray, List.set_cons_zero, List.set_cons_succ]
      refine wpAnyH_takeD (i := 22) (v := .agg #[.int .i64 m3, .slice ox hs.length px, .string b3]) (some 100) rfl rfl (by kernel_rfl) (by kernel_rfl) (by kernel_rfl) (fun _ _ _ h => h) (Or.inl ⟨by rfl, by intro W hW; obtain ⟨⟨s0, s1, s2⟩, ⟨s3, s4, s5⟩, ⟨s6, s7, s8⟩⟩ := hW; go_simp⟩) hS13 ?_
      simp only [Act.put, List.setIfInBounds_toArray, List.set_cons_zero, List.set_cons_succ]
      refine wpAnyH_ready (rs := [23]) (by kernel_rfl) (by simp) ?_
      refine AllReadyH.cons rfl (fun K hK => ?_) AllReadyH.nil
      go_simp
      refine (HOX.out _ _ _ (FieldsV.of_owns HOx_13.out)).mono ?_
      rintro e w14 ⟨rfl, b⟩
      have hb14 : Below w.heap.size w (w14) := hb13.trans (b.mono hb13.size)
      have HM14 : Hid ((w13).heap.size ≤ (w14).heap.size) := b.size
      have HOx_14 : Hid ((w14).ownsRow w.heap.size 67 2 (.slice ox hs.length px) hs.length (flatF hs)) := owns_below HOx_13.out b (fun g hg => owns_lt HOx_13.out hg)
      have HOy_14 : Hid ((w14).ownsRow w.heap.size 67 2 (.slice oy ks.length py) ks.length (flatF ks)) := owns_below HOy_13.out b (fun g hg => owns_lt HOy_13.out hg)
      have HOg_14 : Hid ((w14).ownsRow w.heap.size 67 2 (.slice og np pg) np (flatF P)) := owns_below HOg_13.out b (fun g hg => owns_lt HOg_13.out hg)
      have HOs_14 : Hid ((w14).ownsRow w.heap.size 67 2 (.slice os np ps) np (flatF P)) := owns_below HOs_13.out b (fun g hg => owns_lt HOs_13.out hg)
      have HBbx_14 : Hid ((w14).heap[qbx]? = some (.cells #[.int .i64 m3, .slice ox hs.length px, .string b3] 28)) := blk_below HBbx_13.out b
      have HBby_14 : Hid ((w14).heap[qby]? = some (.cells #[.int .i64 st4, .slice oy ks.length py, .string d4] 28)) := blk_below HBby_13.out b
      have HBbg_14 : Hid ((w14).heap[qbg]? = some (.cells #[.int .i64 m3, .slice og np pg, .string b3] 28)) := blk_below HBbg_13.out b
      have hS14 : (w14.cell? ⟨qbg, 0, none⟩ = some (.int .i64 m3) ∧ w14.cell? ⟨qbg, 1, none⟩ = some (.slice og np pg) ∧ w14.cell? ⟨qbg, 2, none⟩ = some (.string b3)) ∧ (w14.cell? ⟨qbx, 0, none⟩ = some (.int .i64 m3) ∧ w14.cell? ⟨qbx, 1, none⟩ = some (.slice ox hs.length px) ∧ w14.cell? ⟨qbx, 2, none⟩ = some (.string b3)) ∧ (w14.cell? ⟨qby, 0, none⟩ = some (.int .i64 st4) ∧ w14.cell? ⟨qby, 1, none⟩ = some (.slice oy ks.length py) ∧ w14.cell? ⟨qby, 2, none⟩ = some (.string d4)) := ⟨(three_facts HBbg_14.out).1, (three_facts HBbx_14.out).1, (three_facts HBby_14.out).1⟩
      refine hK.out _ _ hS14 (fun _ => ?_)
      clear hK K b hS13 hb13 HOx_13 HOy_13 HOg_13 HOs_13 HBbx_13 HBby_13 HBbg_13
      refine wpAnyH_takeD (i := 24) (v := .bool true) (some 102) rfl rfl (by kernel_rfl) (by kernel_rfl) (by kernel_rfl) (fun _ _ _ h => h) (Or.inl ⟨by rfl, by intro W _; go_simp⟩) hS14 ?_
      simp only [Act.put, List.setIfInBounds_toArray, List.set_cons_zero, List.set_cons_succ]
      refine wpAnyH_takeD (i := 25) (v := .bool true) (some 103) rfl rfl (by kernel_rfl) (by kernel_rfl) (by kernel_rfl) (fun _ _ _ h => h) (Or.inl ⟨by rfl, by intro W _; go_simp⟩) hS14 ?_
      simp only [Act.put, List.setIfInBounds_toArray, List.set_cons_zero, List.set_cons_succ]
      refine wpAnyH_takeD (i := 26) (v := undef) (some 104) rfl rfl (by kernel_rfl) (by kernel_rfl) (by kernel_rfl) (fun _ _ _ h => h) (Or.inr ⟨by rfl, rfl⟩) hS14 ?_
      simp only [Act.put, List.setIfInBounds_toArray, List.set_cons_zero, List.set_cons_succ]
      refine wpAnyH_takeD (i := 27) (v := undef) (some 105) rfl rfl (by kernel_rfl) (by kernel_rfl) (by kernel_rfl) (fun _ _ _ h => h) (Or.inr ⟨by rfl, rfl⟩) hS14 ?_
      simp only [Act.put, List.setIfInBounds_toArray, List.set_cons_zero, List.set_cons_succ]
      refine wpAnyH_takeD (i := 28) (v := .bool true) (some 106) rfl rfl (by kernel_rfl) (by kernel_rfl) (by kernel_rfl) (fun _ _ _ h => h) (Or.inl ⟨by rfl, by intro W _; go_simp⟩) hS14 ?_
      simp only [Act.put, List.setIfInBounds_toArray, List.set_cons_zero, List.set_cons_succ]
      refine wpAnyH_takeD (i := 29) (v := .bool true) (some 107) rfl rfl (by kernel_rfl) (by kernel_rfl) (by kernel_rfl) (fun _ _ _ h => h) (Or.inl ⟨by rfl, by intro W _; go_simp⟩) hS14 ?_
      simp only [Act.put, List.setIfInBounds_toArray, List.set_cons_zero, List.set_cons_succ]
      refine wpAnyH_takeD (i := 30) (v := .bool true) (some 2) rfl rfl (by kernel_rfl) (by kernel_rfl) (by kernel_rfl) (fun _ _ _ h => h) (Or.inl ⟨by rfl, by intro W _; go_simp⟩) hS14 ?_
      simp only [Act.put, List.setIfInBounds_toArray, List.set_cons_zero, List.set_cons_succ]
      clear hS14
      refine wpAnyH_done (by kernel_rfl) ?_ _
      go_wp2_with fail
      go_ret
      exact ⟨rfl, hb14⟩
  | true =>
    obtain ⟨⟨hrq, hrp, hm1, hst1⟩, hq0, hz0, hz2, hz4⟩ := HMP.out (by simp)
    subst hq0 hz0 hz2 hz4
    have HRQ : Hid (ReqP m p fs bd) := hrq
    have HRP : Hid (RespP st gs dd) := hrp
    have hm2 : (m != 1) = false := by simpa using hm1
    have hst2 : (st != 200) = false := by simpa using hst1
    clear hrq hrp hm1 hst1 HMP
    obtain ⟨xa0, _, _, _, _, _⟩ := HCA.out.cells
    obtain ⟨xb0, _, xb2, _, xb4, _⟩ := HCB.out.cells
    dsimp only at xa0 xb0 xb2 xb4
    obtain ⟨⟨cq0, cq1, cq2, cq3⟩, _⟩ := four_facts HBbq_5.out
    obtain ⟨⟨cr0, cr1, cr2⟩, _⟩ := three_facts HBbr_5.out
    go_wp2_with fail
    refine (implReqOk_any m p _ bd fs.length _ fs _ (FieldsV.of_owns HOq_5.out) (by omega) (shortWalk hsh) (by unfold maxLen; omega) (by unfold maxLen; omega)).mono ?_
    rintro e w6 ⟨t1, rfl, ht1, b⟩
    obtain rfl : t1 = true := ht1.2 HRQ.out
    have hb6 : Below w.heap.size w (w6) := hb5.trans (b.mono hb5.size)
    have HM6 : Hid ((w5).heap.size ≤ (w6).heap.size) := b.size
    have HOq_6 : Hid ((w6).ownsRow w.heap.size 67 2 (.slice oq fs.length pq) fs.length (flatF fs)) := owns_below HOq_5.out b (fun g hg => owns_lt HOq_5.out hg)
    have HOr_6 : Hid ((w6).ownsRow w.heap.size 67 2 (.slice or gs.length pr) gs.length (flatF gs)) := owns_below HOr_5.out b (fun g hg => owns_lt HOr_5.out hg)
    have HBbq_6 : Hid ((w6).heap[qbq]? = some (.cells #[.int .i64 m, .string p, .slice oq fs.length pq, .string bd] 26)) := blk_below HBbq_5.out b
    have HBbr_6 : Hid ((w6).heap[qbr]? = some (.cells #[.int .i64 st, .slice or gs.length pr, .string dd] 28)) := blk_below HBbr_5.out b
    clear hb5 HOq_5 HOr_5 HBbq_5 HBbr_5 b ht1 cq0 cq1 cq2 cq3 cr0 cr1 cr2 xa0 xb0 xb2 xb4 HCA HCB
    obtain ⟨⟨cr0, cr1, cr2⟩, _⟩ := three_facts HBbr_6.out
    go_wp2_with fail
    refine (implRespOk_any st _ dd gs.length _ gs _ (FieldsV.of_owns HOr_6.out) (by omega) (shortWalk hgsh) (by unfold maxLen; omega)).mono ?_
    rintro e w7 ⟨t2, rfl, ht2, b⟩
    obtain rfl : t2 = true := ht2.2 HRP.out
    have hb7 : Below w.heap.size w (w7) := hb6.trans (b.mono hb6.size)
    have HM7 : Hid ((w6).heap.size ≤ (w7).heap.size) := b.size
    have HOq_7 : Hid ((w7).ownsRow w.heap.size 67 2 (.slice oq fs.length pq) fs.length (flatF fs)) := owns_below HOq_6.out b (fun g hg => owns_lt HOq_6.out hg)
    have HOr_7 : Hid ((w7).ownsRow w.heap.size 67 2 (.slice or gs.length pr) gs.length (flatF gs)) := owns_below HOr_6.out b (fun g hg => owns_lt HOr_6.out hg)
    have HBbq_7 : Hid ((w7).heap[qbq]? = some (.cells #[.int .i64 m, .string p, .slice oq fs.length pq, .string bd] 26)) := blk_below HBbq_6.out b
    have HBbr_7 : Hid ((w7).heap[qbr]? = some (.cells #[.int .i64 st, .slice or gs.length pr, .string dd] 28)) := blk_below HBbr_6.out b
    clear hb6 HOq_6 HOr_6 HBbq_6 HBbr_6 b ht2 cr0 cr1 cr2
    clear HRQ HRP HOq_7 HOr_7 HBbq_7 HBbr_7
    go_wp2_with fail
    refine (drawMerge_any a0 len0 cap0 zc0 _ (HCODE.out _ hb7)).mono ?_
    rintro e w8 ⟨m3, vx, hs, b3, st4, vy, ks, d4, rfl, hm3, ownx, hxl, hxsh, hxb, hst4, owny, hyl, hysh, hyb, hne, b⟩
    obtain ⟨ox, px, rfl⟩ := slice_of_owns ownx
    obtain ⟨oy, py, rfl⟩ := slice_of_owns owny
    clear hne hm3 hst4
    have hb8 : Below w.heap.size w (w8) := hb7.trans (b.mono hb7.size)
    have HM8 : Hid ((w7).heap.size ≤ (w8).heap.size) := b.size
    have HOx_8 : Hid ((w8).ownsRow w.heap.size 67 2 (.slice ox hs.length px) hs.length (flatF hs)) := owns_wide ownx hb7.size
    have LOx : Hid (∀ g, (Value.ownBlock (.slice ox hs.length px)) = some g → (w7).heap.size ≤ g) := fun g hg => owns_ge ownx hg
    have HIx : Hid (∀ g, (Value.ownBlock (.slice ox hs.length px)) = some g → g < (w8).heap.size) := fun g hg => owns_lt ownx hg
    clear ownx
    have HOy_8 : Hid ((w8).ownsRow w.heap.size 67 2 (.slice oy ks.length py) ks.length (flatF ks)) := owns_wide owny hb7.size
    have LOy : Hid (∀ g, (Value.ownBlock (.slice oy ks.length py)) = some g → (w7).heap.size ≤ g) := fun g hg => owns_ge owny hg
    have HIy : Hid (∀ g, (Value.ownBlock (.slice oy ks.length py)) = some g → g < (w8).heap.size) := fun g hg => owns_lt owny hg
    clear owny
    clear hb7 b
    go_upto_region 11 with fail
    obtain ⟨qbx, hqbx⟩ : ∃ q, q = (w8).heap.size := ⟨_, rfl⟩
    obtain ⟨qby, hqby⟩ : ∃ q, q = qbx + 1 := ⟨_, rfl⟩
    obtain ⟨w9, hW9⟩ : ∃ W, W = ((w8).alloc (.cells #[.int .i64 m3, .slice ox hs.length px, .string b3] 28)).alloc (.cells #[.int .i64 st4, .slice oy ks.length py, .string d4] 28) := ⟨_, rfl⟩
    rw [← hW9, ← hqbx, ← hqby]
    have b : Below (w8).heap.size (w8) w9 := by rw [hW9]; exact ((Below.refl _ _).alloc (Nat.le_refl _) _).alloc (by simp) _
    have hb9 : Below w.heap.size w (w9) := hb8.trans (b.mono hb8.size)
    have HM9 : Hid ((w8).heap.size ≤ (w9).heap.size) := b.size
    have HOx_9 : Hid ((w9).ownsRow w.heap.size 67 2 (.slice ox hs.length px) hs.length (flatF hs)) := owns_below HOx_8.out b (fun g hg => owns_lt HOx_8.out hg)
    have HOy_9 : Hid ((w9).ownsRow w.heap.size 67 2 (.slice oy ks.length py) ks.length (flatF ks)) := owns_below HOy_8.out b (fun g hg => owns_lt HOy_8.out hg)
    have HBbx_9 : Hid ((w9).heap[qbx]? = some (.cells #[.int .i64 m3, .slice ox hs.length px, .string b3] 28)) := by show _ = _; rw [hW9, hqbx]; exact blk_alloc (heap_alloc_new _ _) _
    have HBby_9 : Hid ((w9).heap[qby]? = some (.cells #[.int .i64 st4, .slice oy ks.length py, .string d4] 28)) := by
      show _ = _
      have h := heap_alloc_new ((w8).alloc (.cells #[.int .i64 m3, .slice ox hs.length px, .string b3] 28)) (.cells #[.int .i64 st4, .slice oy ks.length py, .string d4] 28)
      have hz : ((w8).alloc (.cells #[.int .i64 m3, .slice ox hs.length px, .string b3] 28)).heap.size = qby := by rw [hqby, hqbx]; simp
      rw [hz] at h
      rw [hW9]
      exact h
    clear hb8 HOx_8 HOy_8 b hW9 hqbx hqby
    obtain ⟨P, hP⟩ : ∃ P, P = mergeF m3 hs b3 ks := ⟨_, rfl⟩
    obtain ⟨np, hnp⟩ : ∃ m, m = P.length := ⟨_, rfl⟩
    have hnp2 : np ≤ 80 := by
      rw [hnp, hP]
      have h1 := merge_le m3 hs b3 ks
      omega
    have HPS : Hid (ShortF P) := by show ShortF _; rw [hP]; exact merge_short hxsh hysh
    have HNP : Hid (P.length = np) := hnp.symm
    have HWP : Hid (WalkF np P) := by have h := shortWalk HPS.out; rw [HNP.out] at h; exact h
    have HMR : Hid (RespP m3 hs b3 → RespP m3 P b3) := fun h => by rw [hP]; exact merge_right ks h
    have HSG : Hid (∀ (u0 u1 : Value) (B0 B1 : Nat) (W : World), FieldsV W B0 u0 hs.length hs → FieldsV W B1 u1 ks.length ks → Calls Tryz.prog 14 #[.agg #[.int .i64 m3, u0, .string b3], .agg #[.int .i64 st4, u1, .string d4]] W fun e w' => ∃ v, e = .returned (.agg #[.int .i64 m3, v, .string b3]) ∧ w'.ownsRow W.heap.size 67 2 v np (flatF P) ∧ Below W.heap.size W w') := by
      intro u0 u1 B0 B1 W h0 h1
      rw [hnp, hP]
      exact specMerge_any m3 u0 b3 hs.length B0 hs st4 u1 d4 ks.length B1 ks W h0 (shortWalk hxsh) (by unfold maxLen; omega) h1 (by omega) (shortWalk hysh)
    have HIG : Hid (∀ (u0 u1 : Value) (B0 B1 : Nat) (W : World), FieldsV W B0 u0 hs.length hs → FieldsV W B1 u1 ks.length ks → Calls Tryz.prog 12 #[.agg #[.int .i64 m3, u0, .string b3], .agg #[.int .i64 st4, u1, .string d4]] W fun e w' => ∃ v, e = .returned (.agg #[.int .i64 m3, v, .string b3]) ∧ w'.ownsRow W.heap.size 67 2 v np (flatF P) ∧ Below W.heap.size W w') := by
      intro u0 u1 B0 B1 W h0 h1
      rw [hnp, hP]
      exact implMerge_any m3 u0 b3 hs.length B0 hs st4 u1 d4 ks.length B1 ks W h0 (by omega) h1 (by omega) hxsh.copy hysh.copy
    clear hP hnp
    obtain ⟨TT, HTT⟩ : ∃ t : ByteArray, Hid ((RespP m3 P b3 → t = respT m3 P b3) ∧ (¬ RespP m3 P b3 → t = ⟨#[]⟩)) := by
      by_cases h : RespP m3 P b3
      · exact ⟨respT m3 P b3, fun _ => rfl, fun h2 => absurd h h2⟩
      · exact ⟨⟨#[]⟩, fun h2 => absurd h2 h, fun _ => rfl⟩
    have HRT : Hid (∀ (u0 : Value) (B0 : Nat) (W : World), FieldsV W B0 u0 np P → TabOk W → Calls Tryz.prog 13 #[.agg #[.int .i64 m3, u0, .string b3]] W fun e w' => e = .returned (.string TT) ∧ Below W.heap.size W w') := by
      intro u0 B0 W h0 ht
      refine (implRespText_any m3 u0 b3 np B0 P W h0 (by omega) HWP.out (by unfold maxLen; omega) ht).mono ?_
      rintro e w' ⟨u, rfl, k1, k2, b⟩
      obtain rfl : u = TT := by
        by_cases h : RespP m3 P b3
        · rw [k1 h, HTT.out.1 h]
        · rw [k2 h, HTT.out.2 h]
      exact ⟨rfl, b⟩
    obtain ⟨⟨cbx0, cbx1, cbx2⟩, _⟩ := three_facts HBbx_9.out
    obtain ⟨⟨cby0, cby1, cby2⟩, _⟩ := three_facts HBby_9.out
    go_wp2_with fail
    refine (HIG.out _ _ _ _ _ (FieldsV.of_owns HOx_9.out) (FieldsV.of_owns HOy_9.out)).mono ?_
    rintro e w10 ⟨vg, rfl, owng, b⟩
    obtain ⟨og, pg, rfl⟩ := slice_of_owns owng
    have hb10 : Below w.heap.size w (w10) := hb9.trans (b.mono hb9.size)
    have HM10 : Hid ((w9).heap.size ≤ (w10).heap.size) := b.size
    have HOx_10 : Hid ((w10).ownsRow w.heap.size 67 2 (.slice ox hs.length px) hs.length (flatF hs)) := owns_below HOx_9.out b (fun g hg => owns_lt HOx_9.out hg)
    have HOy_10 : Hid ((w10).ownsRow w.heap.size 67 2 (.slice oy ks.length py) ks.length (flatF ks)) := owns_below HOy_9.out b (fun g hg => owns_lt HOy_9.out hg)
    have HBbx_10 : Hid ((w10).heap[qbx]? = some (.cells #[.int .i64 m3, .slice ox hs.length px, .string b3] 28)) := blk_below HBbx_9.out b
    have HBby_10 : Hid ((w10).heap[qby]? = some (.cells #[.int .i64 st4, .slice oy ks.length py, .string d4] 28)) := blk_below HBby_9.out b
    have HOg_10 : Hid ((w10).ownsRow w.heap.size 67 2 (.slice og np pg) np (flatF P)) := owns_wide owng hb9.size
    have LOg : Hid (∀ g, (Value.ownBlock (.slice og np pg)) = some g → (w9).heap.size ≤ g) := fun g hg => owns_ge owng hg
    have HIg : Hid (∀ g, (Value.ownBlock (.slice og np pg)) = some g → g < (w10).heap.size) := fun g hg => owns_lt owng hg
    clear owng
    clear hb9 HOx_9 HOy_9 HBbx_9 HBby_9 cbx0 cbx1 cbx2 cby0 cby1 cby2 b
    go_upto_region 12 with fail
    obtain ⟨qbg, hqbg⟩ : ∃ q, q = (w10).heap.size := ⟨_, rfl⟩
    obtain ⟨w11, hW11⟩ : ∃ W, W = (w10).alloc (.cells #[.int .i64 m3, .slice og np pg, .string b3] 28) := ⟨_, rfl⟩
    rw [← hW11, ← hqbg]
    have b : Below (w10).heap.size (w10) w11 := by rw [hW11]; exact (Below.refl _ _).alloc (Nat.le_refl _) _
    have hb11 : Below w.heap.size w (w11) := hb10.trans (b.mono hb10.size)
    have HM11 : Hid ((w10).heap.size ≤ (w11).heap.size) := b.size
    have HOx_11 : Hid ((w11).ownsRow w.heap.size 67 2 (.slice ox hs.length px) hs.length (flatF hs)) := owns_below HOx_10.out b (fun g hg => owns_lt HOx_10.out hg)
    have HOy_11 : Hid ((w11).ownsRow w.heap.size 67 2 (.slice oy ks.length py) ks.length (flatF ks)) := owns_below HOy_10.out b (fun g hg => owns_lt HOy_10.out hg)
    have HOg_11 : Hid ((w11).ownsRow w.heap.size 67 2 (.slice og np pg) np (flatF P)) := owns_below HOg_10.out b (fun g hg => owns_lt HOg_10.out hg)
    have HBbx_11 : Hid ((w11).heap[qbx]? = some (.cells #[.int .i64 m3, .slice ox hs.length px, .string b3] 28)) := blk_below HBbx_10.out b
    have HBby_11 : Hid ((w11).heap[qby]? = some (.cells #[.int .i64 st4, .slice oy ks.length py, .string d4] 28)) := blk_below HBby_10.out b
    have HBbg_11 : Hid ((w11).heap[qbg]? = some (.cells #[.int .i64 m3, .slice og np pg, .string b3] 28)) := by show _ = _; rw [hW11, hqbg]; exact heap_alloc_new _ _
    clear hb10 HOx_10 HOy_10 HOg_10 HBbx_10 HBby_10 b hW11 hqbg
    have hbb : (b3.toList == b3.toList) = true := by simp
    have htt : (TT.toList == TT.toList) = true := by simp
    have hm33 : (m3 == m3) = true := by simp
    clear HIG HTT
    by_cases hx : RespP m3 hs b3
    · have HOX : Hid (∀ (u0 : Value) (B0 : Nat) (W : World), FieldsV W B0 u0 hs.length hs → Calls Tryz.prog 10 #[.agg #[.int .i64 m3, u0, .string b3]] W fun e w' => e = .returned (.bool true) ∧ Below W.heap.size W w') := by
        intro u0 B0 W h0
        refine (implRespOk_any m3 u0 b3 hs.length B0 hs W h0 (by omega) (shortWalk hxsh) (by unfold maxLen; omega)).mono ?_
        rintro e w' ⟨t, rfl, ht, b⟩
        obtain rfl : t = true := by
          cases t
          · exact absurd (ht.2 hx) (by simp)
          · rfl
        exact ⟨rfl, b⟩
      have HOG : Hid (∀ (u0 : Value) (B0 : Nat) (W : World), FieldsV W B0 u0 np P → Calls Tryz.prog 10 #[.agg #[.int .i64 m3, u0, .string b3]] W fun e w' => e = .returned (.bool true) ∧ Below W.heap.size W w') := by
        intro u0 B0 W h0
        refine (implRespOk_any m3 u0 b3 np B0 P W h0 (by omega) HWP.out (by unfold maxLen; omega)).mono ?_
        rintro e w' ⟨t, rfl, ht, b⟩
        obtain rfl : t = true := ht.2 (HMR.out hx)
        exact ⟨rfl, b⟩
      clear hx HMR
      go_upto_region 12 with fail
      refine wp_region_held_drew (S := fun W => (W.cell? ⟨qbg, 0, none⟩ = some (.int .i64 m3) ∧ W.cell? ⟨qbg, 1, none⟩ = some (.slice og np pg) ∧ W.cell? ⟨qbg, 2, none⟩ = some (.string b3)) ∧ (W.cell? ⟨qbx, 0, none⟩ = some (.int .i64 m3) ∧ W.cell? ⟨qbx, 1, none⟩ = some (.slice ox hs.length px) ∧ W.cell? ⟨qbx, 2, none⟩ = some (.string b3)) ∧ (W.cell? ⟨qby, 0, none⟩ = some (.int .i64 st4) ∧ W.cell? ⟨qby, 1, none⟩ = some (.slice oy ks.length py) ∧ W.cell? ⟨qby, 2, none⟩ = some (.string d4))) (by kernel_rfl) ⟨(three_facts HBbg_11.out).1, (three_facts HBbx_11.out).1, (three_facts HBby_11.out).1⟩ (fun _ => ?_)
      obtain ⟨w12, hX⟩ : ∃ X, X = w11.drew := ⟨_, rfl⟩
      have b : Below w11.heap.size w11 w12 := by rw [hX]; exact (Below.refl _ _).drew
      rw [← hX]
      have hb12 : Below w.heap.size w (w12) := hb11.trans (b.mono hb11.size)
      have HM12 : Hid ((w11).heap.size ≤ (w12).heap.size) := b.size
      have HOx_12 : Hid ((w12).ownsRow w.heap.size 67 2 (.slice ox hs.length px) hs.length (flatF hs)) := owns_below HOx_11.out b (fun g hg => owns_lt HOx_11.out hg)
      have HOy_12 : Hid ((w12).ownsRow w.heap.size 67 2 (.slice oy ks.length py) ks.length (flatF ks)) := owns_below HOy_11.out b (fun g hg => owns_lt HOy_11.out hg)
      have HOg_12 : Hid ((w12).ownsRow w.heap.size 67 2 (.slice og np pg) np (flatF P)) := owns_below HOg_11.out b (fun g hg => owns_lt HOg_11.out hg)
      have HBbx_12 : Hid ((w12).heap[qbx]? = some (.cells #[.int .i64 m3, .slice ox hs.length px, .string b3] 28)) := blk_below HBbx_11.out b
      have HBby_12 : Hid ((w12).heap[qby]? = some (.cells #[.int .i64 st4, .slice oy ks.length py, .string d4] 28)) := blk_below HBby_11.out b
      have HBbg_12 : Hid ((w12).heap[qbg]? = some (.cells #[.int .i64 m3, .slice og np pg, .string b3] 28)) := blk_below HBbg_11.out b
      have hS12 : (w12.cell? ⟨qbg, 0, none⟩ = some (.int .i64 m3) ∧ w12.cell? ⟨qbg, 1, none⟩ = some (.slice og np pg) ∧ w12.cell? ⟨qbg, 2, none⟩ = some (.string b3)) ∧ (w12.cell? ⟨qbx, 0, none⟩ = some (.int .i64 m3) ∧ w12.cell? ⟨qbx, 1, none⟩ = some (.slice ox hs.length px) ∧ w12.cell? ⟨qbx, 2, none⟩ = some (.string b3)) ∧ (w12.cell? ⟨qby, 0, none⟩ = some (.int .i64 st4) ∧ w12.cell? ⟨qby, 1, none⟩ = some (.slice oy ks.length py) ∧ w12.cell? ⟨qby, 2, none⟩ = some (.string d4)) := ⟨(three_facts HBbg_12.out).1, (three_facts HBbx_12.out).1, (three_facts HBby_12.out).1⟩
      clear hb11 HOx_11 HOy_11 HOg_11 HBbx_11 HBby_11 HBbg_11 b hX
      refine wpAnyH_takeD (i := 0) (v := .agg #[.int .i64 m3, .slice og np pg, .string b3]) (some 78) rfl rfl (by kernel_rfl) (by kernel_rfl) (by kernel_rfl) (fun _ _ _ h => h) (Or.inl ⟨by rfl, by intro W hW; obtain ⟨⟨s0, s1, s2⟩, ⟨s3, s4, s5⟩, ⟨s6, s7, s8⟩⟩ := hW; go_simp⟩) hS12 ?_
      simp only [Act.put, List.setIfInBounds_toArray, List.set_cons_zero, List.set_cons_succ]
      refine wpAnyH_takeD (i := 2) (v := .agg #[.int .i64 m3, .slice ox hs.length px, .string b3]) (some 80) rfl rfl (by kernel_rfl) (by kernel_rfl) (by kernel_rfl) (fun _ _ _ h => h) (Or.inl ⟨by rfl, by intro W hW; obtain ⟨⟨s0, s1, s2⟩, ⟨s3, s4, s5⟩, ⟨s6, s7, s8⟩⟩ := hW; go_simp⟩) hS12 ?_
      simp only [Act.put, List.setIfInBounds_toArray, List.set_cons_zero, List.set_cons_succ]
      refine wpAnyH_takeD (i := 3) (v := .agg #[.int .i64 st4, .slice oy ks.length py, .string d4]) (some 81) rfl rfl (by kernel_rfl) (by kernel_rfl) (by kernel_rfl) (fun _ _ _ h => h) (Or.inl ⟨by rfl, by intro W hW; obtain ⟨⟨s0, s1, s2⟩, ⟨s3, s4, s5⟩, ⟨s6, s7, s8⟩⟩ := hW; go_simp⟩) hS12 ?_
      simp only [Act.put, List.setIfInBounds_toArray, List.set_cons_zero, List.set_cons_succ]
      refine wpAnyH_ready (rs := [1]) (by kernel_rfl) (by simp) ?_
      refine AllReadyH.cons rfl (fun K hK => ?_) AllReadyH.nil
      go_simp
      refine (HRT.out _ _ _ (FieldsV.of_owns HOg_12.out) (HT.out _ hb12)).mono ?_
      rintro e w13 ⟨rfl, b⟩
      have hb13 : Below w.heap.size w (w13) := hb12.trans (b.mono hb12.size)
      have HM13 : Hid ((w12).heap.size ≤ (w13).heap.size) := b.size
      have HOx_13 : Hid ((w13).ownsRow w.heap.size 67 2 (.slice ox hs.length px) hs.length (flatF hs)) := owns_below HOx_12.out b (fun g hg => owns_lt HOx_12.out hg)
      have HOy_13 : Hid ((w13).ownsRow w.heap.size 67 2 (.slice oy ks.length py) ks.length (flatF ks)) := owns_below HOy_12.out b (fun g hg => owns_lt HOy_12.out hg)
      have HOg_13 : Hid ((w13).ownsRow w.heap.size 67 2 (.slice og np pg) np (flatF P)) := owns_below HOg_12.out b (fun g hg => owns_lt HOg_12.out hg)
      have HBbx_13 : Hid ((w13).heap[qbx]? = some (.cells #[.int .i64 m3, .slice ox hs.length px, .string b3] 28)) := blk_below HBbx_12.out b
      have HBby_13 : Hid ((w13).heap[qby]? = some (.cells #[.int .i64 st4, .slice oy ks.length py, .string d4] 28)) := blk_below HBby_12.out b
      have HBbg_13 : Hid ((w13).heap[qbg]? = some (.cells #[.int .i64 m3, .slice og np pg, .string b3] 28)) := blk_below HBbg_12.out b
      have hS13 : (w13.cell? ⟨qbg, 0, none⟩ = some (.int .i64 m3) ∧ w13.cell? ⟨qbg, 1, none⟩ = some (.slice og np pg) ∧ w13.cell? ⟨qbg, 2, none⟩ = some (.string b3)) ∧ (w13.cell? ⟨qbx, 0, none⟩ = some (.int .i64 m3) ∧ w13.cell? ⟨qbx, 1, none⟩ = some (.slice ox hs.length px) ∧ w13.cell? ⟨qbx, 2, none⟩ = some (.string b3)) ∧ (w13.cell? ⟨qby, 0, none⟩ = some (.int .i64 st4) ∧ w13.cell? ⟨qby, 1, none⟩ = some (.slice oy ks.length py) ∧ w13.cell? ⟨qby, 2, none⟩ = some (.string d4)) := ⟨(three_facts HBbg_13.out).1, (three_facts HBbx_13.out).1, (three_facts HBby_13.out).1⟩
      refine hK.out _ _ hS13 (fun _ => ?_)
      clear hK K b hS12 hb12 HOx_12 HOy_12 HOg_12 HBbx_12 HBby_12 HBbg_12
      refine wpAnyH_ready (rs := [4]) (by kernel_rfl) (by simp) ?_
      refine AllReadyH.cons rfl (fun K hK => ?_) AllReadyH.nil
      go_simp
      refine (HSG.out _ _ _ _ _ (FieldsV.of_owns HOx_13.out) (FieldsV.of_owns HOy_13.out)).mono ?_
      rintro e w14 ⟨vs, rfl, owns, b⟩
      obtain ⟨os, ps, rfl⟩ := slice_of_owns owns
      have hb14 : Below w.heap.size w (w14) := hb13.trans (b.mono hb13.size)
      have HM14 : Hid ((w13).heap.size ≤ (w14).heap.size) := b.size
      have HOx_14 : Hid ((w14).ownsRow w.heap.size 67 2 (.slice ox hs.length px) hs.length (flatF hs)) := owns_below HOx_13.out b (fun g hg => owns_lt HOx_13.out hg)
      have HOy_14 : Hid ((w14).ownsRow w.heap.size 67 2 (.slice oy ks.length py) ks.length (flatF ks)) := owns_below HOy_13.out b (fun g hg => owns_lt HOy_13.out hg)
      have HOg_14 : Hid ((w14).ownsRow w.heap.size 67 2 (.slice og np pg) np (flatF P)) := owns_below HOg_13.out b (fun g hg => owns_lt HOg_13.out hg)
      have HBbx_14 : Hid ((w14).heap[qbx]? = some (.cells #[.int .i64 m3, .slice ox hs.length px, .string b3] 28)) := blk_below HBbx_13.out b
      have HBby_14 : Hid ((w14).heap[qby]? = some (.cells #[.int .i64 st4, .slice oy ks.length py, .string d4] 28)) := blk_below HBby_13.out b
      have HBbg_14 : Hid ((w14).heap[qbg]? = some (.cells #[.int .i64 m3, .slice og np pg, .string b3] 28)) := blk_below HBbg_13.out b
      have HOs_14 : Hid ((w14).ownsRow w.heap.size 67 2 (.slice os np ps) np (flatF P)) := owns_wide owns hb13.size
      have LOs : Hid (∀ g, (Value.ownBlock (.slice os np ps)) = some g → (w13).heap.size ≤ g) := fun g hg => owns_ge owns hg
      have HIs : Hid (∀ g, (Value.ownBlock (.slice os np ps)) = some g → g < (w14).heap.size) := fun g hg => owns_lt owns hg
      clear owns
      have hS14 : (w14.cell? ⟨qbg, 0, none⟩ = some (.int .i64 m3) ∧ w14.cell? ⟨qbg, 1, none⟩ = some (.slice og np pg) ∧ w14.cell? ⟨qbg, 2, none⟩ = some (.string b3)) ∧ (w14.cell? ⟨qbx, 0, none⟩ = some (.int .i64 m3) ∧ w14.cell? ⟨qbx, 1, none⟩ = some (.slice ox hs.length px) ∧ w14.cell? ⟨qbx, 2, none⟩ = some (.string b3)) ∧ (w14.cell? ⟨qby, 0, none⟩ = some (.int .i64 st4) ∧ w14.cell? ⟨qby, 1, none⟩ = some (.slice oy ks.length py) ∧ w14.cell? ⟨qby, 2, none⟩ = some (.string d4)) := ⟨(three_facts HBbg_14.out).1, (three_facts HBbx_14.out).1, (three_facts HBby_14.out).1⟩
      refine hK.out _ _ hS14 (fun _ => ?_)
      clear hK K b hS13 hb13 HOx_13 HOy_13 HOg_13 HBbx_13 HBby_13 HBbg_13
      refine wpAnyH_ready (rs := [5]) (by kernel_rfl) (by simp) ?_
      refine AllReadyH.cons rfl (fun K hK => ?_) AllReadyH.nil
      go_simp
      refine (HRT.out _ _ _ (FieldsV.of_owns HOs_14.out) (HT.out _ hb14)).mono ?_
      rintro e w15 ⟨rfl, b⟩
      have hb15 : Below w.heap.size w (w15) := hb14.trans (b.mono hb14.size)
      have HM15 : Hid ((w14).heap.size ≤ (w15).heap.size) := b.size
      have HOx_15 : Hid ((w15).ownsRow w.heap.size 67 2 (.slice ox hs.length px) hs.length (flatF hs)) := owns_below HOx_14.out b (fun g hg => owns_lt HOx_14.out hg)
      have HOy_15 : Hid ((w15).ownsRow w.heap.size 67 2 (.slice oy ks.length py) ks.length (flatF ks)) := owns_below HOy_14.out b (fun g hg => owns_lt HOy_14.out hg)
      have HOg_15 : Hid ((w15).ownsRow w.heap.size 67 2 (.slice og np pg) np (flatF P)) := owns_below HOg_14.out b (fun g hg => owns_lt HOg_14.out hg)
      have HOs_15 : Hid ((w15).ownsRow w.heap.size 67 2 (.slice os np ps) np (flatF P)) := owns_below HOs_14.out b (fun g hg => owns_lt HOs_14.out hg)
      have HBbx_15 : Hid ((w15).heap[qbx]? = some (.cells #[.int .i64 m3, .slice ox hs.length px, .string b3] 28)) := blk_below HBbx_14.out b
      have HBby_15 : Hid ((w15).heap[qby]? = some (.cells #[.int .i64 st4, .slice oy ks.length py, .string d4] 28)) := blk_below HBby_14.out b
      have HBbg_15 : Hid ((w15).heap[qbg]? = some (.cells #[.int .i64 m3, .slice og np pg, .string b3] 28)) := blk_below HBbg_14.out b
      have hS15 : (w15.cell? ⟨qbg, 0, none⟩ = some (.int .i64 m3) ∧ w15.cell? ⟨qbg, 1, none⟩ = some (.slice og np pg) ∧ w15.cell? ⟨qbg, 2, none⟩ = some (.string b3)) ∧ (w15.cell? ⟨qbx, 0, none⟩ = some (.int .i64 m3) ∧ w15.cell? ⟨qbx, 1, none⟩ = some (.slice ox hs.length px) ∧ w15.cell? ⟨qbx, 2, none⟩ = some (.string b3)) ∧ (w15.cell? ⟨qby, 0, none⟩ = some (.int .i64 st4) ∧ w15.cell? ⟨qby, 1, none⟩ = some (.slice oy ks.length py) ∧ w15.cell? ⟨qby, 2, none⟩ = some (.string d4)) := ⟨(three_facts HBbg_15.out).1, (three_facts HBbx_15.out).1, (three_facts HBby_15.out).1⟩
      refine hK.out _ _ hS15 (fun _ => ?_)
      clear hK K b hS14 hb14 HOx_14 HOy_14 HOg_14 HOs_14 HBbx_14 HBby_14 HBbg_14
      refine wpAnyH_takeD (i := 6) (v := .bool true) (some 84) rfl rfl (by kernel_rfl) (by kernel_rfl) (by kernel_rfl) (fun _ _ _ h => h) (Or.inl ⟨by rfl, by intro W _; go_simp⟩) hS15 ?_
      simp only [Act.put, List.setIfInBounds_toArray, List.set_cons_zero, List.set_cons_succ]
      refine wpAnyH_takeD (i := 7) (v := .bool true) (some 85) rfl rfl (by kernel_rfl) (by kernel_rfl) (by kernel_rfl) (fun _ _ _ h => h) (Or.inl ⟨by rfl, by intro W _; go_simp⟩) hS15 ?_
      simp only [Act.put, List.setIfInBounds_toArray, List.set_cons_zero, List.set_cons_succ]
      refine wpAnyH_takeD (i := 8) (v := .pointer (some ⟨qbg, 2, none⟩)) (some 86) rfl rfl (by kernel_rfl) (by kernel_rfl) (by kernel_rfl) (fun _ _ _ h => h) (Or.inl ⟨by rfl, by intro W _; go_simp⟩) hS15 ?_
      simp only [Act.put, List.setIfInBounds_toArray, List.set_cons_zero, List.set_cons_succ]
      refine wpAnyH_takeD (i := 9) (v := .string b3) (some 87) rfl rfl (by kernel_rfl) (by kernel_rfl) (by kernel_rfl) (fun _ _ _ h => h) (Or.inl ⟨by rfl, by intro W hW; obtain ⟨⟨s0, s1, s2⟩, ⟨s3, s4, s5⟩, ⟨s6, s7, s8⟩⟩ := hW; go_simp⟩) hS15 ?_
      simp only [Act.put, List.setIfInBounds_toArray, List.set_cons_zero, List.set_cons_succ]
      refine wpAnyH_takeD (i := 10) (v := .pointer (some ⟨qbx, 2, none⟩)) (some 88) rfl rfl (by kernel_rfl) (by kernel_rfl) (by kernel_rfl) (fun _ _ _ h => h) (Or.inl ⟨by rfl, by intro W _; go_simp⟩) hS15 ?_
      simp only [Act.put, List.setIfInBounds_toArray, List.set_cons_zero, List.set_cons_succ]
      refine wpAnyH_takeD (i := 11) (v := .string b3) (some 89) rfl rfl (by kernel_rfl) (by kernel_rfl) (by kernel_rfl) (fun _ _ _ h => h) (Or.inl ⟨by rfl, by intro W hW; obtain ⟨⟨s0, s1, s2⟩, ⟨s3, s4, s5⟩, ⟨s6, s7, s8⟩⟩ := hW; go_simp⟩) hS15 ?_
      simp only [Act.put, List.setIfInBounds_toArray, List.set_cons_zero, List.set_cons_succ]
      refine wpAnyH_takeD (i := 12) (v := .bool true) (some 90) rfl rfl (by kernel_rfl) (by kernel_rfl) (by kernel_rfl) (fun _ _ _ h => h) (Or.inl ⟨by rfl, by intro W _; go_simp⟩) hS15 ?_
      simp only [Act.put, List.setIfInBounds_toArray, List.set_cons_zero, List.set_cons_succ]
      refine wpAnyH_takeD (i := 13) (v := .bool true) (some 91) rfl rfl (by kernel_rfl) (by kernel_rfl) (by kernel_rfl) (fun _ _ _ h => h) (Or.inl ⟨by rfl, by intro W _; go_simp⟩) hS15 ?_
      simp only [Act.put, List.setIfInBounds_toArray, List.set_cons_zero, List.set_cons_succ]
      refine wpAnyH_takeD (i := 14) (v := .bool true) (some 92) rfl rfl (by kernel_rfl) (by kernel_rfl) (by kernel_rfl) (fun _ _ _ h => h) (Or.inl ⟨by rfl, by intro W _; go_simp⟩) hS15 ?_
      simp only [Act.put, List.setIfInBounds_toArray, List.set_cons_zero, List.set_cons_succ]
      refine wpAnyH_takeD (i := 15) (v := .pointer (some ⟨qbg, 0, none⟩)) (some 93) rfl rfl (by kernel_rfl) (by kernel_rfl) (by kernel_rfl) (fun _ _ _ h => h) (Or.inl ⟨by rfl, by intro W _; go_simp⟩) hS15 ?_
      simp only [Act.put, List.setIfInBounds_toArray, List.set_cons_zero, List.set_cons_succ]
      refine wpAnyH_takeD (i := 16) (v := .int .i64 m3) (some 94) rfl rfl (by kernel_rfl) (by kernel_rfl) (by kernel_rfl) (fun _ _ _ h => h) (Or.inl ⟨by rfl, by intro W hW; obtain ⟨⟨s0, s1, s2⟩, ⟨s3, s4, s5⟩, ⟨s6, s7, s8⟩⟩ := hW; go_simp⟩) hS15 ?_
      simp only [Act.put, List.setIfInBounds_toArray, List.set_cons_zero, List.set_cons_succ]
      refine wpAnyH_takeD (i := 17) (v := .pointer (some ⟨qbx, 0, none⟩)) (some 95) rfl rfl (by kernel_rfl) (by kernel_rfl) (by kernel_rfl) (fun _ _ _ h => h) (Or.inl ⟨by rfl, by intro W _; go_simp⟩) hS15 ?_
      simp only [Act.put, List.setIfInBounds_toArray, List.set_cons_zero, List.set_cons_succ]
      refine wpAnyH_takeD (i := 18) (v := .int .i64 m3) (some 96) rfl rfl (by kernel_rfl) (by kernel_rfl) (by kernel_rfl) (fun _ _ _ h => h) (Or.inl ⟨by rfl, by intro W hW; obtain ⟨⟨s0, s1, s2⟩, ⟨s3, s4, s5⟩, ⟨s6, s7, s8⟩⟩ := hW; go_simp⟩) hS15 ?_
      simp only [Act.put, List.setIfInBounds_toArray, List.set_cons_zero, List.set_cons_succ]
      refine wpAnyH_takeD (i := 19) (v := .bool true) (some 97) rfl rfl (by kernel_rfl) (by kernel_rfl) (by kernel_rfl) (fun _ _ _ h => h) (Or.inl ⟨by rfl, by intro W _; go_simp⟩) hS15 ?_
      simp only [Act.put, List.setIfInBounds_toArray, List.set_cons_zero, List.set_cons_succ]
      refine wpAnyH_takeD (i := 20) (v := .bool true) (some 98) rfl rfl (by kernel_rfl) (by kernel_rfl) (by kernel_rfl) (fun _ _ _ h => h) (Or.inl ⟨by rfl, by intro W _; go_simp⟩) hS15 ?_
      simp only [Act.put, List.setIfInBounds_toArray, List.set_cons_zero, List.set_cons_succ]
      refine wpAnyH_takeD (i := 21) (v := .bool true) (some 99) rfl rfl (by kernel_rfl) (by kernel_rfl) (by kernel_rfl) (fun _ _ _ h => h) (Or.inl ⟨by rfl, by intro W _; go_simp⟩) hS15 ?_
      simp only [Act.put, List.setIfInBounds_toArray, List.set_cons_zero, List.set_cons_succ]
      refine wpAnyH_takeD (i := 22) (v := .agg #[.int .i64 m3, .slice ox hs.length px, .string b3]) (some 100) rfl rfl (by kernel_rfl) (by kernel_rfl) (by kernel_rfl) (fun _ _ _ h => h) (Or.inl ⟨by rfl, by intro W hW; obtain ⟨⟨s0, s1, s2⟩, ⟨s3, s4, s5⟩, ⟨s6, s7, s8⟩⟩ := hW; go_simp⟩) hS15 ?_
      simp only [Act.put, List.setIfInBounds_toArray, List.set_cons_zero, List.set_cons_succ]
      refine wpAnyH_ready (rs := [23]) (by kernel_rfl) (by simp) ?_
      refine AllReadyH.cons rfl (fun K hK => ?_) AllReadyH.nil
      go_simp
      refine (HOX.out _ _ _ (FieldsV.of_owns HOx_15.out)).mono ?_
      rintro e w16 ⟨rfl, b⟩
      have hb16 : Below w.heap.size w (w16) := hb15.trans (b.mono hb15.size)
      have HM16 : Hid ((w15).heap.size ≤ (w16).heap.size) := b.size
      have HOx_16 : Hid ((w16).ownsRow w.heap.size 67 2 (.slice ox hs.length px) hs.length (flatF hs)) := owns_below HOx_15.out b (fun g hg => owns_lt HOx_15.out hg)
      have HOy_16 : Hid ((w16).ownsRow w.heap.size 67 2 (.slice oy ks.length py) ks.length (flatF ks)) := owns_below HOy_15.out b (fun g hg => owns_lt HOy_15.out hg)
      have HOg_16 : Hid ((w16).ownsRow w.heap.size 67 2 (.slice og np pg) np (flatF P)) := owns_below HOg_15.out b (fun g hg => owns_lt HOg_15.out hg)
      have HOs_16 : Hid ((w16).ownsRow w.heap.size 67 2 (.slice os np ps) np (flatF P)) := owns_below HOs_15.out b (fun g hg => owns_lt HOs_15.out hg)
      have HBbx_16 : Hid ((w16).heap[qbx]? = some (.cells #[.int .i64 m3, .slice ox hs.length px, .string b3] 28)) := blk_below HBbx_15.out b
      have HBby_16 : Hid ((w16).heap[qby]? = some (.cells #[.int .i64 st4, .slice oy ks.length py, .string d4] 28)) := blk_below HBby_15.out b
      have HBbg_16 : Hid ((w16).heap[qbg]? = some (.cells #[.int .i64 m3, .slice og np pg, .string b3] 28)) := blk_below HBbg_15.out b
      have hS16 : (w16.cell? ⟨qbg, 0, none⟩ = some (.int .i64 m3) ∧ w16.cell? ⟨qbg, 1, none⟩ = some (.slice og np pg) ∧ w16.cell? ⟨qbg, 2, none⟩ = some (.string b3)) ∧ (w16.cell? ⟨qbx, 0, none⟩ = some (.int .i64 m3) ∧ w16.cell? ⟨qbx, 1, none⟩ = some (.slice ox hs.length px) ∧ w16.cell? ⟨qbx, 2, none⟩ = some (.string b3)) ∧ (w16.cell? ⟨qby, 0, none⟩ = some (.int .i64 st4) ∧ w16.cell? ⟨qby, 1, none⟩ = some (.slice oy ks.length py) ∧ w16.cell? ⟨qby, 2, none⟩ = some (.string d4)) := ⟨(three_facts HBbg_16.out).1, (three_facts HBbx_16.out).1, (three_facts HBby_16.out).1⟩
      refine hK.out _ _ hS16 (fun _ => ?_)
      clear hK K b hS15 hb15 HOx_15 HOy_15 HOg_15 HOs_15 HBbx_15 HBby_15 HBbg_15
      refine wpAnyH_takeD (i := 24) (v := .bool false) (some 102) rfl rfl (by kernel_rfl) (by kernel_rfl) (by kernel_rfl) (fun _ _ _ h => h) (Or.inl ⟨by rfl, by intro W _; go_simp⟩) hS16 ?_
      simp only [Act.put, List.setIfInBounds_toArray, List.set_cons_zero, List.set_cons_succ]
      refine wpAnyH_takeD (i := 25) (v := .bool false) (some 103) rfl rfl (by kernel_rfl) (by kernel_rfl) (by kernel_rfl) (fun _ _ _ h => h) (Or.inl ⟨by rfl, by intro W _; go_simp⟩) hS16 ?_
      simp only [Act.put, List.setIfInBounds_toArray, List.set_cons_zero, List.set_cons_succ]
      refine wpAnyH_takeD (i := 26) (v := .agg #[.int .i64 m3, .slice og np pg, .string b3]) (some 104) rfl rfl (by kernel_rfl) (by kernel_rfl) (by kernel_rfl) (fun _ _ _ h => h) (Or.inl ⟨by rfl, by intro W hW; obtain ⟨⟨s0, s1, s2⟩, ⟨s3, s4, s5⟩, ⟨s6, s7, s8⟩⟩ := hW; go_simp⟩) hS16 ?_
      simp only [Act.put, List.setIfInBounds_toArray, List.set_cons_zero, List.set_cons_succ]
      refine wpAnyH_ready (rs := [27]) (by kernel_rfl) (by simp) ?_
      refine AllReadyH.cons rfl (fun K hK => ?_) AllReadyH.nil
      go_simp
      refine (HOG.out _ _ _ (FieldsV.of_owns HOg_16.out)).mono ?_
      rintro e w17 ⟨rfl, b⟩
      have hb17 : Below w.heap.size w (w17) := hb16.trans (b.mono hb16.size)
      have HM17 : Hid ((w16).heap.size ≤ (w17).heap.size) := b.size
      have HOx_17 : Hid ((w17).ownsRow w.heap.size 67 2 (.slice ox hs.length px) hs.length (flatF hs)) := owns_below HOx_16.out b (fun g hg => owns_lt HOx_16.out hg)
      have HOy_17 : Hid ((w17).ownsRow w.heap.size 67 2 (.slice oy ks.length py) ks.length (flatF ks)) := owns_below HOy_16.out b (fun g hg => owns_lt HOy_16.out hg)
      have HOg_17 : Hid ((w17).ownsRow w.heap.size 67 2 (.slice og np pg) np (flatF P)) := owns_below HOg_16.out b (fun g hg => owns_lt HOg_16.out hg)
      have HOs_17 : Hid ((w17).ownsRow w.heap.size 67 2 (.slice os np ps) np (flatF P)) := owns_below HOs_16.out b (fun g hg => owns_lt HOs_16.out hg)
      have HBbx_17 : Hid ((w17).heap[qbx]? = some (.cells #[.int .i64 m3, .slice ox hs.length px, .string b3] 28)) := blk_below HBbx_16.out b
      have HBby_17 : Hid ((w17).heap[qby]? = some (.cells #[.int .i64 st4, .slice oy ks.length py, .string d4] 28)) := blk_below HBby_16.out b
      have HBbg_17 : Hid ((w17).heap[qbg]? = some (.cells #[.int .i64 m3, .slice og np pg, .string b3] 28)) := blk_below HBbg_16.out b
      have hS17 : (w17.cell? ⟨qbg, 0, none⟩ = some (.int .i64 m3) ∧ w17.cell? ⟨qbg, 1, none⟩ = some (.slice og np pg) ∧ w17.cell? ⟨qbg, 2, none⟩ = some (.string b3)) ∧ (w17.cell? ⟨qbx, 0, none⟩ = some (.int .i64 m3) ∧ w17.cell? ⟨qbx, 1, none⟩ = some (.slice ox hs.length px) ∧ w17.cell? ⟨qbx, 2, none⟩ = some (.string b3)) ∧ (w17.cell? ⟨qby, 0, none⟩ = some (.int .i64 st4) ∧ w17.cell? ⟨qby, 1, none⟩ = some (.slice oy ks.length py) ∧ w17.cell? ⟨qby, 2, none⟩ = some (.string d4)) := ⟨(three_facts HBbg_17.out).1, (three_facts HBbx_17.out).1, (three_facts HBby_17.out).1⟩
      refine hK.out _ _ hS17 (fun _ => ?_)
      clear hK K b hS16 hb16 HOx_16 HOy_16 HOg_16 HOs_16 HBbx_16 HBby_16 HBbg_16
      refine wpAnyH_takeD (i := 28) (v := .bool true) (some 106) rfl rfl (by kernel_rfl) (by kernel_rfl) (by kernel_rfl) (fun _ _ _ h => h) (Or.inl ⟨by rfl, by intro W _; go_simp⟩) hS17 ?_
      simp only [Act.put, List.setIfInBounds_toArray, List.set_cons_zero, List.set_cons_succ]
      refine wpAnyH_takeD (i := 29) (v := .bool true) (some 107) rfl rfl (by kernel_rfl) (by kernel_rfl) (by kernel_rfl) (fun _ _ _ h => h) (Or.inl ⟨by rfl, by intro W _; go_simp⟩) hS17 ?_
      simp only [Act.put, List.setIfInBounds_toArray, List.set_cons_zero, List.set_cons_succ]
      refine wpAnyH_takeD (i := 30) (v := .bool true) (some 2) rfl rfl (by kernel_rfl) (by kernel_rfl) (by kernel_rfl) (fun _ _ _ h => h) (Or.inl ⟨by rfl, by intro W _; go_simp⟩) hS17 ?_
      simp only [Act.put, List.setIfInBounds_toArray, List.set_cons_zero, List.set_cons_succ]
      clear hS17
      refine wpAnyH_done (by kernel_rfl) ?_ _
      go_wp2_with fail
      go_ret
      exact ⟨rfl, hb17⟩
    · have HOX : Hid (∀ (u0 : Value) (B0 : Nat) (W : World), FieldsV W B0 u0 hs.length hs → Calls Tryz.prog 10 #[.agg #[.int .i64 m3, u0, .string b3]] W fun e w' => e = .returned (.bool false) ∧ Below W.heap.size W w') := by
        intro u0 B0 W h0
        refine (implRespOk_any m3 u0 b3 hs.length B0 hs W h0 (by omega) (shortWalk hxsh) (by unfold maxLen; omega)).mono ?_
        rintro e w' ⟨t, rfl, ht, b⟩
        obtain rfl : t = false := by
          cases t
          · rfl
          · exact absurd (ht.1 rfl) hx
        exact ⟨rfl, b⟩
      clear hx HMR
      go_upto_region 12 with fail
      refine wp_region_held_drew (S := fun W => (W.cell? ⟨qbg, 0, none⟩ = some (.int .i64 m3) ∧ W.cell? ⟨qbg, 1, none⟩ = some (.slice og np pg) ∧ W.cell? ⟨qbg, 2, none⟩ = some (.string b3)) ∧ (W.cell? ⟨qbx, 0, none⟩ = some (.int .i64 m3) ∧ W.cell? ⟨qbx, 1, none⟩ = some (.slice ox hs.length px) ∧ W.cell? ⟨qbx, 2, none⟩ = some (.string b3)) ∧ (W.cell? ⟨qby, 0, none⟩ = some (.int .i64 st4) ∧ W.cell? ⟨qby, 1, none⟩ = some (.slice oy ks.length py) ∧ W.cell? ⟨qby, 2, none⟩ = some (.string d4))) (by kernel_rfl) ⟨(three_facts HBbg_11.out).1, (three_facts HBbx_11.out).1, (three_facts HBby_11.out).1⟩ (fun _ => ?_)
      obtain ⟨w12, hX⟩ : ∃ X, X = w11.drew := ⟨_, rfl⟩
      have b : Below w11.heap.size w11 w12 := by rw [hX]; exact (Below.refl _ _).drew
      rw [← hX]
      have hb12 : Below w.heap.size w (w12) := hb11.trans (b.mono hb11.size)
      have HM12 : Hid ((w11).heap.size ≤ (w12).heap.size) := b.size
      have HOx_12 : Hid ((w12).ownsRow w.heap.size 67 2 (.slice ox hs.length px) hs.length (flatF hs)) := owns_below HOx_11.out b (fun g hg => owns_lt HOx_11.out hg)
      have HOy_12 : Hid ((w12).ownsRow w.heap.size 67 2 (.slice oy ks.length py) ks.length (flatF ks)) := owns_below HOy_11.out b (fun g hg => owns_lt HOy_11.out hg)
      have HOg_12 : Hid ((w12).ownsRow w.heap.size 67 2 (.slice og np pg) np (flatF P)) := owns_below HOg_11.out b (fun g hg => owns_lt HOg_11.out hg)
      have HBbx_12 : Hid ((w12).heap[qbx]? = some (.cells #[.int .i64 m3, .slice ox hs.length px, .string b3] 28)) := blk_below HBbx_11.out b
      have HBby_12 : Hid ((w12).heap[qby]? = some (.cells #[.int .i64 st4, .slice oy ks.length py, .string d4] 28)) := blk_below HBby_11.out b
      have HBbg_12 : Hid ((w12).heap[qbg]? = some (.cells #[.int .i64 m3, .slice og np pg, .string b3] 28)) := blk_below HBbg_11.out b
      have hS12 : (w12.cell? ⟨qbg, 0, none⟩ = some (.int .i64 m3) ∧ w12.cell? ⟨qbg, 1, none⟩ = some (.slice og np pg) ∧ w12.cell? ⟨qbg, 2, none⟩ = some (.string b3)) ∧ (w12.cell? ⟨qbx, 0, none⟩ = some (.int .i64 m3) ∧ w12.cell? ⟨qbx, 1, none⟩ = some (.slice ox hs.length px) ∧ w12.cell? ⟨qbx, 2, none⟩ = some (.string b3)) ∧ (w12.cell? ⟨qby, 0, none⟩ = some (.int .i64 st4) ∧ w12.cell? ⟨qby, 1, none⟩ = some (.slice oy ks.length py) ∧ w12.cell? ⟨qby, 2, none⟩ = some (.string d4)) := ⟨(three_facts HBbg_12.out).1, (three_facts HBbx_12.out).1, (three_facts HBby_12.out).1⟩
      clear hb11 HOx_11 HOy_11 HOg_11 HBbx_11 HBby_11 HBbg_11 b hX
      refine wpAnyH_takeD (i := 0) (v := .agg #[.int .i64 m3, .slice og np pg, .string b3]) (some 78) rfl rfl (by kernel_rfl) (by kernel_rfl) (by kernel_rfl) (fun _ _ _ h => h) (Or.inl ⟨by rfl, by intro W hW; obtain ⟨⟨s0, s1, s2⟩, ⟨s3, s4, s5⟩, ⟨s6, s7, s8⟩⟩ := hW; go_simp⟩) hS12 ?_
      simp only [Act.put, List.setIfInBounds_toArray, List.set_cons_zero, List.set_cons_succ]
      refine wpAnyH_takeD (i := 2) (v := .agg #[.int .i64 m3, .slice ox hs.length px, .string b3]) (some 80) rfl rfl (by kernel_rfl) (by kernel_rfl) (by kernel_rfl) (fun _ _ _ h => h) (Or.inl ⟨by rfl, by intro W hW; obtain ⟨⟨s0, s1, s2⟩, ⟨s3, s4, s5⟩, ⟨s6, s7, s8⟩⟩ := hW; go_simp⟩) hS12 ?_
      simp only [Act.put, List.setIfInBounds_toArray, List.set_cons_zero, List.set_cons_succ]
      refine wpAnyH_takeD (i := 3) (v := .agg #[.int .i64 st4, .slice oy ks.length py, .string d4]) (some 81) rfl rfl (by kernel_rfl) (by kernel_rfl) (by kernel_rfl) (fun _ _ _ h => h) (Or.inl ⟨by rfl, by intro W hW; obtain ⟨⟨s0, s1, s2⟩, ⟨s3, s4, s5⟩, ⟨s6, s7, s8⟩⟩ := hW; go_simp⟩) hS12 ?_
      simp only [Act.put, List.setIfInBounds_toArray, List.set_cons_zero, List.set_cons_succ]
      refine wpAnyH_ready (rs := [1]) (by kernel_rfl) (by simp) ?_
      refine AllReadyH.cons rfl (fun K hK => ?_) AllReadyH.nil
      go_simp
      refine (HRT.out _ _ _ (FieldsV.of_owns HOg_12.out) (HT.out _ hb12)).mono ?_
      rintro e w13 ⟨rfl, b⟩
      have hb13 : Below w.heap.size w (w13) := hb12.trans (b.mono hb12.size)
      have HM13 : Hid ((w12).heap.size ≤ (w13).heap.size) := b.size
      have HOx_13 : Hid ((w13).ownsRow w.heap.size 67 2 (.slice ox hs.length px) hs.length (flatF hs)) := owns_below HOx_12.out b (fun g hg => owns_lt HOx_12.out hg)
      have HOy_13 : Hid ((w13).ownsRow w.heap.size 67 2 (.slice oy ks.length py) ks.length (flatF ks)) := owns_below HOy_12.out b (fun g hg => owns_lt HOy_12.out hg)
      have HOg_13 : Hid ((w13).ownsRow w.heap.size 67 2 (.slice og np pg) np (flatF P)) := owns_below HOg_12.out b (fun g hg => owns_lt HOg_12.out hg)
      have HBbx_13 : Hid ((w13).heap[qbx]? = some (.cells #[.int .i64 m3, .slice ox hs.length px, .string b3] 28)) := blk_below HBbx_12.out b
      have HBby_13 : Hid ((w13).heap[qby]? = some (.cells #[.int .i64 st4, .slice oy ks.length py, .string d4] 28)) := blk_below HBby_12.out b
      have HBbg_13 : Hid ((w13).heap[qbg]? = some (.cells #[.int .i64 m3, .slice og np pg, .string b3] 28)) := blk_below HBbg_12.out b
      have hS13 : (w13.cell? ⟨qbg, 0, none⟩ = some (.int .i64 m3) ∧ w13.cell? ⟨qbg, 1, none⟩ = some (.slice og np pg) ∧ w13.cell? ⟨qbg, 2, none⟩ = some (.string b3)) ∧ (w13.cell? ⟨qbx, 0, none⟩ = some (.int .i64 m3) ∧ w13.cell? ⟨qbx, 1, none⟩ = some (.slice ox hs.length px) ∧ w13.cell? ⟨qbx, 2, none⟩ = some (.string b3)) ∧ (w13.cell? ⟨qby, 0, none⟩ = some (.int .i64 st4) ∧ w13.cell? ⟨qby, 1, none⟩ = some (.slice oy ks.length py) ∧ w13.cell? ⟨qby, 2, none⟩ = some (.string d4)) := ⟨(three_facts HBbg_13.out).1, (three_facts HBbx_13.out).1, (three_facts HBby_13.out).1⟩
      refine hK.out _ _ hS13 (fun _ => ?_)
      clear hK K b hS12 hb12 HOx_12 HOy_12 HOg_12 HBbx_12 HBby_12 HBbg_12
      refine wpAnyH_ready (rs := [4]) (by kernel_rfl) (by simp) ?_
      refine AllReadyH.cons rfl (fun K hK => ?_) AllReadyH.nil
      go_simp
      refine (HSG.out _ _ _ _ _ (FieldsV.of_owns HOx_13.out) (FieldsV.of_owns HOy_13.out)).mono ?_
      rintro e w14 ⟨vs, rfl, owns, b⟩
      obtain ⟨os, ps, rfl⟩ := slice_of_owns owns
      have hb14 : Below w.heap.size w (w14) := hb13.trans (b.mono hb13.size)
      have HM14 : Hid ((w13).heap.size ≤ (w14).heap.size) := b.size
      have HOx_14 : Hid ((w14).ownsRow w.heap.size 67 2 (.slice ox hs.length px) hs.length (flatF hs)) := owns_below HOx_13.out b (fun g hg => owns_lt HOx_13.out hg)
      have HOy_14 : Hid ((w14).ownsRow w.heap.size 67 2 (.slice oy ks.length py) ks.length (flatF ks)) := owns_below HOy_13.out b (fun g hg => owns_lt HOy_13.out hg)
      have HOg_14 : Hid ((w14).ownsRow w.heap.size 67 2 (.slice og np pg) np (flatF P)) := owns_below HOg_13.out b (fun g hg => owns_lt HOg_13.out hg)
      have HBbx_14 : Hid ((w14).heap[qbx]? = some (.cells #[.int .i64 m3, .slice ox hs.length px, .string b3] 28)) := blk_below HBbx_13.out b
      have HBby_14 : Hid ((w14).heap[qby]? = some (.cells #[.int .i64 st4, .slice oy ks.length py, .string d4] 28)) := blk_below HBby_13.out b
      have HBbg_14 : Hid ((w14).heap[qbg]? = some (.cells #[.int .i64 m3, .slice og np pg, .string b3] 28)) := blk_below HBbg_13.out b
      have HOs_14 : Hid ((w14).ownsRow w.heap.size 67 2 (.slice os np ps) np (flatF P)) := owns_wide owns hb13.size
      have LOs : Hid (∀ g, (Value.ownBlock (.slice os np ps)) = some g → (w13).heap.size ≤ g) := fun g hg => owns_ge owns hg
      have HIs : Hid (∀ g, (Value.ownBlock (.slice os np ps)) = some g → g < (w14).heap.size) := fun g hg => owns_lt owns hg
      clear owns
      have hS14 : (w14.cell? ⟨qbg, 0, none⟩ = some (.int .i64 m3) ∧ w14.cell? ⟨qbg, 1, none⟩ = some (.slice og np pg) ∧ w14.cell? ⟨qbg, 2, none⟩ = some (.string b3)) ∧ (w14.cell? ⟨qbx, 0, none⟩ = some (.int .i64 m3) ∧ w14.cell? ⟨qbx, 1, none⟩ = some (.slice ox hs.length px) ∧ w14.cell? ⟨qbx, 2, none⟩ = some (.string b3)) ∧ (w14.cell? ⟨qby, 0, none⟩ = some (.int .i64 st4) ∧ w14.cell? ⟨qby, 1, none⟩ = some (.slice oy ks.length py) ∧ w14.cell? ⟨qby, 2, none⟩ = some (.string d4)) := ⟨(three_facts HBbg_14.out).1, (three_facts HBbx_14.out).1, (three_facts HBby_14.out).1⟩
      refine hK.out _ _ hS14 (fun _ => ?_)
      clear hK K b hS13 hb13 HOx_13 HOy_13 HOg_13 HBbx_13 HBby_13 HBbg_13
      refine wpAnyH_ready (rs := [5]) (by kernel_rfl) (by simp) ?_
      refine AllReadyH.cons rfl (fun K hK => ?_) AllReadyH.nil
      go_simp
      refine (HRT.out _ _ _ (FieldsV.of_owns HOs_14.out) (HT.out _ hb14)).mono ?_
      rintro e w15 ⟨rfl, b⟩
      have hb15 : Below w.heap.size w (w15) := hb14.trans (b.mono hb14.size)
      have HM15 : Hid ((w14).heap.size ≤ (w15).heap.size) := b.size
      have HOx_15 : Hid ((w15).ownsRow w.heap.size 67 2 (.slice ox hs.length px) hs.length (flatF hs)) := owns_below HOx_14.out b (fun g hg => owns_lt HOx_14.out hg)
      have HOy_15 : Hid ((w15).ownsRow w.heap.size 67 2 (.slice oy ks.length py) ks.length (flatF ks)) := owns_below HOy_14.out b (fun g hg => owns_lt HOy_14.out hg)
      have HOg_15 : Hid ((w15).ownsRow w.heap.size 67 2 (.slice og np pg) np (flatF P)) := owns_below HOg_14.out b (fun g hg => owns_lt HOg_14.out hg)
      have HOs_15 : Hid ((w15).ownsRow w.heap.size 67 2 (.slice os np ps) np (flatF P)) := owns_below HOs_14.out b (fun g hg => owns_lt HOs_14.out hg)
      have HBbx_15 : Hid ((w15).heap[qbx]? = some (.cells #[.int .i64 m3, .slice ox hs.length px, .string b3] 28)) := blk_below HBbx_14.out b
      have HBby_15 : Hid ((w15).heap[qby]? = some (.cells #[.int .i64 st4, .slice oy ks.length py, .string d4] 28)) := blk_below HBby_14.out b
      have HBbg_15 : Hid ((w15).heap[qbg]? = some (.cells #[.int .i64 m3, .slice og np pg, .string b3] 28)) := blk_below HBbg_14.out b
      have hS15 : (w15.cell? ⟨qbg, 0, none⟩ = some (.int .i64 m3) ∧ w15.cell? ⟨qbg, 1, none⟩ = some (.slice og np pg) ∧ w15.cell? ⟨qbg, 2, none⟩ = some (.string b3)) ∧ (w15.cell? ⟨qbx, 0, none⟩ = some (.int .i64 m3) ∧ w15.cell? ⟨qbx, 1, none⟩ = some (.slice ox hs.length px) ∧ w15.cell? ⟨qbx, 2, none⟩ = some (.string b3)) ∧ (w15.cell? ⟨qby, 0, none⟩ = some (.int .i64 st4) ∧ w15.cell? ⟨qby, 1, none⟩ = some (.slice oy ks.length py) ∧ w15.cell? ⟨qby, 2, none⟩ = some (.string d4)) := ⟨(three_facts HBbg_15.out).1, (three_facts HBbx_15.out).1, (three_facts HBby_15.out).1⟩
      refine hK.out _ _ hS15 (fun _ => ?_)
      clear hK K b hS14 hb14 HOx_14 HOy_14 HOg_14 HOs_14 HBbx_14 HBby_14 HBbg_14
      refine wpAnyH_takeD (i := 6) (v := .bool true) (some 84) rfl rfl (by kernel_rfl) (by kernel_rfl) (by kernel_rfl) (fun _ _ _ h => h) (Or.inl ⟨by rfl, by intro W _; go_simp⟩) hS15 ?_
      simp only [Act.put, List.setIfInBounds_toArray, List.set_cons_zero, List.set_cons_succ]
      refine wpAnyH_takeD (i := 7) (v := .bool true) (some 85) rfl rfl (by kernel_rfl) (by kernel_rfl) (by kernel_rfl) (fun _ _ _ h => h) (Or.inl ⟨by rfl, by intro W _; go_simp⟩) hS15 ?_
      simp only [Act.put, List.setIfInBounds_toArray, List.set_cons_zero, List.set_cons_succ]
      refine wpAnyH_takeD (i := 8) (v := .pointer (some ⟨qbg, 2, none⟩)) (some 86) rfl rfl (by kernel_rfl) (by kernel_rfl) (by kernel_rfl) (fun _ _ _ h => h) (Or.inl ⟨by rfl, by intro W _; go_simp⟩) hS15 ?_
      simp only [Act.put, List.setIfInBounds_toArray, List.set_cons_zero, List.set_cons_succ]
      refine wpAnyH_takeD (i := 9) (v := .string b3) (some 87) rfl rfl (by kernel_rfl) (by kernel_rfl) (by kernel_rfl) (fun _ _ _ h => h) (Or.inl ⟨by rfl, by intro W hW; obtain ⟨⟨s0, s1, s2⟩, ⟨s3, s4, s5⟩, ⟨s6, s7, s8⟩⟩ := hW; go_simp⟩) hS15 ?_
      simp only [Act.put, List.setIfInBounds_toArray, List.set_cons_zero, List.set_cons_succ]
      refine wpAnyH_takeD (i := 10) (v := .pointer (some ⟨qbx, 2, none⟩)) (some 88) rfl rfl (by kernel_rfl) (by kernel_rfl) (by kernel_rfl) (fun _ _ _ h => h) (Or.inl ⟨by rfl, by intro W _; go_simp⟩) hS15 ?_
      simp only [Act.put, List.setIfInBounds_toArray, List.set_cons_zero, List.set_cons_succ]
      refine wpAnyH_takeD (i := 11) (v := .string b3) (some 89) rfl rfl (by kernel_rfl) (by kernel_rfl) (by kernel_rfl) (fun _ _ _ h => h) (Or.inl ⟨by rfl, by intro W hW; obtain ⟨⟨s0, s1, s2⟩, ⟨s3, s4, s5⟩, ⟨s6, s7, s8⟩⟩ := hW; go_simp⟩) hS15 ?_
      simp only [Act.put, List.setIfInBounds_toArray, List.set_cons_zero, List.set_cons_succ]
      refine wpAnyH_takeD (i := 12) (v := .bool true) (some 90) rfl rfl (by kernel_rfl) (by kernel_rfl) (by kernel_rfl) (fun _ _ _ h => h) (Or.inl ⟨by rfl, by intro W _; go_simp⟩) hS15 ?_
      simp only [Act.put, List.setIfInBounds_toArray, List.set_cons_zero, List.set_cons_succ]
      refine wpAnyH_takeD (i := 13) (v := .bool true) (some 91) rfl rfl (by kernel_rfl) (by kernel_rfl) (by kernel_rfl) (fun _ _ _ h => h) (Or.inl ⟨by rfl, by intro W _; go_simp⟩) hS15 ?_
      simp only [Act.put, List.setIfInBounds_toArray, List.set_cons_zero, List.set_cons_succ]
      refine wpAnyH_takeD (i := 14) (v := .bool true) (some 92) rfl rfl (by kernel_rfl) (by kernel_rfl) (by kernel_rfl) (fun _ _ _ h => h) (Or.inl ⟨by rfl, by intro W _; go_simp⟩) hS15 ?_
      simp only [Act.put, List.setIfInBounds_toArray, List.set_cons_zero, List.set_cons_succ]
      refine wpAnyH_takeD (i := 15) (v := .pointer (some ⟨qbg, 0, none⟩)) (some 93) rfl rfl (by kernel_rfl) (by kernel_rfl) (by kernel_rfl) (fun _ _ _ h => h) (Or.inl ⟨by rfl, by intro W _; go_simp⟩) hS15 ?_
      simp only [Act.put, List.setIfInBounds_toArray, List.set_cons_zero, List.set_cons_succ]
      refine wpAnyH_takeD (i := 16) (v := .int .i64 m3) (some 94) rfl rfl (by kernel_rfl) (by kernel_rfl) (by kernel_rfl) (fun _ _ _ h => h) (Or.inl ⟨by rfl, by intro W hW; obtain ⟨⟨s0, s1, s2⟩, ⟨s3, s4, s5⟩, ⟨s6, s7, s8⟩⟩ := hW; go_simp⟩) hS15 ?_
      simp only [Act.put, List.setIfInBounds_toArray, List.set_cons_zero, List.set_cons_succ]
      refine wpAnyH_takeD (i := 17) (v := .pointer (some ⟨qbx, 0, none⟩)) (some 95) rfl rfl (by kernel_rfl) (by kernel_rfl) (by kernel_rfl) (fun _ _ _ h => h) (Or.inl ⟨by rfl, by intro W _; go_simp⟩) hS15 ?_
      simp only [Act.put, List.setIfInBounds_toArray, List.set_cons_zero, List.set_cons_succ]
      refine wpAnyH_takeD (i := 18) (v := .int .i64 m3) (some 96) rfl rfl (by kernel_rfl) (by kernel_rfl) (by kernel_rfl) (fun _ _ _ h => h) (Or.inl ⟨by rfl, by intro W hW; obtain ⟨⟨s0, s1, s2⟩, ⟨s3, s4, s5⟩, ⟨s6, s7, s8⟩⟩ := hW; go_simp⟩) hS15 ?_
      simp only [Act.put, List.setIfInBounds_toArray, List.set_cons_zero, List.set_cons_succ]
      refine wpAnyH_takeD (i := 19) (v := .bool true) (some 97) rfl rfl (by kernel_rfl) (by kernel_rfl) (by kernel_rfl) (fun _ _ _ h => h) (Or.inl ⟨by rfl, by intro W _; go_simp⟩) hS15 ?_
      simp only [Act.put, List.setIfInBounds_toArray, List.set_cons_zero, List.set_cons_succ]
      refine wpAnyH_takeD (i := 20) (v := .bool true) (some 98) rfl rfl (by kernel_rfl) (by kernel_rfl) (by kernel_rfl) (fun _ _ _ h => h) (Or.inl ⟨by rfl, by intro W _; go_simp⟩) hS15 ?_
      simp only [Act.put, List.setIfInBounds_toArray, List.set_cons_zero, List.set_cons_succ]
      refine wpAnyH_takeD (i := 21) (v := .bool true) (some 99) rfl rfl (by kernel_rfl) (by kernel_rfl) (by kernel_rfl) (fun _ _ _ h => h) (Or.inl ⟨by rfl, by intro W _; go_simp⟩) hS15 ?_
      simp only [Act.put, List.setIfInBounds_toArray, List.set_cons_zero, List.set_cons_succ]
      refine wpAnyH_takeD (i := 22) (v := .agg #[.int .i64 m3, .slice ox hs.length px, .string b3]) (some 100) rfl rfl (by kernel_rfl) (by kernel_rfl) (by kernel_rfl) (fun _ _ _ h => h) (Or.inl ⟨by rfl, by intro W hW; obtain ⟨⟨s0, s1, s2⟩, ⟨s3, s4, s5⟩, ⟨s6, s7, s8⟩⟩ := hW; go_simp⟩) hS15 ?_
      simp only [Act.put, List.setIfInBounds_toArray, List.set_cons_zero, List.set_cons_succ]
      refine wpAnyH_ready (rs := [23]) (by kernel_rfl) (by simp) ?_
      refine AllReadyH.cons rfl (fun K hK => ?_) AllReadyH.nil
      go_simp
      refine (HOX.out _ _ _ (FieldsV.of_owns HOx_15.out)).mono ?_
      rintro e w16 ⟨rfl, b⟩
      have hb16 : Below w.heap.size w (w16) := hb15.trans (b.mono hb15.size)
      have HM16 : Hid ((w15).heap.size ≤ (w16).heap.size) := b.size
      have HOx_16 : Hid ((w16).ownsRow w.heap.size 67 2 (.slice ox hs.length px) hs.length (flatF hs)) := owns_below HOx_15.out b (fun g hg => owns_lt HOx_15.out hg)
      have HOy_16 : Hid ((w16).ownsRow w.heap.size 67 2 (.slice oy ks.length py) ks.length (flatF ks)) := owns_below HOy_15.out b (fun g hg => owns_lt HOy_15.out hg)
      have HOg_16 : Hid ((w16).ownsRow w.heap.size 67 2 (.slice og np pg) np (flatF P)) := owns_below HOg_15.out b (fun g hg => owns_lt HOg_15.out hg)
      have HOs_16 : Hid ((w16).ownsRow w.heap.size 67 2 (.slice os np ps) np (flatF P)) := owns_below HOs_15.out b (fun g hg => owns_lt HOs_15.out hg)
      have HBbx_16 : Hid ((w16).heap[qbx]? = some (.cells #[.int .i64 m3, .slice ox hs.length px, .string b3] 28)) := blk_below HBbx_15.out b
      have HBby_16 : Hid ((w16).heap[qby]? = some (.cells #[.int .i64 st4, .slice oy ks.length py, .string d4] 28)) := blk_below HBby_15.out b
      have HBbg_16 : Hid ((w16).heap[qbg]? = some (.cells #[.int .i64 m3, .slice og np pg, .string b3] 28)) := blk_below HBbg_15.out b
      have hS16 : (w16.cell? ⟨qbg, 0, none⟩ = some (.int .i64 m3) ∧ w16.cell? ⟨qbg, 1, none⟩ = some (.slice og np pg) ∧ w16.cell? ⟨qbg, 2, none⟩ = some (.string b3)) ∧ (w16.cell? ⟨qbx, 0, none⟩ = some (.int .i64 m3) ∧ w16.cell? ⟨qbx, 1, none⟩ = some (.slice ox hs.length px) ∧ w16.cell? ⟨qbx, 2, none⟩ = some (.string b3)) ∧ (w16.cell? ⟨qby, 0, none⟩ = some (.int .i64 st4) ∧ w16.cell? ⟨qby, 1, none⟩ = some (.slice oy ks.length py) ∧ w16.cell? ⟨qby, 2, none⟩ = some (.string d4)) := ⟨(three_facts HBbg_16.out).1, (three_facts HBbx_16.out).1, (three_facts HBby_16.out).1⟩
      refine hK.out _ _ hS16 (fun _ => ?_)
      clear hK K b hS15 hb15 HOx_15 HOy_15 HOg_15 HOs_15 HBbx_15 HBby_15 HBbg_15
      refine wpAnyH_takeD (i := 24) (v := .bool true) (some 102) rfl rfl (by kernel_rfl) (by kernel_rfl) (by kernel_rfl) (fun _ _ _ h => h) (Or.inl ⟨by rfl, by intro W _; go_simp⟩) hS16 ?_
      simp only [Act.put, List.setIfInBounds_toArray, List.set_cons_zero, List.set_cons_succ]
      refine wpAnyH_takeD (i := 25) (v := .bool true) (some 103) rfl rfl (by kernel_rfl) (by kernel_rfl) (by kernel_rfl) (fun _ _ _ h => h) (Or.inl ⟨by rfl, by intro W _; go_simp⟩) hS16 ?_
      simp only [Act.put, List.setIfInBounds_toArray, List.set_cons_zero, List.set_cons_succ]
      refine wpAnyH_takeD (i := 26) (v := undef) (some 104) rfl rfl (by kernel_rfl) (by kernel_rfl) (by kernel_rfl) (fun _ _ _ h => h) (Or.inr ⟨by rfl, rfl⟩) hS16 ?_
      simp only [Act.put, List.setIfInBounds_toArray, List.set_cons_zero, List.set_cons_succ]
      refine wpAnyH_takeD (i := 27) (v := undef) (some 105) rfl rfl (by kernel_rfl) (by kernel_rfl) (by kernel_rfl) (fun _ _ _ h => h) (Or.inr ⟨by rfl, rfl⟩) hS16 ?_
      simp only [Act.put, List.setIfInBounds_toArray, List.set_cons_zero, List.set_cons_succ]
      refine wpAnyH_takeD (i := 28) (v := .bool true) (some 106) rfl rfl (by kernel_rfl) (by kernel_rfl) (by kernel_rfl) (fun _ _ _ h => h) (Or.inl ⟨by rfl, by intro W _; go_simp⟩) hS16 ?_
      simp only [Act.put, List.setIfInBounds_toArray, List.set_cons_zero, List.set_cons_succ]
      refine wpAnyH_takeD (i := 29) (v := .bool true) (some 107) rfl rfl (by kernel_rfl) (by kernel_rfl) (by kernel_rfl) (fun _ _ _ h => h) (Or.inl ⟨by rfl, by intro W _; go_simp⟩) hS16 ?_
      simp only [Act.put, List.setIfInBounds_toArray, List.set_cons_zero, List.set_cons_succ]
      refine wpAnyH_takeD (i := 30) (v := .bool true) (some 2) rfl rfl (by kernel_rfl) (by kernel_rfl) (by kernel_rfl) (fun _ _ _ h => h) (Or.inl ⟨by rfl, by intro W _; go_simp⟩) hS16 ?_
      simp only [Act.put, List.setIfInBounds_toArray, List.set_cons_zero, List.set_cons_succ]
      clear hS16
      refine wpAnyH_done (by kernel_rfl) ?_ _
      go_wp2_with fail
      go_ret
      exact ⟨rfl, hb16⟩

set_option maxRecDepth 100000 in
theorem contract (H : Type) (enc : TypeId × Value → H) (W : World) (base : Nat) (args : Array Value) (ds gs : List (DataW H)) (before : List MemPlace)
    (hval : ∀ (j : Nat) t v, Tryz.f3.params[j]? = some t → args[j]? = some v → Value.okWide Tryz.prog W .any base t v)
    (hW : DataW.Whole enc Tryz.prog Tryz.f3.params.toList Rows.fnMayKeepSpec.vars false W args.toList ds gs before) (hL : laidMetH Tryz.prog Rows.fnMayKeepRow.laid W) (_ : W.ShapedOpen Tryz.prog) :
    Calls Tryz.prog 3 args W fun e W' => ∃ v, e = .returned v ∧ Rows.fnMayKeepSpec.post enc Tryz.prog Tryz.f3 false true false false W args v W' := by
  have hT : TabOk W := table hL
  have hW' := hW
  obtain ⟨p, q, hA0, hV, rfl, hfz, hnd⟩ := hW
  have hA : DataW.TrodAll enc Tryz.prog W 0 (fun _ => true) true Tryz.f3.params.toList args.toList ds p := hA0
  rw [Tryz.params3] at hA hval
  obtain ⟨v0, vs0, d0, ds0, p0, q0, hargs, rfl, rfl, h0, r0⟩ := trodAll_cons hA
  obtain ⟨rfl, rfl, rfl⟩ := trodAll_nil r0
  obtain rfl : args = #[v0] := by cases args; simp_all
  obtain ⟨rfl, rfl⟩ := trodVars_none hV
  obtain ⟨a0, len0, cap0, rfl⟩ := okWide_slice Tryz.underlying22 (hval 0 22 v0 rfl rfl)
  have k0 := h0
  have lt0 : ∀ x ∈ p0, x.block < W.heap.size := by obtain ⟨m, hm⟩ := k0; exact DataW.trod_lt m _ _ _ hm
  obtain ⟨z0, w0⟩ : ∃ zs, IsRow .u8 W a0 len0 cap0 zs := by
    obtain ⟨fuel, hf⟩ := h0
    rcases open_ints Tryz.underlying22 Tryz.underlying5 (by kernel_rfl) hf with ⟨hcs, _⟩ | ⟨x, l, c, zs, hcs, _, hl, hm, hz, _, hcell, hwz⟩
    · simp [Value.cells] at hcs
      obtain ⟨rfl, rfl, rfl⟩ := hcs
      exact ⟨[], .inl ⟨rfl, rfl, rfl, rfl⟩⟩
    · simp [Value.cells] at hcs
      obtain ⟨rfl, rfl, rfl⟩ := hcs
      exact ⟨zs, .inr ⟨_, rfl, hl, hm, by simpa using hz, hcell, hwz⟩⟩
  clear hA0
  refine (walk1 W a0 len0 cap0 z0 w0 hT).mono fun e W' ⟨he, bel⟩ => ?_
  subst he
  exact ⟨_, rfl, _, _, _, [], _, [], hW', trodAll_mk1 (shut_bool Tryz.underlying4 _), (trodAll_cons_mk (Below.trod laidOut (by kernel_rfl) (of_decide_eq_true (by kernel_rfl)) k0 bel lt0) trodAll_mk0), rfl, bel.frame _, fun h => by cases h⟩

theorem laid_met (os : Os) : laidMet Tryz.prog Rows.fnMayKeepRow.laid ((withTables (World.holding Tryz.prog os ⟨#[], #[], []⟩)).forCall (fun _ _ => 0) ⟨#[], #[.slice none 0 0], []⟩).memory :=
  laidMet_of_run' 80 (by kernel_rfl) (by kernel_rfl)
theorem reads (os : Os) {H : Type} (enc : TypeId × Value → H) : ∃ places, DataW.whole enc Tryz.prog ((withTables (World.holding Tryz.prog os ⟨#[], #[], []⟩)).forCall (fun _ _ => 0) ⟨#[], #[.slice none 0 0], []⟩).memory Tryz.f3.params.toList Rows.fnMayKeepSpec.vars false #[(.slice none 0 0 : Value)].toList 8 = some ([.nil], [], places) :=
  ⟨[], by kernel_rfl⟩

set_option maxRecDepth 100000 in
theorem lifted (os : Os) (started : os.Started) (H : Type) (enc : TypeId × Value → H) (F : Stop.Interp) :
    ReturnsInHanded {} Tryz.checked os 3 .any ((OpenSpec.ofChange Rows.fnMayKeepSpec).preRow enc Tryz.prog Tryz.f3 Rows.fnMayKeepRow.domain false Rows.fnMayKeepRow.laid) (((OpenSpec.ofChange Rows.fnMayKeepSpec).at F).post enc Tryz.prog Tryz.f3 false true false false) := by
  obtain ⟨places, hx⟩ := reads os enc
  refine returnsInHanded_of_row (C := Tryz.checked) (s := OpenSpec.ofChange Rows.fnMayKeepSpec) own started (by kernel_rfl) Tryz.func3
    (witness_row_at (enc := enc) (C := Tryz.checked) false (withTables (World.holding Tryz.prog os ⟨#[], #[], []⟩)) #[.slice none 0 0] rfl (by kernel_rfl) (by kernel_rfl) (by kernel_rfl)
      (OpenSpec.preRow_of_cond 8 hx (by kernel_rfl) (fun k hk => by cases hk) (by kernel_rfl) (laid_met os))) ?_
  intro W base args ds gs before hval hW _ _ _ hL hSh _
  exact contract H enc W base args ds gs before hval hW hL hSh

theorem said : Rows.FnMayKeepSaid :=
  OpenClaim.holds_of_cond 3 Tryz.f3 rfl rfl rfl rfl rfl rfl rfl ⟨rfl, rfl, rfl, rfl, rfl⟩ rfl rfl rfl rfl rfl (by kernel_rfl) Tryz.func3 (by kernel_rfl)
    (of_decide_eq_true (by kernel_rfl)) (by unfold Func.isWrapper; first | (rw [if_pos (by decide +kernel)]; kernel_rfl) | (rw [if_neg (by decide +kernel)]; exact ⟨rfl, rfl⟩))
    (fun os started H enc _ F => by rw [OpenClaim.pre_eq_preRow]; exact lifted os started H enc F)

theorem plain (f : FuncId) (fn : Func) (hf : Tryz.pinned.checked.prog.funcNamed "loop.example/g00239/laws.FnMayKeep" = some f) (hfn : Tryz.pinned.checked.prog.funcs[f]? = some fn) :
    false = Tryz.pinned.checked.prog.looks [] ∧ ∀ (j : Nat) t, fn.params[j]? = some t → Tryz.pinned.checked.prog.wantsStandIn t = false := by
  obtain rfl : f = 3 := Option.some.inj ((show Tryz.prog.funcNamed "loop.example/g00239/laws.FnMayKeep" = some 3 by kernel_rfl).symm.trans hf) |>.symm
  obtain rfl : fn = Tryz.f3 := (Option.some.inj (Tryz.func3.symm.trans hfn)).symm
  refine ⟨by kernel_rfl, fun j t ht => ?_⟩
  rw [Tryz.params3] at ht
  obtain rfl : t = 22 := by simpa using Array.mem_of_getElem? ht
  exact (show Tryz.prog.wantsStandIn 22 = false by kernel_rfl)

theorem card : Rows.FnMayKeepCardSaid :=
  Claim7.holds_tied_plain_at .later [] _ _ _ _ said (fun _ h => by cases h) (by kernel_rfl) (fun _ h => by cases h) fnMayKeep_row_tie rfl ⟨rfl, rfl⟩ (by kernel_rfl) rfl plain (by kernel_rfl)
end fnMayKeep

theorem fnMayKeep_holds : Rows.FnMayKeepCardSaid := fnMayKeep.card
#print axioms fnMayKeep_holds
end Go.Proofs.YthlmnmbhgkmbfaaGreatDoor
