/- What the proof of FnDiskPut leans on: contracts of the program's and the specification's functions, and plain facts (part 5 of 5). -/
import Derived.Test.YtckjbgpdbehmaaaFnDiskPutD
namespace Go.Proofs.Ytckjbgpdbehmaaa
open Go.RowKit
open Go.Lib hiding intOf

/-- What is known while a disk is drawn: the cursor, the result's block, the disk's own block, its lists. -/
structure DrSt (w : World) (c : Nat) (a : Option Addr) (len cap : Nat) (q qd : Nat) (v1 v2 : Value) (cs : List ByteArray) (ws : List (Int × ByteArray)) (W : World) : Prop where
  g : w.grownBy W (some c)
  cu : CurAt W c a len cap
  r : W.heap[q]? = some (.cells #[.slice none 0 0, .slice none 0 0] 27)
  d : W.heap[qd]? = some (.cells #[v1, v2] 27)
  o1 : W.ownsRow w.heap.size 9 1 v1 20 (cs.map Value.string)
  o2 : W.ownsRow w.heap.size 67 2 v2 ws.length (flatWrite ws)
theorem grown_blk {W W' : World} {c q : Nat} {cs : Array Value} {t : TypeId} {a : Option Addr} {len cap : Nat} (hcu : CurAt W c a len cap) (ht : 87 ≠ t) (h : W.heap[q]? = some (.cells cs t)) (hg : W.grownBy W' (some c)) : W'.heap[q]? = some (.cells cs t) := by
  have hlt := (Array.getElem?_eq_some_iff.1 h).1
  obtain ⟨i, x, _, hh⟩ := hcu
  rw [hg.block q hlt (fun e => by
    have e2 := Option.some.inj e
    subst e2
    rw [hh] at h
    exact ht (by injection h with h; injection h))]
  exact h
theorem DrSt.below {w W W' : World} {c : Nat} {a : Option Addr} {len cap q qd : Nat} {v1 v2 : Value} {cs : List ByteArray} {ws : List (Int × ByteArray)} (h : DrSt w c a len cap q qd v1 v2 cs ws W) (b : Below W.heap.size W W') : DrSt w c a len cap q qd v1 v2 cs ws W' :=
  ⟨grown_then h.g (grown_below b _), h.cu.below b h.cu.lt, blk_below h.r b, blk_below h.d b, owns_below h.o1 b (fun _ hg => owns_lt h.o1 hg), owns_below h.o2 b (fun _ hg => owns_lt h.o2 hg)⟩
theorem DrSt.drawn {w W W' : World} {c : Nat} {a : Option Addr} {len cap q qd : Nat} {v1 v2 : Value} {cs : List ByteArray} {ws : List (Int × ByteArray)} (h : DrSt w c a len cap q qd v1 v2 cs ws W) (hg : W.grownBy W' (some c)) (hc : CurAt W' c a len cap) : DrSt w c a len cap q qd v1 v2 cs ws W' :=
  ⟨grown_then h.g hg, hc, grown_blk h.cu (by decide) h.r hg, grown_blk h.cu (by decide) h.d hg,
    owns_same h.o1 (fun j hj => hg.block j (owns_lt h.o1 hj) (fun e => own_cur h.o1 h.cu (by decide) j hj (Option.some.inj e))),
    owns_same h.o2 (fun j hj => hg.block j (owns_lt h.o2 hj) (fun e => own_cur h.o2 h.cu (by decide) j hj (Option.some.inj e)))⟩
/-- A disk is drawn; the cursor alone was turned. -/
def DrawnD (w : World) (c : Nat) (a : Option Addr) (len cap : Nat) (e : Ending) (w' : World) : Prop :=
  ∃ v1 v2 cs ws, e = .returned (.agg #[v1, v2]) ∧ AnyD w' w.heap.size v1 v2 cs ws ∧ CurAt w' c a len cap ∧ w.grownBy w' (some c)
theorem shutDraw {fn : Func} {w W : World} {q c : Nat} {ac : Act} {p : Tmp} {x0 x1 v1 v2 : Value} {a : Option Addr} {len cap : Nat} {cs : List ByteArray} {ws : List (Int × ByteArray)} (hr : fn.results = #[.cell p 27]) (hp : ac.tmps.getD p undef = .pointer (some ⟨q, 0, none⟩)) (hd : ac.defers = []) (hC : W.heap[q]? = some (.cells #[x0, x1] 27)) (hA : AnyD W w.heap.size v1 v2 cs ws) (hcu : CurAt W c a len cap) (hg : w.grownBy W (some c)) (hq : w.heap.size ≤ q) (hqc : q ≠ c) :
    bodyPost Try.prog fn (fun e w' => DrawnD w c a len cap e w') .ret ac ((W.setCell ⟨q, 0, none⟩ v1).setCell ⟨q, 1, none⟩ v2) := by
  have h1 : ((W.setCell ⟨q, 0, none⟩ v1).setCell ⟨q, 1, none⟩ v2).heap[q]? = some (.cells #[v1, v2] 27) := heap_setCell_same _ _ _ _ _ _ (heap_setCell_same _ _ _ _ _ _ hC)
  exact bodyPost_ret (v := .agg #[v1, v2]) (results_cell_row hr _ _ q 27 _ (0, 0) _ hp h1 Try.underlying27 rfl (by kernel_rfl)) hd ⟨_, _, cs, ws, rfl, hA.set hC, cur_set (cur_set hcu hqc _ _) hqc _ _, grown_own (grown_own hg hq _ _) hq _ _⟩
/-- The same behind an append to the second list. -/
structure AfterD (w : World) (c : Nat) (a : Option Addr) (len cap : Nat) (q qd : Nat) (v1 v2 : Value) (cs : List ByteArray) (W : World) : Prop where
  g : w.grownBy W (some c)
  cu : CurAt W c a len cap
  r : W.heap[q]? = some (.cells #[.slice none 0 0, .slice none 0 0] 27)
  d : W.heap[qd]? = some (.cells #[v1, v2] 27)
  o1 : W.ownsRow w.heap.size 9 1 v1 20 (cs.map Value.string)
theorem own_own {W : World} {b1 b2 z1 z2 n1 n2 : Nat} {t1 t2 : TypeId} {v1 v2 : Value} {l1 l2 : List Value} (h1 : W.ownsRow b1 t1 z1 v1 n1 l1) (h2 : W.ownsRow b2 t2 z2 v2 n2 l2) (ht : t1 ≠ t2) (j : Nat) (e1 : v1.ownBlock = some j) (e2 : v2.ownBlock = some j) : False := by
  rcases h1.2 with ⟨rfl, _⟩ | ⟨g, cp, cur, rfl, _, hg, _⟩
  · cases e1
  · have eg : g = j := Option.some.inj e1
    subst eg
    exact own_ne h2 hg ht g e2 rfl
theorem after_app {w W W' : World} {c : Nat} {a : Option Addr} {len cap q qd : Nat} {v1 v2 : Value} {cs : List ByteArray} {ws : List (Int × ByteArray)} (h : DrSt w c a len cap q qd v1 v2 cs ws W) (hg : W.grownBy W' v2.ownBlock) : AfterD w c a len cap q qd v1 v2 cs W' := by
  have hlo : ∀ g, v2.ownBlock = some g → w.heap.size ≤ g := fun g e => owns_ge h.o2 e
  refine ⟨grown_row h.g hg hlo, h.cu.grown hg (fun e => own_cur h.o2 h.cu (by decide) c e rfl), ?_, ?_, ?_⟩
  · rw [hg.block q (Array.getElem?_eq_some_iff.1 h.r).1 (fun e => own_ne h.o2 h.r (by decide) q e.symm rfl)]; exact h.r
  · rw [hg.block qd (Array.getElem?_eq_some_iff.1 h.d).1 (fun e => own_ne h.o2 h.d (by decide) qd e.symm rfl)]; exact h.d
  · exact owns_same h.o1 (fun j hj => hg.block j (owns_lt h.o1 hj) (fun e => own_own h.o1 h.o2 (by decide) j hj e.symm))
theorem right_sizes {cs : List ByteArray} {ws : List (Int × ByteArray)} (h : RightD cs ws) : (∀ i, i < 20 → (textAt cs i).size ≤ 1048576) ∧ ∀ x ∈ ws, (x.2).size ≤ 1048576 := by
  refine ⟨fun i hi => ?_, fun x hx => Nat.le_trans (h.2.2 x hx) (by decide)⟩
  have hm : textAt cs i ∈ cs := by
    have := getElem_textAt cs i (by rw [h.1.1]; exact hi)
    exact List.mem_of_getElem? this
  exact Nat.le_trans (h.2.1 _ hm) (by decide)

set_option maxHeartbeats 8000000 in
set_option maxRecDepth 100000 in
theorem l12Draw_any (c B : Nat) (a : Option Addr) (len cap : Nat) (zs : List Int) (w : World) (hcur : CurAt w c a len cap) (hcode : CodeAt w B a len zs) (hB : B ≤ c) :
    Calls Try.prog 38 #[.pointer (some ⟨c, 0, none⟩)] w fun e w' => DrawnD w c a len cap e w' := by
  obtain ⟨i0, hi, hz0, hz1, hz2⟩ := info_parts infoWrite
  have HCO : Hid (∀ W, w.grownBy W (some c) → CodeAt W B a len zs) := fun W h => hcode.grown h hB
  have HBC : Hid (B ≤ c) := hB
  have HCL : Hid (c < w.heap.size) := hcur.lt
  have HCU : Hid (CurAt w c a len cap) := hcur
  clear hcode hB hcur
  go_enter Try.func38, Try.ntmps38
  go_wp2_with fail
  have hb1 : Below w.heap.size w (w.alloc (.cells #[.slice none 0 0, .slice none 0 0] 27)) := (Below.refl _ _).alloc (Nat.le_refl _) _
  refine (l12DrawRight_any c B a len cap zs _ (HCU.out.below hb1 HCL.out) (HCO.out _ (grown_below hb1 _)) HBC.out).mono ?_
  rintro e w2 ⟨v1, v2, cs, ws, rfl, hd, hr, hcu, hg⟩
  have hc20 : cs.length = 20 := hr.1.1
  rw [hc20] at hd
  obtain ⟨o1, c1, rfl⟩ := slice_of_owns hd.cells
  obtain ⟨o2, c2, rfl⟩ := slice_of_owns hd.pend
  obtain ⟨g, rfl⟩ := owns_some hd.cells (by omega)
  have hst : DrSt w c a len cap w.heap.size w2.heap.size (.slice (some ⟨g, 0, none⟩) 20 c1) (.slice o2 ws.length c2) cs ws (w2.alloc (.cells #[.slice (some ⟨g, 0, none⟩) 20 c1, .slice o2 ws.length c2] 27)) := by
    have hs : w.heap.size ≤ (w.alloc (.cells #[.slice none 0 0, .slice none 0 0] 27)).heap.size := hb1.size
    have hq := grown_blk (HCU.out.below hb1 HCL.out) (by decide) (heap_alloc_new w _) hg
    have h0 : w.grownBy w2 (some c) := grown_then (grown_below hb1 _) hg
    have hb2 : Below w2.heap.size w2 (w2.alloc (.cells #[.slice (some ⟨g, 0, none⟩) 20 c1, .slice o2 ws.length c2] 27)) := (Below.refl _ _).alloc (Nat.le_refl _) _
    exact ⟨grown_then h0 (grown_below hb2 _), hcu.below hb2 hcu.lt, blk_below hq hb2, heap_alloc_new _ _, owns_below (owns_wide hd.cells hs) hb2 (fun g hg => owns_lt hd.cells hg), owns_below (owns_wide hd.pend hs) hb2 (fun g hg => owns_lt hd.pend hg)⟩
  have HST : Hid (DrSt w c a len cap w.heap.size w2.heap.size (.slice (some ⟨g, 0, none⟩) 20 c1) (.slice o2 ws.length c2) cs ws (w2.alloc (.cells #[.slice (some ⟨g, 0, none⟩) 20 c1, .slice o2 ws.length c2] 27))) := hst
  have HR : Hid (RightD cs ws) := hr
  have HQD : Hid (w.heap.size ≤ w2.heap.size) := Nat.le_trans hb1.size hg.size
  have HQL : Hid (w.heap.size < w2.heap.size) := Nat.lt_of_lt_of_le (by simp) hg.size
  clear hst hd hr hcu hg hc20 hb1
  go_wp2_with fail
  refine (l1Below_any c B 15 a len cap zs _ HST.out.cu (HCO.out _ HST.out.g) HBC.out (by decide) (by decide)).mono ?_
  rintro e w3 ⟨n, rfl, hn0, hn1, hcu3, hg3⟩
  have ST : Hid (DrSt w c a len cap w.heap.size w2.heap.size (.slice (some ⟨g, 0, none⟩) 20 c1) (.slice o2 ws.length c2) cs ws w3) := HST.out.drawn hg3 hcu3
  clear HST hcu3 hg3
  have HCAP : Hid (20 ≤ c1) := own_cap ST.out.o1
  obtain ⟨q, hq⟩ : ∃ q, q = w.heap.size := ⟨_, rfl⟩
  obtain ⟨qd, hqd⟩ : ∃ qd, qd = w2.heap.size := ⟨_, rfl⟩
  have HQ : Hid (w.heap.size ≤ q ∧ q ≠ c ∧ w.heap.size ≤ qd ∧ qd ≠ c) := by
    have h1 := HCL.out
    have h2 := HQD.out
    exact ⟨by omega, by omega, by omega, by omega⟩
  have HNE : Hid (q ≠ qd) := fun e => by have h1 := HQL.out; omega
  rw [← hq, ← hqd] at ST
  rw [← hq, ← hqd]
  clear hq hqd HQD HQL
  by_cases h0 : n = 0
  · subst h0
    have hc1 : ¬ c1 = 1 := by have := HCAP.out; omega
    have k0 := (cell_of ST.out.d 0).trans rfl
    have k1 := (cell_of ST.out.d 1).trans rfl
    have k2 := frozen_of ST.out.d 0
    have k3 := frozen_of ST.out.d 1
    have k4 := (cell_of ST.out.r 0).trans rfl
    have k5 := (cell_of ST.out.r 1).trans rfl
    have k6 := frozen_of ST.out.r 0
    have k7 := frozen_of ST.out.r 1
    go_upto_region 9 with fail
    obtain ⟨w4, hw4⟩ : ∃ W, W = w3.setCell ⟨qd, 0, none⟩ (.slice (some ⟨g, 1, none⟩) 19 (c1 - 1)) := ⟨_, rfl⟩
    rw [← hw4]
    have hR4 : w4.heap[q]? = some (.cells #[.slice none 0 0, .slice none 0 0] 27) := by rw [hw4, heap_setCell_other _ _ _ _ HNE.out]; exact ST.out.r
    have hD4 : w4.heap[qd]? = some (.cells #[.slice (some ⟨g, 1, none⟩) 19 (c1 - 1), .slice o2 ws.length c2] 27) := by rw [hw4]; exact heap_setCell_same _ _ _ _ _ _ ST.out.d
    have HA4 : Hid (AnyD w4 w.heap.size (.slice (some ⟨g, 1, none⟩) 19 (c1 - 1)) (.slice o2 ws.length c2) [] ws) := by
      refine ⟨?_, Nat.le_trans HR.out.1.2.1 (by decide), (right_sizes HR.out).2, .inr ⟨rfl, _, _, _, by decide, rfl⟩⟩
      rw [hw4]
      exact owns_same ST.out.o2 (fun j hj => heap_setCell_other _ _ j _ (own_ne ST.out.o2 ST.out.d (by decide) j hj))
    have HCU4 : Hid (CurAt w4 c a len cap) := by rw [hw4]; exact cur_set ST.out.cu HQ.out.2.2.2 _ _
    have HG4 : Hid (w.grownBy w4 (some c)) := by rw [hw4]; exact grown_own ST.out.g HQ.out.2.2.1 _ _
    clear hw4 k0 k1 k2 k3 k4 k5 k6 k7
    have HR4 : Hid (w4.heap[q]? = some (.cells #[.slice none 0 0, .slice none 0 0] 27)) := hR4
    have k0 := (cell_of hD4 0).trans rfl
    have k1 := (cell_of hD4 1).trans rfl
    have k2 := (cell_of hR4 0).trans rfl
    have k3 := (cell_of hR4 1).trans rfl
    have k4 := frozen_of hR4 0
    have k5 := frozen_of hR4 1
    clear hD4 hR4
    go_wp2_with fail
    refine shutDraw Try.results38 ?_ ?_ HR4.out HA4.out HCU4.out HG4.out HQ.out.1 HQ.out.2.1 <;> rfl
  · by_cases h1 : n = 1
    · subst h1
      go_upto_region 6 with fail
      refine wp_region_held_drew (S := fun _ => True) (by kernel_rfl) trivial (fun _ => ?_)
      obtain ⟨x0, hx0⟩ : ∃ X, X = w3.drew := ⟨_, rfl⟩
      have STX0 : Hid (DrSt w c a len cap q qd (.slice (some ⟨g, 0, none⟩) 20 c1) (.slice o2 ws.length c2) cs ws x0) := by rw [hx0]; exact ST.out.below (Below.refl _ _).drew
      rw [← hx0]
      clear hx0 ST
      refine wpAnyH_takeD (i := 0) (v := .pointer (some ⟨qd, 1, none⟩)) (some 16) rfl rfl (by kernel_rfl) (by kernel_rfl) (by kernel_rfl) (fun _ _ _ h => h) (Or.inl ⟨by rfl, by intro W _; go_simp⟩) trivial ?_
      simp only [Act.put, List.setIfInBounds_toArray, List.set_cons_zero, List.set_cons_succ]
      refine wpAnyH_takeD (i := 2) (v := .pointer (some ⟨c, 0, none⟩)) (some 18) rfl rfl (by kernel_rfl) (by kernel_rfl) (by kernel_rfl) (fun _ _ _ h => h) (Or.inl ⟨by rfl, by intro W _; go_simp⟩) trivial ?_
      simp only [Act.put, List.setIfInBounds_toArray, List.set_cons_zero, List.set_cons_succ]
      refine wpAnyH_ready (rs := [1, 3]) (by kernel_rfl) (by simp) ?_
      refine AllReadyH.cons rfl (fun K hK => ?_) (AllReadyH.cons rfl (fun K hK => ?_) AllReadyH.nil)
      · have y0 := (cell_of STX0.out.d 1).trans rfl
        go_simp
        refine hK.out _ _ trivial (fun _ => ?_)
        clear hK K
        clear y0
        refine wpAnyH_ready (rs := [3]) (by kernel_rfl) (by simp) ?_
        refine AllReadyH.cons rfl (fun K hK => ?_) AllReadyH.nil
        go_simp
        obtain ⟨b1, hb1⟩ : ∃ b, b = x0.heap.size := ⟨_, rfl⟩
        obtain ⟨x1, hx1⟩ : ∃ X, X = x0.alloc (.cells #[.int .i64 (-1), .int .i64 19, .int .i64 20] 3) := ⟨_, rfl⟩
        have STX1 : Hid (DrSt w c a len cap q qd (.slice (some ⟨g, 0, none⟩) 20 c1) (.slice o2 ws.length c2) cs ws x1) := by rw [hx1]; exact STX0.out.below ((Below.refl _ _).alloc (Nat.le_refl _) _)
        have HB1 : Hid (x1.heap[b1]? = some (.cells #[.int .i64 (-1), .int .i64 19, .int .i64 20] 3)) := by rw [hx1, hb1]; exact heap_alloc_new _ _
        have HN1 : Hid (b1 ≠ c) := by have := STX0.out.cu.lt; rw [Hid]; omega
        rw [← hx1, ← hb1]
        refine hK.out _ _ trivial (fun _ => ?_)
        clear hK K
        clear hx1 hb1 STX0
        refine wpAnyH_ready (rs := [4]) (by kernel_rfl) (by simp) ?_
        refine AllReadyH.cons rfl (fun K hK => ?_) AllReadyH.nil
        go_simp
        refine (ccPickInt_any c B b1 3 (fun j => ([-1, 19, 20] : List Int).getD j 0) a len cap zs _ STX1.out.cu (HCO.out _ STX1.out.g) HBC.out (by decide) (by decide) (fun j hj => by
          match j, hj with
          | 0, _ => exact (cell_of HB1.out 0).trans rfl
          | 1, _ => exact (cell_of HB1.out 1).trans rfl
          | 2, _ => exact (cell_of HB1.out 2).trans rfl) HN1.out).mono ?_
        rintro e x2 ⟨jx, hjx, rfl, hcu2, hg2⟩
        obtain ⟨y, hy⟩ : ∃ y, y = ([-1, 19, 20] : List Int).getD jx 0 := ⟨_, rfl⟩
        rw [← hy]
        have STX2 : Hid (DrSt w c a len cap q qd (.slice (some ⟨g, 0, none⟩) 20 c1) (.slice o2 ws.length c2) cs ws x2) := STX1.out.drawn hg2 hcu2
        clear hy hcu2 hg2 hjx
        refine hK.out _ _ trivial (fun _ => ?_)
        clear hK K
        clear STX1 HB1 HN1
        refine wpAnyH_takeD (i := 5) (v := .agg #[.int .i64 y, .string ⟨#[]⟩]) (some 21) rfl rfl (by kernel_rfl) (by kernel_rfl) (by kernel_rfl) (fun _ _ _ h => h) (Or.inl ⟨by rfl, by intro W _; go_simp⟩) trivial ?_
        simp only [Act.put, List.setIfInBounds_toArray, List.set_cons_zero, List.set_cons_succ]
        refine wpAnyH_ready (rs := [6]) (by kernel_rfl) (by simp) ?_
        refine AllReadyH.cons rfl (fun K hK => ?_) AllReadyH.nil
        go_simp
        obtain ⟨b3, hb3⟩ : ∃ b, b = x2.heap.size := ⟨_, rfl⟩
        obtain ⟨x3, hx3⟩ : ∃ X, X = x2.alloc (.cells #[.int .i64 y, .string ⟨#[]⟩] 67) := ⟨_, rfl⟩
        have STX3 : Hid (DrSt w c a len cap q qd (.slice (some ⟨g, 0, none⟩) 20 c1) (.slice o2 ws.length c2) cs ws x3) := by rw [hx3]; exact STX2.out.below ((Below.refl _ _).alloc (Nat.le_refl _) _)
        have HB3 : Hid (x3.heap[b3]? = some (.cells #[.int .i64 y, .string ⟨#[]⟩] 67)) := by rw [hx3, hb3]; exact heap_alloc_new _ _
        rw [← hx3, ← hb3]
        refine hK.out _ _ trivial (fun _ => ?_)
        clear hK K
        clear hx3 hb3 STX2
        refine wpAnyH_ready (rs := [7]) (by kernel_rfl) (by simp) ?_
        refine AllReadyH.cons rfl (fun K hK => ?_) AllReadyH.nil
        refine step_append_lies _ (by rfl) _ _ _ (by rfl) w.heap.size 67 i0 (.agg #[.int .i64 0, .string ⟨#[]⟩]) 2 24 Try.underlying25 hi hz0 hz1 hz2 rfl (by omega) (.slice o2 ws.length c2) ws.length (flatWrite ws) (by rfl) STX3.out.o2 ⟨b3, 0, none⟩ 1 1 [.int .i64 y, .string ⟨#[]⟩] (by rfl) (by rfl) (World.news_of_block HB3.out) (two_ones y ⟨#[]⟩) (by omega) (by have := HR.out.1.2.1; unfold maxLen; omega) (by have := HR.out.1.2.1; omega) STX3.out.g.size _ rfl ?_
        intro g4 cap4 x4 hown4 hgrow4 _ _
        have ST4 : Hid (AfterD w c a len cap q qd (.slice (some ⟨g, 0, none⟩) 20 c1) (.slice o2 ws.length c2) cs x4) := after_app STX3.out hgrow4
        have HO4 : Hid (x4.ownsRow w.heap.size 67 2 (.slice (some ⟨g4, 0, none⟩) (ws.length + 1) cap4) (ws.length + 1) (flatWrite (ws ++ [(y, ⟨#[]⟩)]))) := by rw [flatWrite_append, flatWrite_one]; exact hown4
        clear hown4 hgrow4
        simp only [Act.put, List.setIfInBounds_toArray]
        refine hK.out _ _ trivial (fun _ => ?_)
        clear hK K
        clear STX3 HB3
        refine wpAnyH_takeD (i := 8) (v := .pointer (some ⟨qd, 1, none⟩)) (some 24) rfl rfl (by kernel_rfl) (by kernel_rfl) (by kernel_rfl) (fun _ _ _ h => h) (Or.inl ⟨by rfl, by intro W _; go_simp⟩) trivial ?_
        simp only [Act.put]
        refine wpAnyH_ready (rs := [9]) (by kernel_rfl) (by simp) ?_
        refine AllReadyH.cons rfl (fun K hK => ?_) AllReadyH.nil
        have y0 := (cell_of ST4.out.d 1).trans rfl
        have y1 := frozen_of ST4.out.d 1
        go_simp
        obtain ⟨x5, hx5⟩ : ∃ X, X = x4.setCell ⟨qd, 1, none⟩ (.slice (some ⟨g4, 0, none⟩) (ws.length + 1) cap4) := ⟨_, rfl⟩
        rw [← hx5]
        refine hK.out _ _ trivial (fun _ => ?_)
        clear hK K
        clear y0 y1
        have hR4 : x5.heap[q]? = some (.cells #[.slice none 0 0, .slice none 0 0] 27) := by rw [hx5, heap_setCell_other _ _ _ _ HNE.out]; exact ST4.out.r
        have hD4 : x5.heap[qd]? = some (.cells #[.slice (some ⟨g, 0, none⟩) 20 c1, .slice (some ⟨g4, 0, none⟩) (ws.length + 1) cap4] 27) := by rw [hx5]; exact heap_setCell_same _ _ _ _ _ _ ST4.out.d
        have HA4 : Hid (AnyD x5 w.heap.size (.slice (some ⟨g, 0, none⟩) 20 c1) (.slice (some ⟨g4, 0, none⟩) (ws.length + 1) cap4) cs (ws ++ [(y, ⟨#[]⟩)])) := by
          refine ⟨?_, by rw [List.length_append]; exact Nat.succ_le_succ HR.out.1.2.1, fun x hx => ?_, .inl ⟨HR.out.1.1, ?_, (right_sizes HR.out).1⟩⟩
          · rw [hx5, List.length_append]
            exact owns_same HO4.out (fun j hj => heap_setCell_other _ _ j _ (own_ne HO4.out ST4.out.d (by decide) j hj))
          · rcases List.mem_append.1 hx with h | h
            · exact (right_sizes HR.out).2 x h
            · rw [List.mem_singleton.1 h]; exact Nat.zero_le _
          · rw [hx5]
            exact owns_same ST4.out.o1 (fun j hj => heap_setCell_other _ _ j _ (own_ne ST4.out.o1 ST4.out.d (by decide) j hj))
        have HCU4 : Hid (CurAt x5 c a len cap) := by rw [hx5]; exact cur_set ST4.out.cu HQ.out.2.2.2 _ _
        have HG4 : Hid (w.grownBy x5 (some c)) := by rw [hx5]; exact grown_own ST4.out.g HQ.out.2.2.1 _ _
        clear hx5 ST4 HO4
        refine wpAnyH_done (by kernel_rfl) ?_ _
        have HR4 : Hid (x5.heap[q]? = some (.cells #[.slice none 0 0, .slice none 0 0] 27)) := hR4
        have k0 := (cell_of hD4 0).trans rfl
        have k1 := (cell_of hD4 1).trans rfl
        have k2 := (cell_of hR4 0).trans rfl
        have k3 := (cell_of hR4 1).trans rfl
        have k4 := frozen_of hR4 0
        have k5 := frozen_of hR4 1
        clear hD4 hR4
        go_wp2_with fail
        refine shutDraw Try.results38 ?_ ?_ HR4.out HA4.out HCU4.out HG4.out HQ.out.1 HQ.out.2.1 <;> rfl
      · go_simp
        obtain ⟨b1, hb1⟩ : ∃ b, b = x0.heap.size := ⟨_, rfl⟩
        obtain ⟨x1, hx1⟩ : ∃ X, X = x0.alloc (.cells #[.int .i64 (-1), .int .i64 19, .int .i64 20] 3) := ⟨_, rfl⟩
        have STX1 : Hid (DrSt w c a len cap q qd (.slice (some ⟨g, 0, none⟩) 20 c1) (.slice o2 ws.length c2) cs ws x1) := by rw [hx1]; exact STX0.out.below ((Below.refl _ _).alloc (Nat.le_refl _) _)
        have HB1 : Hid (x1.heap[b1]? = some (.cells #[.int .i64 (-1), .int .i64 19, .int .i64 20] 3)) := by rw [hx1, hb1]; exact heap_alloc_new _ _
        have HN1 : Hid (b1 ≠ c) := by have := STX0.out.cu.lt; rw [Hid]; omega
        rw [← hx1, ← hb1]
        refine hK.out _ _ trivial (fun _ => ?_)
        clear hK K
        clear hx1 hb1 STX0
        refine wpAnyH_ready (rs := [1, 4]) (by kernel_rfl) (by simp) ?_
        refine AllReadyH.cons rfl (fun K hK => ?_) (AllReadyH.cons rfl (fun K hK => ?_) AllReadyH.nil)
        · have y0 := (cell_of STX1.out.d 1).trans rfl
          go_simp
          refine hK.out _ _ trivial (fun _ => ?_)
          clear hK K
          clear y0
          refine wpAnyH_ready (rs := [4]) (by kernel_rfl) (by simp) ?_
          refine AllReadyH.cons rfl (fun K hK => ?_) AllReadyH.nil
          go_simp
          refine (ccPickInt_any c B b1 3 (fun j => ([-1, 19, 20] : List Int).getD j 0) a len cap zs _ STX1.out.cu (HCO.out _ STX1.out.g) HBC.out (by decide) (by decide) (fun j hj => by
            match j, hj with
            | 0, _ => exact (cell_of HB1.out 0).trans rfl
            | 1, _ => exact (cell_of HB1.out 1).trans rfl
            | 2, _ => exact (cell_of HB1.out 2).trans rfl) HN1.out).mono ?_
          rintro e x2 ⟨jx, hjx, rfl, hcu2, hg2⟩
          obtain ⟨y, hy⟩ : ∃ y, y = ([-1, 19, 20] : List Int).getD jx 0 := ⟨_, rfl⟩
          rw [← hy]
          have STX2 : Hid (DrSt w c a len cap q qd (.slice (some ⟨g, 0, none⟩) 20 c1) (.slice o2 ws.length c2) cs ws x2) := STX1.out.drawn hg2 hcu2
          clear hy hcu2 hg2 hjx
          refine hK.out _ _ trivial (fun _ => ?_)
          clear hK K
          clear STX1 HB1 HN1
          refine wpAnyH_takeD (i := 5) (v := .agg #[.int .i64 y, .string ⟨#[]⟩]) (some 21) rfl rfl (by kernel_rfl) (by kernel_rfl) (by kernel_rfl) (fun _ _ _ h => h) (Or.inl ⟨by rfl, by intro W _; go_simp⟩) trivial ?_
          simp only [Act.put, List.setIfInBounds_toArray, List.set_cons_zero, List.set_cons_succ]
          refine wpAnyH_ready (rs := [6]) (by kernel_rfl) (by simp) ?_
          refine AllReadyH.cons rfl (fun K hK => ?_) AllReadyH.nil
          go_simp
          obtain ⟨b3, hb3⟩ : ∃ b, b = x2.heap.size := ⟨_, rfl⟩
          obtain ⟨x3, hx3⟩ : ∃ X, X = x2.alloc (.cells #[.int .i64 y, .string ⟨#[]⟩] 67) := ⟨_, rfl⟩
          have STX3 : Hid (DrSt w c a len cap q qd (.slice (some ⟨g, 0, none⟩) 20 c1) (.slice o2 ws.length c2) cs ws x3) := by rw [hx3]; exact STX2.out.below ((Below.refl _ _).alloc (Nat.le_refl _) _)
          have HB3 : Hid (x3.heap[b3]? = some (.cells #[.int .i64 y, .string ⟨#[]⟩] 67)) := by rw [hx3, hb3]; exact heap_alloc_new _ _
          rw [← hx3, ← hb3]
          refine hK.out _ _ trivial (fun _ => ?_)
          clear hK K
          clear hx3 hb3 STX2
          refine wpAnyH_ready (rs := [7]) (by kernel_rfl) (by simp) ?_
          refine AllReadyH.cons rfl (fun K hK => ?_) AllReadyH.nil
          refine step_append_lies _ (by rfl) _ _ _ (by rfl) w.heap.size 67 i0 (.agg #[.int .i64 0, .string ⟨#[]⟩]) 2 24 Try.underlying25 hi hz0 hz1 hz2 rfl (by omega) (.slice o2 ws.length c2) ws.length (flatWrite ws) (by rfl) STX3.out.o2 ⟨b3, 0, none⟩ 1 1 [.int .i64 y, .string ⟨#[]⟩] (by rfl) (by rfl) (World.news_of_block HB3.out) (two_ones y ⟨#[]⟩) (by omega) (by have := HR.out.1.2.1; unfold maxLen; omega) (by have := HR.out.1.2.1; omega) STX3.out.g.size _ rfl ?_
          intro g4 cap4 x4 hown4 hgrow4 _ _
          have ST4 : Hid (AfterD w c a len cap q qd (.slice (some ⟨g, 0, none⟩) 20 c1) (.slice o2 ws.length c2) cs x4) := after_app STX3.out hgrow4
          have HO4 : Hid (x4.ownsRow w.heap.size 67 2 (.slice (some ⟨g4, 0, none⟩) (ws.length + 1) cap4) (ws.length + 1) (flatWrite (ws ++ [(y, ⟨#[]⟩)]))) := by rw [flatWrite_append, flatWrite_one]; exact hown4
          clear hown4 hgrow4
          simp only [Act.put, List.setIfInBounds_toArray]
          refine hK.out _ _ trivial (fun _ => ?_)
          clear hK K
          clear STX3 HB3
          refine wpAnyH_takeD (i := 8) (v := .pointer (some ⟨qd, 1, none⟩)) (some 24) rfl rfl (by kernel_rfl) (by kernel_rfl) (by kernel_rfl) (fun _ _ _ h => h) (Or.inl ⟨by rfl, by intro W _; go_simp⟩) trivial ?_
          simp only [Act.put]
          refine wpAnyH_ready (rs := [9]) (by kernel_rfl) (by simp) ?_
          refine AllReadyH.cons rfl (fun K hK => ?_) AllReadyH.nil
          have y0 := (cell_of ST4.out.d 1).trans rfl
          have y1 := frozen_of ST4.out.d 1
          go_simp
          obtain ⟨x5, hx5⟩ : ∃ X, X = x4.setCell ⟨qd, 1, none⟩ (.slice (some ⟨g4, 0, none⟩) (ws.length + 1) cap4) := ⟨_, rfl⟩
          rw [← hx5]
          refine hK.out _ _ trivial (fun _ => ?_)
          clear hK K
          clear y0 y1
          have hR4 : x5.heap[q]? = some (.cells #[.slice none 0 0, .slice none 0 0] 27) := by rw [hx5, heap_setCell_other _ _ _ _ HNE.out]; exact ST4.out.r
          have hD4 : x5.heap[qd]? = some (.cells #[.slice (some ⟨g, 0, none⟩) 20 c1, .slice (some ⟨g4, 0, none⟩) (ws.length + 1) cap4] 27) := by rw [hx5]; exact heap_setCell_same _ _ _ _ _ _ ST4.out.d
          have HA4 : Hid (AnyD x5 w.heap.size (.slice (some ⟨g, 0, none⟩) 20 c1) (.slice (some ⟨g4, 0, none⟩) (ws.length + 1) cap4) cs (ws ++ [(y, ⟨#[]⟩)])) := by
            refine ⟨?_, by rw [List.length_append]; exact Nat.succ_le_succ HR.out.1.2.1, fun x hx => ?_, .inl ⟨HR.out.1.1, ?_, (right_sizes HR.out).1⟩⟩
            · rw [hx5, List.length_append]
              exact owns_same HO4.out (fun j hj => heap_setCell_other _ _ j _ (own_ne HO4.out ST4.out.d (by decide) j hj))
            · rcases List.mem_append.1 hx with h | h
              · exact (right_sizes HR.out).2 x h
              · rw [List.mem_singleton.1 h]; exact Nat.zero_le _
            · rw [hx5]
              exact owns_same ST4.out.o1 (fun j hj => heap_setCell_other _ _ j _ (own_ne ST4.out.o1 ST4.out.d (by decide) j hj))
          have HCU4 : Hid (CurAt x5 c a len cap) := by rw [hx5]; exact cur_set ST4.out.cu HQ.out.2.2.2 _ _
          have HG4 : Hid (w.grownBy x5 (some c)) := by rw [hx5]; exact grown_own ST4.out.g HQ.out.2.2.1 _ _
          clear hx5 ST4 HO4
          refine wpAnyH_done (by kernel_rfl) ?_ _
          have HR4 : Hid (x5.heap[q]? = some (.cells #[.slice none 0 0, .slice none 0 0] 27)) := hR4
          have k0 := (cell_of hD4 0).trans rfl
          have k1 := (cell_of hD4 1).trans rfl
          have k2 := (cell_of hR4 0).trans rfl
          have k3 := (cell_of hR4 1).trans rfl
          have k4 := frozen_of hR4 0
          have k5 := frozen_of hR4 1
          clear hD4 hR4
          go_wp2_with fail
          refine shutDraw Try.results38 ?_ ?_ HR4.out HA4.out HCU4.out HG4.out HQ.out.1 HQ.out.2.1 <;> rfl
        · go_simp
          refine (ccPickInt_any c B b1 3 (fun j => ([-1, 19, 20] : List Int).getD j 0) a len cap zs _ STX1.out.cu (HCO.out _ STX1.out.g) HBC.out (by decide) (by decide) (fun j hj => by
            match j, hj with
            | 0, _ => exact (cell_of HB1.out 0).trans rfl
            | 1, _ => exact (cell_of HB1.out 1).trans rfl
            | 2, _ => exact (cell_of HB1.out 2).trans rfl) HN1.out).mono ?_
          rintro e x2 ⟨jx, hjx, rfl, hcu2, hg2⟩
          obtain ⟨y, hy⟩ : ∃ y, y = ([-1, 19, 20] : List Int).getD jx 0 := ⟨_, rfl⟩
          rw [← hy]
          have STX2 : Hid (DrSt w c a len cap q qd (.slice (some ⟨g, 0, none⟩) 20 c1) (.slice o2 ws.length c2) cs ws x2) := STX1.out.drawn hg2 hcu2
          clear hy hcu2 hg2 hjx
          refine hK.out _ _ trivial (fun _ => ?_)
          clear hK K
          clear STX1 HB1 HN1
          refine wpAnyH_takeD (i := 5) (v := .agg #[.int .i64 y, .string ⟨#[]⟩]) (some 21) rfl rfl (by kernel_rfl) (by kernel_rfl) (by kernel_rfl) (fun _ _ _ h => h) (Or.inl ⟨by rfl, by intro W _; go_simp⟩) trivial ?_
          simp only [Act.put, List.setIfInBounds_toArray, List.set_cons_zero, List.set_cons_succ]
          refine wpAnyH_ready (rs := [1, 6]) (by kernel_rfl) (by simp) ?_
          refine AllReadyH.cons rfl (fun K hK => ?_) (AllReadyH.cons rfl (fun K hK => ?_) AllReadyH.nil)
          · have y0 := (cell_of STX2.out.d 1).trans rfl
            go_simp
            refine hK.out _ _ trivial (fun _ => ?_)
            clear hK K
            clear y0
            refine wpAnyH_ready (rs := [6]) (by kernel_rfl) (by simp) ?_
            refine AllReadyH.cons rfl (fun K hK => ?_) AllReadyH.nil
            go_simp
            obtain ⟨b3, hb3⟩ : ∃ b, b = x2.heap.size := ⟨_, rfl⟩
            obtain ⟨x3, hx3⟩ : ∃ X, X = x2.alloc (.cells #[.int .i64 y, .string ⟨#[]⟩] 67) := ⟨_, rfl⟩
            have STX3 : Hid (DrSt w c a len cap q qd (.slice (some ⟨g, 0, none⟩) 20 c1) (.slice o2 ws.length c2) cs ws x3) := by rw [hx3]; exact STX2.out.below ((Below.refl _ _).alloc (Nat.le_refl _) _)
            have HB3 : Hid (x3.heap[b3]? = some (.cells #[.int .i64 y, .string ⟨#[]⟩] 67)) := by rw [hx3, hb3]; exact heap_alloc_new _ _
            rw [← hx3, ← hb3]
            refine hK.out _ _ trivial (fun _ => ?_)
            clear hK K
            clear hx3 hb3 STX2
            refine wpAnyH_ready (rs := [7]) (by kernel_rfl) (by simp) ?_
            refine AllReadyH.cons rfl (fun K hK => ?_) AllReadyH.nil
            refine step_append_lies _ (by rfl) _ _ _ (by rfl) w.heap.size 67 i0 (.agg #[.int .i64 0, .string ⟨#[]⟩]) 2 24 Try.underlying25 hi hz0 hz1 hz2 rfl (by omega) (.slice o2 ws.length c2) ws.length (flatWrite ws) (by rfl) STX3.out.o2 ⟨b3, 0, none⟩ 1 1 [.int .i64 y, .string ⟨#[]⟩] (by rfl) (by rfl) (World.news_of_block HB3.out) (two_ones y ⟨#[]⟩) (by omega) (by have := HR.out.1.2.1; unfold maxLen; omega) (by have := HR.out.1.2.1; omega) STX3.out.g.size _ rfl ?_
            intro g4 cap4 x4 hown4 hgrow4 _ _
            have ST4 : Hid (AfterD w c a len cap q qd (.slice (some ⟨g, 0, none⟩) 20 c1) (.slice o2 ws.length c2) cs x4) := after_app STX3.out hgrow4
            have HO4 : Hid (x4.ownsRow w.heap.size 67 2 (.slice (some ⟨g4, 0, none⟩) (ws.length + 1) cap4) (ws.length + 1) (flatWrite (ws ++ [(y, ⟨#[]⟩)]))) := by rw [flatWrite_append, flatWrite_one]; exact hown4
            clear hown4 hgrow4
            simp only [Act.put, List.setIfInBounds_toArray]
            refine hK.out _ _ trivial (fun _ => ?_)
            clear hK K
            clear STX3 HB3
            refine wpAnyH_takeD (i := 8) (v := .pointer (some ⟨qd, 1, none⟩)) (some 24) rfl rfl (by kernel_rfl) (by kernel_rfl) (by kernel_rfl) (fun _ _ _ h => h) (Or.inl ⟨by rfl, by intro W _; go_simp⟩) trivial ?_
            simp only [Act.put]
            refine wpAnyH_ready (rs := [9]) (by kernel_rfl) (by simp) ?_
            refine AllReadyH.cons rfl (fun K hK => ?_) AllReadyH.nil
            have y0 := (cell_of ST4.out.d 1).trans rfl
            have y1 := frozen_of ST4.out.d 1
            go_simp
            obtain ⟨x5, hx5⟩ : ∃ X, X = x4.setCell ⟨qd, 1, none⟩ (.slice (some ⟨g4, 0, none⟩) (ws.length + 1) cap4) := ⟨_, rfl⟩
            rw [← hx5]
            refine hK.out _ _ trivial (fun _ => ?_)
            clear hK K
            clear y0 y1
            have hR4 : x5.heap[q]? = some (.cells #[.slice none 0 0, .slice none 0 0] 27) := by rw [hx5, heap_setCell_other _ _ _ _ HNE.out]; exact ST4.out.r
            have hD4 : x5.heap[qd]? = some (.cells #[.slice (some ⟨g, 0, none⟩) 20 c1, .slice (some ⟨g4, 0, none⟩) (ws.length + 1) cap4] 27) := by rw [hx5]; exact heap_setCell_same _ _ _ _ _ _ ST4.out.d
            have HA4 : Hid (AnyD x5 w.heap.size (.slice (some ⟨g, 0, none⟩) 20 c1) (.slice (some ⟨g4, 0, none⟩) (ws.length + 1) cap4) cs (ws ++ [(y, ⟨#[]⟩)])) := by
              refine ⟨?_, by rw [List.length_append]; exact Nat.succ_le_succ HR.out.1.2.1, fun x hx => ?_, .inl ⟨HR.out.1.1, ?_, (right_sizes HR.out).1⟩⟩
              · rw [hx5, List.length_append]
                exact owns_same HO4.out (fun j hj => heap_setCell_other _ _ j _ (own_ne HO4.out ST4.out.d (by decide) j hj))
              · rcases List.mem_append.1 hx with h | h
                · exact (right_sizes HR.out).2 x h
                · rw [List.mem_singleton.1 h]; exact Nat.zero_le _
              · rw [hx5]
                exact owns_same ST4.out.o1 (fun j hj => heap_setCell_other _ _ j _ (own_ne ST4.out.o1 ST4.out.d (by decide) j hj))
            have HCU4 : Hid (CurAt x5 c a len cap) := by rw [hx5]; exact cur_set ST4.out.cu HQ.out.2.2.2 _ _
            have HG4 : Hid (w.grownBy x5 (some c)) := by rw [hx5]; exact grown_own ST4.out.g HQ.out.2.2.1 _ _
            clear hx5 ST4 HO4
            refine wpAnyH_done (by kernel_rfl) ?_ _
            have HR4 : Hid (x5.heap[q]? = some (.cells #[.slice none 0 0, .slice none 0 0] 27)) := hR4
            have k0 := (cell_of hD4 0).trans rfl
            have k1 := (cell_of hD4 1).trans rfl
            have k2 := (cell_of hR4 0).trans rfl
            have k3 := (cell_of hR4 1).trans rfl
            have k4 := frozen_of hR4 0
            have k5 := frozen_of hR4 1
            clear hD4 hR4
            go_wp2_with fail
            refine shutDraw Try.results38 ?_ ?_ HR4.out HA4.out HCU4.out HG4.out HQ.out.1 HQ.out.2.1 <;> rfl
          · go_simp
            obtain ⟨b3, hb3⟩ : ∃ b, b = x2.heap.size := ⟨_, rfl⟩
            obtain ⟨x3, hx3⟩ : ∃ X, X = x2.alloc (.cells #[.int .i64 y, .string ⟨#[]⟩] 67) := ⟨_, rfl⟩
            have STX3 : Hid (DrSt w c a len cap q qd (.slice (some ⟨g, 0, none⟩) 20 c1) (.slice o2 ws.length c2) cs ws x3) := by rw [hx3]; exact STX2.out.below ((Below.refl _ _).alloc (Nat.le_refl _) _)
            have HB3 : Hid (x3.heap[b3]? = some (.cells #[.int .i64 y, .string ⟨#[]⟩] 67)) := by rw [hx3, hb3]; exact heap_alloc_new _ _
            rw [← hx3, ← hb3]
            refine hK.out _ _ trivial (fun _ => ?_)
            clear hK K
            clear hx3 hb3 STX2
            refine wpAnyH_ready (rs := [1]) (by kernel_rfl) (by simp) ?_
            refine AllReadyH.cons rfl (fun K hK => ?_) AllReadyH.nil
            have y0 := (cell_of STX3.out.d 1).trans rfl
            go_simp
            refine hK.out _ _ trivial (fun _ => ?_)
            clear hK K
            clear y0
            refine wpAnyH_ready (rs := [7]) (by kernel_rfl) (by simp) ?_
            refine AllReadyH.cons rfl (fun K hK => ?_) AllReadyH.nil
            refine step_append_lies _ (by rfl) _ _ _ (by rfl) w.heap.size 67 i0 (.agg #[.int .i64 0, .string ⟨#[]⟩]) 2 24 Try.underlying25 hi hz0 hz1 hz2 rfl (by omega) (.slice o2 ws.length c2) ws.length (flatWrite ws) (by rfl) STX3.out.o2 ⟨b3, 0, none⟩ 1 1 [.int .i64 y, .string ⟨#[]⟩] (by rfl) (by rfl) (World.news_of_block HB3.out) (two_ones y ⟨#[]⟩) (by omega) (by have := HR.out.1.2.1; unfold maxLen; omega) (by have := HR.out.1.2.1; omega) STX3.out.g.size _ rfl ?_
            intro g4 cap4 x4 hown4 hgrow4 _ _
            have ST4 : Hid (AfterD w c a len cap q qd (.slice (some ⟨g, 0, none⟩) 20 c1) (.slice o2 ws.length c2) cs x4) := after_app STX3.out hgrow4
            have HO4 : Hid (x4.ownsRow w.heap.size 67 2 (.slice (some ⟨g4, 0, none⟩) (ws.length + 1) cap4) (ws.length + 1) (flatWrite (ws ++ [(y, ⟨#[]⟩)]))) := by rw [flatWrite_append, flatWrite_one]; exact hown4
            clear hown4 hgrow4
            simp only [Act.put, List.setIfInBounds_toArray]
            refine hK.out _ _ trivial (fun _ => ?_)
            clear hK K
            clear STX3 HB3
            refine wpAnyH_takeD (i := 8) (v := .pointer (some ⟨qd, 1, none⟩)) (some 24) rfl rfl (by kernel_rfl) (by kernel_rfl) (by kernel_rfl) (fun _ _ _ h => h) (Or.inl ⟨by rfl, by intro W _; go_simp⟩) trivial ?_
            simp only [Act.put]
            refine wpAnyH_ready (rs := [9]) (by kernel_rfl) (by simp) ?_
            refine AllReadyH.cons rfl (fun K hK => ?_) AllReadyH.nil
            have y0 := (cell_of ST4.out.d 1).trans rfl
            have y1 := frozen_of ST4.out.d 1
            go_simp
            obtain ⟨x5, hx5⟩ : ∃ X, X = x4.setCell ⟨qd, 1, none⟩ (.slice (some ⟨g4, 0, none⟩) (ws.length + 1) cap4) := ⟨_, rfl⟩
            rw [← hx5]
            refine hK.out _ _ trivial (fun _ => ?_)
            clear hK K
            clear y0 y1
            have hR4 : x5.heap[q]? = some (.cells #[.slice none 0 0, .slice none 0 0] 27) := by rw [hx5, heap_setCell_other _ _ _ _ HNE.out]; exact ST4.out.r
            have hD4 : x5.heap[qd]? = some (.cells #[.slice (some ⟨g, 0, none⟩) 20 c1, .slice (some ⟨g4, 0, none⟩) (ws.length + 1) cap4] 27) := by rw [hx5]; exact heap_setCell_same _ _ _ _ _ _ ST4.out.d
            have HA4 : Hid (AnyD x5 w.heap.size (.slice (some ⟨g, 0, none⟩) 20 c1) (.slice (some ⟨g4, 0, none⟩) (ws.length + 1) cap4) cs (ws ++ [(y, ⟨#[]⟩)])) := by
              refine ⟨?_, by rw [List.length_append]; exact Nat.succ_le_succ HR.out.1.2.1, fun x hx => ?_, .inl ⟨HR.out.1.1, ?_, (right_sizes HR.out).1⟩⟩
              · rw [hx5, List.length_append]
                exact owns_same HO4.out (fun j hj => heap_setCell_other _ _ j _ (own_ne HO4.out ST4.out.d (by decide) j hj))
              · rcases List.mem_append.1 hx with h | h
                · exact (right_sizes HR.out).2 x h
                · rw [List.mem_singleton.1 h]; exact Nat.zero_le _
              · rw [hx5]
                exact owns_same ST4.out.o1 (fun j hj => heap_setCell_other _ _ j _ (own_ne ST4.out.o1 ST4.out.d (by decide) j hj))
            have HCU4 : Hid (CurAt x5 c a len cap) := by rw [hx5]; exact cur_set ST4.out.cu HQ.out.2.2.2 _ _
            have HG4 : Hid (w.grownBy x5 (some c)) := by rw [hx5]; exact grown_own ST4.out.g HQ.out.2.2.1 _ _
            clear hx5 ST4 HO4
            refine wpAnyH_done (by kernel_rfl) ?_ _
            have HR4 : Hid (x5.heap[q]? = some (.cells #[.slice none 0 0, .slice none 0 0] 27)) := hR4
            have k0 := (cell_of hD4 0).trans rfl
            have k1 := (cell_of hD4 1).trans rfl
            have k2 := (cell_of hR4 0).trans rfl
            have k3 := (cell_of hR4 1).trans rfl
            have k4 := frozen_of hR4 0
            have k5 := frozen_of hR4 1
            clear hD4 hR4
            go_wp2_with fail
            refine shutDraw Try.results38 ?_ ?_ HR4.out HA4.out HCU4.out HG4.out HQ.out.1 HQ.out.2.1 <;> rfl
    · by_cases h2 : n = 2
      · subst h2
        have k0 := (cell_of ST.out.d 0).trans rfl
        have k1 := (cell_of ST.out.d 1).trans rfl
        have k2 := frozen_of ST.out.d 0
        have k3 := frozen_of ST.out.d 1
        have k4 := (cell_of ST.out.r 0).trans rfl
        have k5 := (cell_of ST.out.r 1).trans rfl
        have k6 := frozen_of ST.out.r 0
        have k7 := frozen_of ST.out.r 1
        go_wp2_with fail
        refine (l1Below_any c B 2 a len cap zs _ ST.out.cu (HCO.out _ ST.out.g) HBC.out (by decide) (by decide)).mono ?_
        rintro e w4 ⟨m, rfl, hm0, hm1, hcu4, hg4⟩
        have HST4 : Hid (DrSt w c a len cap q qd (.slice (some ⟨g, 0, none⟩) 20 c1) (.slice o2 ws.length c2) cs ws w4) := ST.out.drawn hg4 hcu4
        clear hcu4 hg4 k0 k1 k2 k3 k4 k5 k6 k7
        have ST := HST4
        clear HST4
        obtain ⟨k, hk⟩ : ∃ k : Nat, (k : Int) = 16 + m := ⟨(16 + m).toNat, by omega⟩
        have hk17 : k ≤ 17 := by omega
        obtain ⟨M, hM⟩ : ∃ M, M = madeCells (Value.agg #[.int .i64 0, .string ⟨#[]⟩]).cells (((k : Nat) : Int).toNat * i0.size) := ⟨_, rfl⟩
        have hmk : ∀ W : World, (Instr.makeSlice 25 (.int .i64 (16 + m)) (.int .i64 (16 + m))).run Try.prog W = .ok (.slice (some ⟨W.heap.size, 0, none⟩) k k) (W.alloc (.cells M 67)) := fun W => by
          have h := run_make (P := Try.prog) W 25 67 i0 (.agg #[.int .i64 0, .string ⟨#[]⟩]) Try.underlying25 hi hz0 .i64 .i64 (k : Int) (k : Int) (by omega) (by omega) (by rw [hz2]; omega) (by omega)
          rw [← hM, hk] at h
          have e : (16 + m).toNat = k := by omega
          rw [e] at h
          exact h
        have HM : Hid (M = (flatWrite (List.replicate k (0, ⟨#[]⟩))).toArray) := by
          rw [Hid, hM, hz1]
          rcases (show k = 16 ∨ k = 17 by omega) with rfl | rfl <;> kernel_rfl
        clear hM hk
        have k0 := (cell_of ST.out.d 0).trans rfl
        have k1 := (cell_of ST.out.d 1).trans rfl
        have k2 := frozen_of ST.out.d 0
        have k3 := frozen_of ST.out.d 1
        have k4 := (cell_of ST.out.r 0).trans rfl
        have k5 := (cell_of ST.out.r 1).trans rfl
        have k6 := frozen_of ST.out.r 0
        have k7 := frozen_of ST.out.r 1
        have Ak1 : ∀ o, (w4.alloc o).cell? ⟨qd, 1, none⟩ = some (.slice o2 ws.length c2) := fun o => (cell_of (blk_alloc ST.out.d o) 1).trans rfl
        have Ak3 : ∀ o, (w4.alloc o).frozen? ⟨qd, 1, none⟩ = false := fun o => frozen_of (blk_alloc ST.out.d o) 1
        go_upto_region 9 with fail
        obtain ⟨w5, hw5⟩ : ∃ W, W = (w4.alloc (.cells M 67)).setCell ⟨qd, 1, none⟩ (.slice (some ⟨w4.heap.size, 0, none⟩) k k) := ⟨_, rfl⟩
        rw [← hw5]
        have hst : DrSt w c a len cap q qd (.slice (some ⟨g, 0, none⟩) 20 c1) (.slice o2 ws.length c2) cs ws (w4.alloc (.cells M 67)) := ST.out.below ((Below.refl _ _).alloc (Nat.le_refl _) _)
        have hlt := (Array.getElem?_eq_some_iff.1 ST.out.d).1
        have hR4 : w5.heap[q]? = some (.cells #[.slice none 0 0, .slice none 0 0] 27) := by rw [hw5, heap_setCell_other _ _ _ _ HNE.out]; exact hst.r
        have hD4 : w5.heap[qd]? = some (.cells #[.slice (some ⟨g, 0, none⟩) 20 c1, .slice (some ⟨w4.heap.size, 0, none⟩) k k] 27) := by rw [hw5]; exact heap_setCell_same _ _ _ _ _ _ hst.d
        have HA4 : Hid (AnyD w5 w.heap.size (.slice (some ⟨g, 0, none⟩) 20 c1) (.slice (some ⟨w4.heap.size, 0, none⟩) k k) cs (List.replicate k (0, ⟨#[]⟩))) := by
          refine ⟨?_, by rw [List.length_replicate]; exact hk17, fun x hx => by rw [List.eq_of_mem_replicate hx]; exact Nat.zero_le _, .inl ⟨HR.out.1.1, ?_, (right_sizes HR.out).1⟩⟩
          · have hh : w5.heap[w4.heap.size]? = some (.cells M 67) := by
              rw [hw5, heap_setCell_other _ _ _ _ (show w4.heap.size ≠ qd by omega)]
              exact heap_alloc_new _ _
            rw [List.length_replicate]
            refine ⟨by rw [flatWrite_len, List.length_replicate], .inr ⟨_, _, _, rfl, ST.out.g.size, hh, Nat.le_refl _, by unfold maxLen; omega, ?_, ?_⟩⟩
            · rw [HM.out]
              simp [flatWrite_len]
            · rw [HM.out]
              exact List.take_of_length_le (by rw [flatWrite_len, List.length_replicate]; exact Nat.le_refl _)
          · rw [hw5]
            exact owns_same hst.o1 (fun j hj => heap_setCell_other _ _ j _ (own_ne hst.o1 hst.d (by decide) j hj))
        have HCU4 : Hid (CurAt w5 c a len cap) := by rw [hw5]; exact cur_set hst.cu HQ.out.2.2.2 _ _
        have HG4 : Hid (w.grownBy w5 (some c)) := by rw [hw5]; exact grown_own hst.g HQ.out.2.2.1 _ _
        clear hw5 hst hlt k0 k1 k2 k3 k4 k5 k6 k7 Ak1 Ak3
        have HR4 : Hid (w5.heap[q]? = some (.cells #[.slice none 0 0, .slice none 0 0] 27)) := hR4
        have k0 := (cell_of hD4 0).trans rfl
        have k1 := (cell_of hD4 1).trans rfl
        have k2 := (cell_of hR4 0).trans rfl
        have k3 := (cell_of hR4 1).trans rfl
        have k4 := frozen_of hR4 0
        have k5 := frozen_of hR4 1
        clear hD4 hR4
        go_wp2_with fail
        refine shutDraw Try.results38 ?_ ?_ HR4.out HA4.out HCU4.out HG4.out HQ.out.1 HQ.out.2.1 <;> rfl
      · 
        have k0 := (cell_of ST.out.d 0).trans rfl
        have k1 := (cell_of ST.out.d 1).trans rfl
        have k2 := frozen_of ST.out.d 0
        have k3 := frozen_of ST.out.d 1
        have k4 := (cell_of ST.out.r 0).trans rfl
        have k5 := (cell_of ST.out.r 1).trans rfl
        have k6 := frozen_of ST.out.r 0
        have k7 := frozen_of ST.out.r 1
        go_upto_region 9 with fail
        have hR4 := ST.out.r
        have hD4 := ST.out.d
        have HA4 : Hid (AnyD w3 w.heap.size (.slice (some ⟨g, 0, none⟩) 20 c1) (.slice o2 ws.length c2) cs ws) := ⟨ST.out.o2, Nat.le_trans HR.out.1.2.1 (by decide), (right_sizes HR.out).2, .inl ⟨HR.out.1.1, ST.out.o1, (right_sizes HR.out).1⟩⟩
        have HCU4 : Hid (CurAt w3 c a len cap) := ST.out.cu
        have HG4 : Hid (w.grownBy w3 (some c)) := ST.out.g
        clear k0 k1 k2 k3 k4 k5 k6 k7
        have HR4 : Hid (w3.heap[q]? = some (.cells #[.slice none 0 0, .slice none 0 0] 27)) := hR4
        have k0 := (cell_of hD4 0).trans rfl
        have k1 := (cell_of hD4 1).trans rfl
        have k2 := (cell_of hR4 0).trans rfl
        have k3 := (cell_of hR4 1).trans rfl
        have k4 := frozen_of hR4 0
        have k5 := frozen_of hR4 1
        clear hD4 hR4
        go_wp2_with fail
        refine shutDraw Try.results38 ?_ ?_ HR4.out HA4.out HCU4.out HG4.out HQ.out.1 HQ.out.2.1 <;> rfl

end Go.Proofs.Ytckjbgpdbehmaaa

namespace Go.Proofs.Ytckjbgpdbehmaaa
open Go.RowKit
open Go.Lib hiding intOf

theorem AnyD.grown {W W' : World} {B c : Nat} {v1 v2 : Value} {cs : List ByteArray} {ws : List (Int × ByteArray)} {a : Option Addr} {len cap : Nat} (h : AnyD W B v1 v2 cs ws) (hcu : CurAt W c a len cap) (hg : W.grownBy W' (some c)) : AnyD W' B v1 v2 cs ws := by
  obtain ⟨h1, h2, h3, h4⟩ := h
  refine ⟨owns_same h1 (fun j hj => hg.block j (owns_lt h1 hj) (fun e => own_cur h1 hcu (by decide) j hj (Option.some.inj e))), h2, h3, ?_⟩
  rcases h4 with ⟨h5, h6, h7⟩ | h5
  · exact .inl ⟨h5, owns_same h6 (fun j hj => hg.block j (owns_lt h6 hj) (fun e => own_cur h6 hcu (by decide) j hj (Option.some.inj e))), h7⟩
  · exact .inr h5
/-- What is known of a disk that was drawn over a code: its values, the result's block, and what was there. -/
structure CdSt (w : World) (a : Option Addr) (len : Nat) (zs : List Int) (q : Nat) (v1 v2 : Value) (cs : List ByteArray) (ws : List (Int × ByteArray)) (W : World) : Prop where
  b : Below w.heap.size w W
  r : W.heap[q]? = some (.cells #[.slice none 0 0, .slice none 0 0] 27)
  d : AnyD W w.heap.size v1 v2 cs ws
  code : CodeAt W w.heap.size a len zs
theorem CdSt.below {w W W' : World} {a : Option Addr} {len q : Nat} {zs : List Int} {v1 v2 : Value} {cs : List ByteArray} {ws : List (Int × ByteArray)} (h : CdSt w a len zs q v1 v2 cs ws W) (b : Below W.heap.size W W') : CdSt w a len zs q v1 v2 cs ws W' :=
  ⟨h.b.trans (b.mono h.b.size), blk_below h.r b, h.d.below b, h.code.below (b.mono h.b.size)⟩
theorem CdSt.drawn {w W W' : World} {a : Option Addr} {len cap q c : Nat} {zs : List Int} {v1 v2 : Value} {cs : List ByteArray} {ws : List (Int × ByteArray)} (h : CdSt w a len zs q v1 v2 cs ws W) (hc : w.heap.size ≤ c) (hcu : CurAt W c a len cap) (hg : W.grownBy W' (some c)) : CdSt w a len zs q v1 v2 cs ws W' :=
  ⟨h.b.trans (below_grown hg h.b.size hc), grown_blk hcu (by decide) h.r hg, h.d.grown hcu hg, h.code.grown hg hc⟩
theorem CdSt.set {w W : World} {a : Option Addr} {len q : Nat} {zs : List Int} {v1 v2 : Value} {cs : List ByteArray} {ws : List (Int × ByteArray)} (h : CdSt w a len zs q v1 v2 cs ws W) (hq : w.heap.size ≤ q) :
    ((W.setCell ⟨q, 0, none⟩ v1).setCell ⟨q, 1, none⟩ v2).heap[q]? = some (.cells #[v1, v2] 27) ∧ AnyD ((W.setCell ⟨q, 0, none⟩ v1).setCell ⟨q, 1, none⟩ v2) w.heap.size v1 v2 cs ws ∧ Below w.heap.size w ((W.setCell ⟨q, 0, none⟩ v1).setCell ⟨q, 1, none⟩ v2) :=
  ⟨heap_setCell_same _ _ _ _ _ _ (heap_setCell_same _ _ _ _ _ _ h.r), h.d.set h.r, (h.b.setCell hq _).setCell hq _⟩
/-- A disk is drawn over a code. -/
def DrawnL (w : World) (e : Ending) (w' : World) : Prop :=
  ∃ v1 v2 cs ws, e = .returned (.agg #[v1, v2]) ∧ AnyD w' w.heap.size v1 v2 cs ws ∧ Below w.heap.size w w'
/-- A disk and a place are drawn. -/
def DrawnG (w : World) (e : Ending) (w' : World) : Prop :=
  ∃ v1 v2 cs ws x, e = .returned (.tuple #[.agg #[v1, v2], .int .i64 x]) ∧ -1 ≤ x ∧ x ≤ 20 ∧ AnyD w' w.heap.size v1 v2 cs ws ∧ Below w.heap.size w w'
/-- A disk, a place and a text are drawn. -/
def DrawnP2 (w : World) (e : Ending) (w' : World) : Prop :=
  ∃ v1 v2 cs ws x t, e = .returned (.tuple #[.agg #[v1, v2], .int .i64 x, .string t]) ∧ (-1 ≤ x ∧ x ≤ 20) ∧ t.size ≤ 14 ∧ AnyD w' w.heap.size v1 v2 cs ws ∧ Below w.heap.size w w'
set_option maxHeartbeats 8000000 in
set_option maxRecDepth 100000 in
theorem drawFlush_any (a : Option Addr) (len cap : Nat) (zs : List Int) (w : World) (hcode : CodeAt w w.heap.size a len zs) :
    Calls Try.prog 25 #[.slice a len cap] w fun e w' => DrawnL w e w' := by
  have HCO : Hid (∀ W, Below w.heap.size w W → CodeAt W w.heap.size a len zs) := fun W h => hcode.below h
  clear hcode
  go_enter Try.func25, Try.ntmps25
  go_wp2_with fail
  have hb1 : Below w.heap.size w (w.alloc (.cells #[.slice none 0 0, .slice none 0 0] 27)) := (Below.refl _ _).alloc (Nat.le_refl _) _
  refine (l1New_any w.heap.size a len cap zs _ (HCO.out _ hb1)).mono ?_
  rintro e w2 ⟨rfl, hcu, bw⟩
  have hsz : (w.alloc (.cells #[.slice none 0 0, .slice none 0 0] 27)).heap.size = w.heap.size + 1 := by simp
  rw [hsz] at hcu
  rw [hsz]
  obtain ⟨c, hc⟩ : ∃ c, c = w.heap.size + 1 := ⟨_, rfl⟩
  rw [← hc] at hcu
  rw [← hc]
  have HC : Hid (w.heap.size ≤ c ∧ w.heap.size ≠ c) := ⟨by omega, by omega⟩
  have HCU : Hid (CurAt w2 c a len cap) := hcu
  have HB2 : Hid (Below w.heap.size w w2) := hb1.trans (bw.mono hb1.size)
  have HR2 : Hid (w2.heap[w.heap.size]? = some (.cells #[.slice none 0 0, .slice none 0 0] 27)) := blk_below (heap_alloc_new w _) bw
  clear hcu hc bw hb1 hsz
  go_wp2_with fail
  refine (l12Draw_any c w.heap.size a len cap zs _ HCU.out (HCO.out _ HB2.out) HC.out.1).mono ?_
  rintro e w3 ⟨v1, v2, cs, ws, rfl, hA, hcu3, hg3⟩
  obtain ⟨o1, n1, c1, o2, c2, rfl, rfl⟩ := hA.forms
  have ST : Hid (CdSt w a len zs w.heap.size (.slice o1 n1 c1) (.slice o2 ws.length c2) cs ws w3) :=
    ⟨HB2.out.trans (below_grown hg3 HB2.out.size HC.out.1), grown_blk HCU.out (by decide) HR2.out hg3, hA.wide HB2.out.size, (HCO.out _ HB2.out).grown hg3 HC.out.1⟩
  have HCU3 : Hid (CurAt w3 c a len cap) := hcu3
  have hws : ws.length ≤ 17 := hA.2.1
  obtain ⟨q, hq⟩ : ∃ q, q = w.heap.size := ⟨_, rfl⟩
  have HQ : Hid (w.heap.size ≤ q ∧ q ≠ c) := by rw [Hid, hq]; exact ⟨Nat.le_refl _, HC.out.2⟩
  rw [show CdSt w a len zs w.heap.size = CdSt w a len zs q by rw [hq]] at ST
  rw [← hq]
  clear hA hcu3 hg3 HCU HB2 HR2 hq
  have k0 := (cell_of ST.out.r 0).trans rfl
  have k1 := (cell_of ST.out.r 1).trans rfl
  have k2 := frozen_of ST.out.r 0
  have k3 := frozen_of ST.out.r 1
  go_wp2_with fail
  obtain ⟨h1, h2, h3⟩ := ST.out.set HQ.out.1
  exact bodyPost_ret (v := .agg #[.slice o1 n1 c1, .slice o2 ws.length c2]) (results_cell_row Try.results25 _ _ q 27 _ (0, 0) _ rfl h1 Try.underlying27 rfl (by kernel_rfl)) rfl ⟨_, _, cs, ws, rfl, h2, h3⟩

set_option maxHeartbeats 8000000 in
set_option maxRecDepth 100000 in
theorem drawDiskGet_any (a : Option Addr) (len cap : Nat) (zs : List Int) (w : World) (hcode : CodeAt w w.heap.size a len zs) :
    Calls Try.prog 23 #[.slice a len cap] w fun e w' => DrawnG w e w' := by
  have HCO : Hid (∀ W, Below w.heap.size w W → CodeAt W w.heap.size a len zs) := fun W h => hcode.below h
  clear hcode
  go_enter Try.func23, Try.ntmps23
  go_wp2_with fail
  have hb1 : Below w.heap.size w (w.alloc (.cells #[.slice none 0 0, .slice none 0 0] 27)) := (Below.refl _ _).alloc (Nat.le_refl _) _
  refine (l1New_any w.heap.size a len cap zs _ (HCO.out _ hb1)).mono ?_
  rintro e w2 ⟨rfl, hcu, bw⟩
  have hsz : (w.alloc (.cells #[.slice none 0 0, .slice none 0 0] 27)).heap.size = w.heap.size + 1 := by simp
  rw [hsz] at hcu
  rw [hsz]
  obtain ⟨c, hc⟩ : ∃ c, c = w.heap.size + 1 := ⟨_, rfl⟩
  rw [← hc] at hcu
  rw [← hc]
  have HC : Hid (w.heap.size ≤ c ∧ w.heap.size ≠ c) := ⟨by omega, by omega⟩
  have HCU : Hid (CurAt w2 c a len cap) := hcu
  have HB2 : Hid (Below w.heap.size w w2) := hb1.trans (bw.mono hb1.size)
  have HR2 : Hid (w2.heap[w.heap.size]? = some (.cells #[.slice none 0 0, .slice none 0 0] 27)) := blk_below (heap_alloc_new w _) bw
  clear hcu hc bw hb1 hsz
  go_wp2_with fail
  refine (l12Draw_any c w.heap.size a len cap zs _ HCU.out (HCO.out _ HB2.out) HC.out.1).mono ?_
  rintro e w3 ⟨v1, v2, cs, ws, rfl, hA, hcu3, hg3⟩
  obtain ⟨o1, n1, c1, o2, c2, rfl, rfl⟩ := hA.forms
  have ST : Hid (CdSt w a len zs w.heap.size (.slice o1 n1 c1) (.slice o2 ws.length c2) cs ws w3) :=
    ⟨HB2.out.trans (below_grown hg3 HB2.out.size HC.out.1), grown_blk HCU.out (by decide) HR2.out hg3, hA.wide HB2.out.size, (HCO.out _ HB2.out).grown hg3 HC.out.1⟩
  have HCU3 : Hid (CurAt w3 c a len cap) := hcu3
  have hws : ws.length ≤ 17 := hA.2.1
  obtain ⟨q, hq⟩ : ∃ q, q = w.heap.size := ⟨_, rfl⟩
  have HQ : Hid (w.heap.size ≤ q ∧ q ≠ c) := by rw [Hid, hq]; exact ⟨Nat.le_refl _, HC.out.2⟩
  rw [show CdSt w a len zs w.heap.size = CdSt w a len zs q by rw [hq]] at ST
  rw [← hq]
  clear hA hcu3 hg3 HCU HB2 HR2 hq
  go_upto_region 3 with fail
  obtain ⟨w4, hw4⟩ : ∃ W, W = w3.alloc (.cells #[.slice o1 n1 c1, .slice o2 ws.length c2] 27) := ⟨_, rfl⟩
  obtain ⟨qd, hqd⟩ : ∃ q, q = w3.heap.size := ⟨_, rfl⟩
  rw [← hw4, ← hqd]
  have hb4 : Below w3.heap.size w3 w4 := by rw [hw4]; exact (Below.refl _ _).alloc (Nat.le_refl _) _
  have hd4 : w4.heap[qd]? = some (.cells #[.slice o1 n1 c1, .slice o2 ws.length c2] 27) := by rw [hw4, hqd]; exact heap_alloc_new _ _
  have ST4 : Hid (CdSt w a len zs q (.slice o1 n1 c1) (.slice o2 ws.length c2) cs ws w4) := ST.out.below hb4
  have HCU4 : Hid (CurAt w4 c a len cap) := HCU3.out.below hb4 HCU3.out.lt
  have HNE : Hid (qd ≠ q) := fun e => by have h1 := (Array.getElem?_eq_some_iff.1 ST.out.r).1; omega
  have HD4 : Hid (w4.heap[qd]? = some (.cells #[.slice o1 n1 c1, .slice o2 ws.length c2] 27)) := hd4
  have HK : Hid (∀ W, w4.grownBy W (some c) → (W.cell? ⟨qd, 0, none⟩ = some (.slice o1 n1 c1) ∧ W.cell? ⟨qd, 1, none⟩ = some (.slice o2 ws.length c2)) ∧ CdSt w a len zs q (.slice o1 n1 c1) (.slice o2 ws.length c2) cs ws W) := fun W hg => by
    have h1 := grown_blk HCU4.out (by decide) HD4.out hg
    exact ⟨⟨(cell_of h1 0).trans rfl, (cell_of h1 1).trans rfl⟩, ST4.out.drawn HC.out.1 HCU4.out hg⟩
  clear hw4 hqd hb4 hd4 ST HCU3
  obtain ⟨d0, d1⟩ := (HK.out _ (World.grownBy.refl _ _)).1
  have HSET : Hid (∀ (W : World) (x y : Value), (W.cell? ⟨qd, 0, none⟩ = some (.slice o1 n1 c1) ∧ W.cell? ⟨qd, 1, none⟩ = some (.slice o2 ws.length c2)) → (((W.setCell ⟨q, 0, none⟩ x).setCell ⟨q, 1, none⟩ y).cell? ⟨qd, 0, none⟩ = some (.slice o1 n1 c1) ∧ ((W.setCell ⟨q, 0, none⟩ x).setCell ⟨q, 1, none⟩ y).cell? ⟨qd, 1, none⟩ = some (.slice o2 ws.length c2))) := fun W x y h => by
    have hh : ((W.setCell ⟨q, 0, none⟩ x).setCell ⟨q, 1, none⟩ y).heap[qd]? = W.heap[qd]? := (heap_setCell_other _ _ qd _ HNE.out).trans (heap_setCell_other _ _ qd _ HNE.out)
    exact ⟨(World.cell?_of_block hh).trans h.1, (World.cell?_of_block hh).trans h.2⟩
  go_region_held3 (fun W => W.cell? ⟨qd, 0, none⟩ = some (.slice o1 n1 c1) ∧ W.cell? ⟨qd, 1, none⟩ = some (.slice o2 ws.length c2)) (first | assumption | exact HSET.out _ _ _ ⟨e0, e1⟩ | go_keep) (first | (go_at_call 54; refine (l1Below_any c w.heap.size 22 a len cap zs _ (HCU4.out.below (Below.refl _ _).drew HCU4.out.lt) (HK.out _ (grown_below (Below.refl w4.heap.size w4).drew (some c))).2.code HC.out.1 (by decide) (by decide)).mono ?_; rintro e u1 ⟨x, rfl, hx0, hx1, hcu5, hg5⟩; have hg6 := grown_then (grown_below (Below.refl w4.heap.size w4).drew (some c)) hg5; obtain ⟨⟨e0, e1⟩, st5⟩ := HK.out u1 hg6; have k0 := (cell_of st5.r 0).trans rfl; have k1 := (cell_of st5.r 1).trans rfl; have k2 := frozen_of st5.r 0; have k3 := frozen_of st5.r 1))
  obtain ⟨h1, h2, h3⟩ := st5.set HQ.out.1
  have H1 : Hid _ := h1
  have H2 : Hid _ := h2
  have H3 : Hid _ := h3
  clear h1 h2 h3 st5 hg6 hcu5 hg5 e0 e1 d0 d1 k0 k1 k2 k3
  go_wp2_with fail
  refine bodyPost_ret (v := .tuple #[.agg #[.slice o1 n1 c1, .slice o2 ws.length c2], .int .i64 (x - 1)]) ?_ rfl ⟨_, _, cs, ws, x - 1, rfl, by omega, by omega, H2.out, H3.out⟩
  have h4 := run_loadVar_row (P := Try.prog) _ q 27 27 _ (0, 0) _ H1.out Try.underlying27 rfl (by kernel_rfl)
  simp [results, Try.results23, asAddr, h4]
  rw [IntKind.wrap_i64]
  omega

set_option maxHeartbeats 8000000 in
set_option maxRecDepth 100000 in
theorem drawDiskPut_any (a : Option Addr) (len cap : Nat) (zs : List Int) (w : World) (hcode : CodeAt w w.heap.size a len zs) :
    Calls Try.prog 20 #[.slice a len cap] w fun e w' => DrawnP2 w e w' := by
  have HCO : Hid (∀ W, Below w.heap.size w W → CodeAt W w.heap.size a len zs) := fun W h => hcode.below h
  clear hcode
  go_enter Try.func20, Try.ntmps20
  go_wp2_with fail
  have hb1 : Below w.heap.size w (w.alloc (.cells #[.slice none 0 0, .slice none 0 0] 27)) := (Below.refl _ _).alloc (Nat.le_refl _) _
  refine (l1New_any w.heap.size a len cap zs _ (HCO.out _ hb1)).mono ?_
  rintro e w2 ⟨rfl, hcu, bw⟩
  have hsz : (w.alloc (.cells #[.slice none 0 0, .slice none 0 0] 27)).heap.size = w.heap.size + 1 := by simp
  rw [hsz] at hcu
  rw [hsz]
  obtain ⟨c, hc⟩ : ∃ c, c = w.heap.size + 1 := ⟨_, rfl⟩
  rw [← hc] at hcu
  rw [← hc]
  have HC : Hid (w.heap.size ≤ c ∧ w.heap.size ≠ c) := ⟨by omega, by omega⟩
  have HCU : Hid (CurAt w2 c a len cap) := hcu
  have HB2 : Hid (Below w.heap.size w w2) := hb1.trans (bw.mono hb1.size)
  have HR2 : Hid (w2.heap[w.heap.size]? = some (.cells #[.slice none 0 0, .slice none 0 0] 27)) := blk_below (heap_alloc_new w _) bw
  clear hcu hc bw hb1 hsz
  go_wp2_with fail
  refine (l12Draw_any c w.heap.size a len cap zs _ HCU.out (HCO.out _ HB2.out) HC.out.1).mono ?_
  rintro e w3 ⟨v1, v2, cs, ws, rfl, hA, hcu3, hg3⟩
  obtain ⟨o1, n1, c1, o2, c2, rfl, rfl⟩ := hA.forms
  have ST : Hid (CdSt w a len zs w.heap.size (.slice o1 n1 c1) (.slice o2 ws.length c2) cs ws w3) :=
    ⟨HB2.out.trans (below_grown hg3 HB2.out.size HC.out.1), grown_blk HCU.out (by decide) HR2.out hg3, hA.wide HB2.out.size, (HCO.out _ HB2.out).grown hg3 HC.out.1⟩
  have HCU3 : Hid (CurAt w3 c a len cap) := hcu3
  have hws : ws.length ≤ 17 := hA.2.1
  obtain ⟨q, hq⟩ : ∃ q, q = w.heap.size := ⟨_, rfl⟩
  have HQ : Hid (w.heap.size ≤ q ∧ q ≠ c) := by rw [Hid, hq]; exact ⟨Nat.le_refl _, HC.out.2⟩
  rw [show CdSt w a len zs w.heap.size = CdSt w a len zs q by rw [hq]] at ST
  rw [← hq]
  clear hA hcu3 hg3 HCU HB2 HR2 hq
  go_upto_region 3 with fail
  obtain ⟨w4, hw4⟩ : ∃ W, W = w3.alloc (.cells #[.slice o1 n1 c1, .slice o2 ws.length c2] 27) := ⟨_, rfl⟩
  obtain ⟨qd, hqd⟩ : ∃ q, q = w3.heap.size := ⟨_, rfl⟩
  rw [← hw4, ← hqd]
  have hb4 : Below w3.heap.size w3 w4 := by rw [hw4]; exact (Below.refl _ _).alloc (Nat.le_refl _) _
  have hd4 : w4.heap[qd]? = some (.cells #[.slice o1 n1 c1, .slice o2 ws.length c2] 27) := by rw [hw4, hqd]; exact heap_alloc_new _ _
  have ST4 : Hid (CdSt w a len zs q (.slice o1 n1 c1) (.slice o2 ws.length c2) cs ws w4) := ST.out.below hb4
  have HCU4 : Hid (CurAt w4 c a len cap) := HCU3.out.below hb4 HCU3.out.lt
  have HNE : Hid (qd ≠ q) := fun e => by have h1 := (Array.getElem?_eq_some_iff.1 ST.out.r).1; omega
  have HD4 : Hid (w4.heap[qd]? = some (.cells #[.slice o1 n1 c1, .slice o2 ws.length c2] 27)) := hd4
  have HK : Hid (∀ W, w4.grownBy W (some c) → (W.cell? ⟨qd, 0, none⟩ = some (.slice o1 n1 c1) ∧ W.cell? ⟨qd, 1, none⟩ = some (.slice o2 ws.length c2)) ∧ CdSt w a len zs q (.slice o1 n1 c1) (.slice o2 ws.length c2) cs ws W) := fun W hg => by
    have h1 := grown_blk HCU4.out (by decide) HD4.out hg
    exact ⟨⟨(cell_of h1 0).trans rfl, (cell_of h1 1).trans rfl⟩, ST4.out.drawn HC.out.1 HCU4.out hg⟩
  clear hw4 hqd hb4 hd4 ST HCU3
  obtain ⟨d0, d1⟩ := (HK.out _ (World.grownBy.refl _ _)).1
  have HSET : Hid (∀ (W : World) (x y : Value), (W.cell? ⟨qd, 0, none⟩ = some (.slice o1 n1 c1) ∧ W.cell? ⟨qd, 1, none⟩ = some (.slice o2 ws.length c2)) → (((W.setCell ⟨q, 0, none⟩ x).setCell ⟨q, 1, none⟩ y).cell? ⟨qd, 0, none⟩ = some (.slice o1 n1 c1) ∧ ((W.setCell ⟨q, 0, none⟩ x).setCell ⟨q, 1, none⟩ y).cell? ⟨qd, 1, none⟩ = some (.slice o2 ws.length c2))) := fun W x y h => by
    have hh : ((W.setCell ⟨q, 0, none⟩ x).setCell ⟨q, 1, none⟩ y).heap[qd]? = W.heap[qd]? := (heap_setCell_other _ _ qd _ HNE.out).trans (heap_setCell_other _ _ qd _ HNE.out)
    exact ⟨(World.cell?_of_block hh).trans h.1, (World.cell?_of_block hh).trans h.2⟩
  have HL : Hid (∀ W, W = w4.drew.alloc (.cells #[.int .i64 0, .int .i64 3, .int .i64 19, .int .i64 20, .int .i64 (-1)] 3) → W.heap[w4.heap.size]? = some (.cells #[.int .i64 0, .int .i64 3, .int .i64 19, .int .i64 20, .int .i64 (-1)] 3) ∧ Below w4.heap.size w4 W) := fun W h => by
    rw [h]
    exact ⟨heap_alloc_new w4.drew _, (Below.refl w4.heap.size w4).drew.alloc (Nat.le_refl _) _⟩
  have HGC : Hid (w4.heap.size ≠ c) := by have := HCU4.out.lt; rw [Hid]; omega
  go_region_held3 (fun W => W.cell? ⟨qd, 0, none⟩ = some (.slice o1 n1 c1) ∧ W.cell? ⟨qd, 1, none⟩ = some (.slice o2 ws.length c2)) (first | assumption | exact HSET.out _ _ _ ⟨i0, i1⟩ | exact (HK.out _ (grown_below (HL.out _ rfl).2 (some c))).1 | go_keep) (first | (go_at_call 49; refine (ccPickInt_any c w.heap.size w4.heap.size 5 (fun j => ([0, 3, 19, 20, -1] : List Int).getD j 0) a len cap zs _ (HCU4.out.below (HL.out _ rfl).2 HCU4.out.lt) (HK.out _ (grown_below (HL.out _ rfl).2 (some c))).2.code HC.out.1 (by decide) (by decide) (fun j hj => (cell_of (HL.out _ rfl).1 j).trans (by match j, hj with | 0, _ => rfl | 1, _ => rfl | 2, _ => rfl | 3, _ => rfl | 4, _ => rfl)) HGC.out).mono ?_; rintro e u1 ⟨jx, hjx, rfl, hcu5, hg5⟩; obtain ⟨x, hx⟩ : ∃ x, x = ([0, 3, 19, 20, -1] : List Int).getD jx 0 := ⟨_, rfl⟩; have HX : Hid (-1 ≤ x ∧ x ≤ 20) := (by rw [Hid, hx]; match jx, hjx with | 0, _ => decide | 1, _ => decide | 2, _ => decide | 3, _ => decide | 4, _ => decide); rw [← hx]; clear hx; have hg6 := grown_then (grown_below (HL.out _ rfl).2 (some c)) hg5; obtain ⟨⟨e0, e1⟩, st5⟩ := HK.out u1 hg6) | (go_at_call 50; refine (l1DrawText_any c w.heap.size a len cap zs _ hcu5 st5.code HC.out.1).mono ?_; rintro e u2 ⟨t, rfl, ht, hcu6, hg7⟩; have hg8 := grown_then hg6 hg7; obtain ⟨⟨i0, i1⟩, st6⟩ := HK.out u2 hg8; have k0 := (cell_of st6.r 0).trans rfl; have k1 := (cell_of st6.r 1).trans rfl; have k2 := frozen_of st6.r 0; have k3 := frozen_of st6.r 1))
  obtain ⟨h1, h2, h3⟩ := st6.set HQ.out.1
  have H1 : Hid _ := h1
  have H2 : Hid _ := h2
  have H3 : Hid _ := h3
  clear h1 h2 h3 st5 st6 hg6 hcu5 hg5 e0 e1 d0 d1 k0 k1 k2 k3 i0 i1 hg7 hg8 hcu6
  go_wp2_with fail
  refine bodyPost_ret (v := .tuple #[.agg #[.slice o1 n1 c1, .slice o2 ws.length c2], .int .i64 x, .string t]) ?_ rfl ⟨_, _, cs, ws, x, t, rfl, HX.out, ht, H2.out, H3.out⟩
  have h4 := run_loadVar_row (P := Try.prog) _ q 27 27 _ (0, 0) _ H1.out Try.underlying27 rfl (by kernel_rfl)
  simp [results, Try.results20, asAddr, h4]

end Go.Proofs.Ytckjbgpdbehmaaa
