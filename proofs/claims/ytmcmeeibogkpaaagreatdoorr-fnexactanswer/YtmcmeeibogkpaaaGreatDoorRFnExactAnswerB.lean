/- What the proof of FnExactAnswer leans on: contracts of the program's and the specification's functions, and plain facts (part 2 of 3). -/
import Derived.Test.YtmcmeeibogkpaaaGreatDoorRFnExactAnswerA
namespace Go.Proofs.YtmcmeeibogkpaaaGreatDoorR
open Go.RowKit
open Go.Lib hiding intOf

theorem below_grownO {B : Nat} {w w' : World} {r : Option Nat} (hg : w.grownBy w' r) (hB : B ≤ w.heap.size) (hr : ∀ g, r = some g → B ≤ g) : Below B w w' :=
  ⟨hg.os, hg.tape, hg.output, hg.size, fun k hk => hg.block k (Nat.lt_of_lt_of_le hk hB) (fun e => by have := hr k e.symm; omega)⟩
theorem tag_list : tagName.toList = [101, 116, 97, 103] := by rw [ByteArray.toList_eq]; rfl
theorem vary_list : varyName.toList = [118, 97, 114, 121] := by rw [ByteArray.toList_eq]; rfl
theorem ccN_list : ccName.toList = [99, 97, 99, 104, 101, 45, 99, 111, 110, 116, 114, 111, 108] := by rw [ByteArray.toList_eq]; rfl

/-- While a short answer is made. -/
structure ShSt (w : World) (r : Nat) (st : Int) (va : Value) (b : ByteArray) (z : Value) (P : List (ByteArray × ByteArray)) (W : World) : Prop where
  q0 : W.heap[r]? = some (.cells #[.int .i64 st, va, .string b] 29)
  q1 : W.heap[r + 1]? = some (.cells #[.int .i64 0, .slice none 0 0, .string ⟨#[]⟩] 29)
  q2 : W.heap[r + 1 + 1]? = some (.cells #[.int .i64 304, z, .string ⟨#[]⟩] 29)
  own : W.ownsRow (r + 1 + 1 + 1) 74 2 z P.length (flatF P)
  low : Below r w W
theorem ShSt.size {w : World} {r : Nat} {st : Int} {va : Value} {b : ByteArray} {z : Value} {P : List (ByteArray × ByteArray)} {W : World} (h : ShSt w r st va b z P W) : r + 1 + 1 + 1 ≤ W.heap.size := (Array.getElem?_eq_some_iff.1 h.q2).1
theorem ShSt.below {w : World} {r : Nat} {st : Int} {va : Value} {b : ByteArray} {z : Value} {P : List (ByteArray × ByteArray)} {W : World} {W' : World} (h : ShSt w r st va b z P W) (hb : Below W.heap.size W W') : ShSt w r st va b z P W' := by
  have hs := h.size
  exact ⟨by rw [hb.block _ (by omega)]; exact h.q0, by rw [hb.block _ (by omega)]; exact h.q1, by rw [hb.block _ (by omega)]; exact h.q2, owns_same h.own (fun j hj => hb.block j (owns_lt h.own hj)), h.low.trans (hb.mono (by omega))⟩

set_option maxHeartbeats 2000000 in
set_option maxRecDepth 100000 in
theorem specShort_any (st : Int) (v : Value) (b : ByteArray) (n base : Nat) (gs : List (ByteArray × ByteArray)) (w : World) (hv : FieldsV w base v n gs) (hn : n ≤ 2000000) :
    Calls Tryz.prog 46 #[.agg #[.int .i64 st, v, .string b]] w fun e w' => RespRow 304 (shortF gs) ⟨#[]⟩ w e w' := by
  obtain ⟨i0, hi, hz0, hz1, hz2⟩ := info_parts info33
  obtain ⟨oa, cap, rfl, hrow0⟩ := hv.slice
  have HLB : Hid (gs.length = n) := hv.len
  obtain ⟨r, hr⟩ : ∃ r, r = w.heap.size := ⟨_, rfl⟩
  have HR : Hid (w.heap.size = r) := hr.symm
  have HGR : Hid (∀ j, j < n → ∃ g, oa = some ⟨g, 0, none⟩ ∧ g < r) := fun j hj => by obtain ⟨g, h1, h2⟩ := hrow0 j hj; exact ⟨g, h1, by rw [hr]; exact h2.lt⟩
  clear hrow0
  obtain ⟨W1, hW1⟩ : ∃ W, W = ((w.alloc (.cells #[.int .i64 st, .slice oa n cap, .string b] 29)).alloc (.cells #[.int .i64 0, .slice none 0 0, .string ⟨#[]⟩] 29)).alloc (.cells #[.int .i64 304, .slice none 0 0, .string ⟨#[]⟩] 29) := ⟨_, rfl⟩
  have HW1 : Hid (((w.alloc (.cells #[.int .i64 st, .slice oa n cap, .string b] 29)).alloc (.cells #[.int .i64 0, .slice none 0 0, .string ⟨#[]⟩] 29)).alloc (.cells #[.int .i64 304, .slice none 0 0, .string ⟨#[]⟩] 29) = W1) := hW1.symm
  have HVA : Hid (∀ W, Below r w W → FieldsV W base (.slice oa n cap) n gs) := fun W h => hv.below (by rw [hr] at h; exact h)
  have HS0 : Hid (ShSt w r st (.slice oa n cap) b (.slice none 0 0) [] W1) := by
    have b1 : Below r w W1 := by rw [hW1, hr]; exact (((Below.refl _ w).alloc (Nat.le_refl _) _).alloc (by simp) _).alloc (by simp; omega) _
    have s1 : (w.alloc (.cells #[.int .i64 st, .slice oa n cap, .string b] 29)).heap.size = r + 1 := by rw [hr]; simp
    have s2 : ((w.alloc (.cells #[.int .i64 st, .slice oa n cap, .string b] 29)).alloc (.cells #[.int .i64 0, .slice none 0 0, .string ⟨#[]⟩] 29)).heap.size = r + 1 + 1 := by rw [hr]; simp
    have e0 := heap_alloc_new w (.cells #[.int .i64 st, .slice oa n cap, .string b] 29)
    have e1 := heap_alloc_new (w.alloc (.cells #[.int .i64 st, .slice oa n cap, .string b] 29)) (.cells #[.int .i64 0, .slice none 0 0, .string ⟨#[]⟩] 29)
    have e2 := heap_alloc_new ((w.alloc (.cells #[.int .i64 st, .slice oa n cap, .string b] 29)).alloc (.cells #[.int .i64 0, .slice none 0 0, .string ⟨#[]⟩] 29)) (.cells #[.int .i64 304, .slice none 0 0, .string ⟨#[]⟩] 29)
    rw [← hr] at e0
    rw [s1] at e1
    rw [s2, ← hW1] at e2
    have c1 : Below (r + 1) (w.alloc (.cells #[.int .i64 st, .slice oa n cap, .string b] 29)) W1 := by rw [hW1, ← s1]; exact ((Below.refl _ _).alloc (Nat.le_refl _) _).alloc (by simp) _
    have c2 : Below (r + 1 + 1) ((w.alloc (.cells #[.int .i64 st, .slice oa n cap, .string b] 29)).alloc (.cells #[.int .i64 0, .slice none 0 0, .string ⟨#[]⟩] 29)) W1 := by rw [hW1, ← s2]; exact (Below.refl _ _).alloc (Nat.le_refl _) _
    exact ⟨by rw [c1.block r (by omega)]; exact e0, by rw [c2.block (r + 1) (by omega)]; exact e1, e2, ⟨rfl, .inl ⟨rfl, rfl⟩⟩, b1⟩
  clear hW1 hv
  go_enter Tryz.func46, Tryz.ntmps46
  go_upto_region 2 with fail
  rw [HW1.out, ← hr]
  clear hr HW1
  go_wp2_with fail
  go_loopw [4] (fun i wr => ∃ (j : Nat) (z : Value) (P : List (ByteArray × ByteArray)), j ≤ n ∧ i = .int .i64 (j : Int) ∧ Hid (ShSt w r st (.slice oa n cap) b z P wr) ∧ Hid (P = shortF (gs.take j))) (fun i _ => n - (intOf i).toNat)
  case atStart => exact ⟨0, _, [], Nat.zero_le _, rfl, HS0, by show _ = _; simp [shortF]⟩
  case round =>
    obtain ⟨j, z, P, hj, rfl, HS, HP⟩ := hrel
    obtain ⟨oz, cz, rfl⟩ := slice_of_owns HS.out.own
    obtain ⟨⟨_, t1, _⟩, _⟩ := three_facts HS.out.q0
    have HPL : Hid (P.length ≤ 2000000) := by
      show _ ≤ _
      rw [HP.out]
      have h1 := shortF_le (gs.take j)
      rw [List.length_take, HLB.out] at h1
      omega
    by_cases hlt : (j : Int) < (n : Int)
    · have hjg : j < gs.length := by rw [HLB.out]; omega
      obtain ⟨_, _, hsl, hrow⟩ := (HVA.out wr HS.out.low).slice
      cases hsl
      obtain ⟨g, rfl, row⟩ := hrow j (by omega)
      obtain ⟨g', hg1, hgr⟩ := HGR.out j (by omega)
      cases hg1
      have n1 := row.name j (by omega)
      have n2 := row.val j (by omega)
      obtain ⟨x, hx⟩ : ∃ x, x = nameAt gs j := ⟨_, rfl⟩
      obtain ⟨y, hy⟩ : ∃ y, y = valAt gs j := ⟨_, rfl⟩
      rw [← hx] at n1
      rw [← hy] at n2
      have HTK : Hid (gs.take (j + 1) = gs.take j ++ [(x, y)]) := by show _ = _; rw [take_field gs j hjg, hx, hy]
      clear hx hy row hjg
      by_cases h1 : x = tagName
      · have t0 : (x.toList == tagName.toList) = true := (text_beq _ _).2 h1
        rw [tag_list] at t0
        have HYES : Hid ((x, y).1 = tagName ∨ (x, y).1 = varyName ∨ (x, y).1 = ccName) := .inl h1
        clear h1
        have HP2 : Hid (P ++ [(x, y)] = shortF (gs.take (j + 1))) := by show _ = _; rw [HTK.out, shortF_snoc, if_pos HYES.out, ← HP.out]
        have h63 : P.length + 1 ≤ maxLen := by have := HPL.out; unfold maxLen; omega
        have h47 : (P.length + 1) * 32 ≤ 140737488355328 := by have := HPL.out; omega
        obtain ⟨⟨_, u1, _⟩, _⟩ := three_facts HS.out.q2
        have HOA : Hid ((wr.drew.alloc (.cells #[.string x, .string y] 74)).ownsRow (r + 1 + 1 + 1) 74 2 (.slice oz P.length cz) P.length (flatF P)) := ((HS.out.below (Below.refl _ _).drew).own).alloc _
        have HSA : Hid (r + 1 + 1 + 1 ≤ (wr.drew.alloc (.cells #[.string x, .string y] 74)).heap.size) := by show _ ≤ _; have := HS.out.size; simp; omega
        have hsz := HS.out.size
        have hgw : g < wr.heap.size := by omega
        have hSA : (wr.drew.alloc (.cells #[.string x, .string y] 74)).cell? ⟨r, 1, none⟩ = some (.slice (some ⟨g, 0, none⟩) n cap) ∧ (wr.drew.alloc (.cells #[.string x, .string y] 74)).cell? ⟨g, j * 2, none⟩ = some (.string x) ∧ (wr.drew.alloc (.cells #[.string x, .string y] 74)).cell? ⟨g, j * 2 + 1, none⟩ = some (.string y) := by
          have b0 : Below wr.heap.size wr (wr.drew.alloc (.cells #[.string x, .string y] 74)) := (Below.refl _ wr).drew.alloc (Nat.le_refl _) _
          exact ⟨(b0.cell (p := ⟨r, 1, none⟩) (by show r < _; omega)).trans t1, (b0.cell (p := ⟨g, j * 2, none⟩) hgw).trans n1, (b0.cell (p := ⟨g, j * 2 + 1, none⟩) hgw).trans n2⟩
        have c1a : (wr.drew.alloc (.cells #[.string x, .string y] 74)).cell? ⟨r + 1 + 1, 1, none⟩ = some (.slice oz P.length cz) := by
          have b0 : Below wr.heap.size wr (wr.drew.alloc (.cells #[.string x, .string y] 74)) := (Below.refl _ wr).drew.alloc (Nat.le_refl _) _
          exact (b0.cell (p := ⟨r + 1 + 1, 1, none⟩) (by show r + 1 + 1 < _; omega)).trans u1
        have c1b : (wr.alloc (.cells #[.string x, .string y] 74)).cell? ⟨r + 1 + 1, 1, none⟩ = some (.slice oz P.length cz) := c1a
        have hnews : ∀ i v, [Value.string x, .string y][i]? = some v → (wr.drew.alloc (.cells #[.string x, .string y] 74)).cell? ((⟨wr.heap.size, 0, none⟩ : Addr).add i) = some v := World.news_of_block (heap_alloc_new wr.drew _)
        have HMORE : Hid (∀ W4 g4 cap4, (wr.drew.alloc (.cells #[.string x, .string y] 74)).grownBy W4 (Value.slice oz P.length cz).ownBlock → W4.ownsRow (r + 1 + 1 + 1) 74 2 (.slice (some ⟨g4, 0, none⟩) (P.length + 1) cap4) (P.length + 1) (flatF P ++ [.string x, .string y]) →
            (W4.cell? ⟨r, 1, none⟩ = some (.slice (some ⟨g, 0, none⟩) n cap) ∧ W4.cell? ⟨g, j * 2, none⟩ = some (.string x) ∧ W4.cell? ⟨g, j * 2 + 1, none⟩ = some (.string y)) ∧ ((W4.setCell ⟨r + 1 + 1, 1, none⟩ (.slice (some ⟨g4, 0, none⟩) (P.length + 1) cap4)).cell? ⟨r, 1, none⟩ = some (.slice (some ⟨g, 0, none⟩) n cap) ∧ (W4.setCell ⟨r + 1 + 1, 1, none⟩ (.slice (some ⟨g4, 0, none⟩) (P.length + 1) cap4)).cell? ⟨g, j * 2, none⟩ = some (.string x) ∧ (W4.setCell ⟨r + 1 + 1, 1, none⟩ (.slice (some ⟨g4, 0, none⟩) (P.length + 1) cap4)).cell? ⟨g, j * 2 + 1, none⟩ = some (.string y)) ∧ (∃ q, W4.cell? ⟨r + 1 + 1, 1, none⟩ = some q) ∧ W4.frozen? ⟨r + 1 + 1, 1, none⟩ = false ∧
            ShSt w r st (.slice (some ⟨g, 0, none⟩) n cap) b (.slice (some ⟨g4, 0, none⟩) (P.length + 1) cap4) (P ++ [(x, y)]) (W4.setCell ⟨r + 1 + 1, 1, none⟩ (.slice (some ⟨g4, 0, none⟩) (P.length + 1) cap4))) := by
          intro W4 g4 cap4 hg4 ho4
          have b0 : Below wr.heap.size wr (wr.drew.alloc (.cells #[.string x, .string y] 74)) := (Below.refl _ wr).drew.alloc (Nat.le_refl _) _
          have h1 := HS.out.below b0
          have bg : Below (r + 1 + 1 + 1) (wr.drew.alloc (.cells #[.string x, .string y] 74)) W4 := below_grownO hg4 HSA.out (fun q hq => owns_ge HOA.out hq)
          have e0 := (bg.block r (by omega)).trans h1.q0
          have e1 := (bg.block (r + 1) (by omega)).trans h1.q1
          have e2 := (bg.block (r + 1 + 1) (by omega)).trans h1.q2
          obtain ⟨⟨_, a1, _⟩, _⟩ := three_facts e0
          obtain ⟨⟨_, a2, _⟩, _, a3, _⟩ := three_facts e2
          have m1 : W4.cell? ⟨g, j * 2, none⟩ = some (.string x) := (bg.cell (p := ⟨g, j * 2, none⟩) (by show g < _; omega)).trans hSA.2.1
          have m2 : W4.cell? ⟨g, j * 2 + 1, none⟩ = some (.string y) := (bg.cell (p := ⟨g, j * 2 + 1, none⟩) (by show g < _; omega)).trans hSA.2.2
          refine ⟨⟨a1, m1, m2⟩, ⟨by rw [cell_set_other _ _ _ _ _ _ (by omega)]; exact a1, by rw [cell_set_other _ _ _ _ _ _ (by omega)]; exact m1, by rw [cell_set_other _ _ _ _ _ _ (by omega)]; exact m2⟩, ⟨_, a2⟩, a3, ⟨by rw [heap_setCell_other _ _ r _ (by show r ≠ r + 1 + 1; omega)]; exact e0, by rw [heap_setCell_other _ _ (r + 1) _ (by show r + 1 ≠ r + 1 + 1; omega)]; exact e1, ?_, ?_, (h1.low.trans (bg.mono (by omega))).setCell (by show r ≤ r + 1 + 1; omega) _⟩⟩
          · have := heap_set W4 (r + 1 + 1) 1 _ _ _ (.slice (some ⟨g4, 0, none⟩) (P.length + 1) cap4) e2
            simpa using this
          · rw [List.length_append, flatF_append, flatF_one]
            refine owns_same ho4 (fun q hq => heap_setCell_other _ _ q _ ?_)
            have := owns_ge ho4 hq
            show q ≠ r + 1 + 1
            omega
        clear HS HP HTK HYES hgw hsz
        go_upto_region 7 with fail
        refine wp_region_held_drew (S := fun W => W.cell? ⟨r, 1, none⟩ = some (.slice (some ⟨g, 0, none⟩) n cap) ∧ W.cell? ⟨g, j * 2, none⟩ = some (.string x) ∧ W.cell? ⟨g, j * 2 + 1, none⟩ = some (.string y)) (by kernel_rfl) ⟨t1, n1, n2⟩ (fun hS0 => ?_)
        refine wpAnyH_takeD (i := 0) (v := .pointer (some ⟨r + 1 + 1, 1, none⟩)) (some 30) rfl rfl (by kernel_rfl) (by kernel_rfl) (by kernel_rfl) (fun _ _ _ h => h) (Or.inl ⟨by rfl, by intro W _; go_simp⟩) hS0 ?_
        simp only [Act.put, List.setIfInBounds_toArray, List.set_cons_zero, List.set_cons_succ]
        refine wpAnyH_takeD (i := 2) (v := .pointer (some ⟨r, 1, none⟩)) (some 32) rfl rfl (by kernel_rfl) (by kernel_rfl) (by kernel_rfl) (fun _ _ _ h => h) (Or.inl ⟨by rfl, by intro W _; go_simp⟩) hS0 ?_
        simp only [Act.put, List.setIfInBounds_toArray, List.set_cons_zero, List.set_cons_succ]
        refine wpAnyH_takeD (i := 3) (v := .slice (some ⟨g, 0, none⟩) n cap) (some 33) rfl rfl (by kernel_rfl) (by kernel_rfl) (by kernel_rfl) (fun _ _ _ h => h) (Or.inl ⟨by rfl, by intro W hW; obtain ⟨h1, h2, h3⟩ := hW; go_simp⟩) hS0 ?_
        simp only [Act.put, List.setIfInBounds_toArray, List.set_cons_zero, List.set_cons_succ]
        refine wpAnyH_takeD (i := 4) (v := .int .i64 (j : Int)) (some 34) rfl rfl (by kernel_rfl) (by kernel_rfl) (by kernel_rfl) (fun _ _ _ h => h) (Or.inl ⟨by rfl, by intro W _; go_simp⟩) hS0 ?_
        simp only [Act.put, List.setIfInBounds_toArray, List.set_cons_zero, List.set_cons_succ]
        refine wpAnyH_takeD (i := 5) (v := .pointer (some ⟨g, j * 2, none⟩)) (some 35) rfl rfl (by kernel_rfl) (by kernel_rfl) (by kernel_rfl) (fun _ _ _ h => h) (Or.inl ⟨by rfl, by intro W _; go_simp⟩) hS0 ?_
        simp only [Act.put, List.setIfInBounds_toArray, List.set_cons_zero, List.set_cons_succ]
        refine wpAnyH_takeD (i := 6) (v := .agg #[.string x, .string y]) (some 36) rfl rfl (by kernel_rfl) (by kernel_rfl) (by kernel_rfl) (fun _ _ _ h => h) (Or.inl ⟨by rfl, by intro W hW; obtain ⟨h1, h2, h3⟩ := hW; go_simp⟩) hS0 ?_
        simp only [Act.put, List.setIfInBounds_toArray, List.set_cons_zero, List.set_cons_succ]
        refine wpAnyH_ready (rs := [1, 7]) (by kernel_rfl) (by simp) ?_
        refine AllReadyH.cons rfl (fun K hK => ?_) (AllReadyH.cons rfl (fun K hK => ?_) AllReadyH.nil)
        · go_simp
          refine hK.out _ _ hS0 (fun _ => ?_)
          clear hK K
          refine wpAnyH_ready (rs := [7]) (by kernel_rfl) (by simp) ?_
          refine AllReadyH.cons rfl (fun K hK => ?_) AllReadyH.nil
          go_simp
          refine hK.out _ _ hSA (fun _ => ?_)
          clear hK K
          refine wpAnyH_ready (rs := [8]) (by kernel_rfl) (by simp) ?_
          refine AllReadyH.cons rfl (fun K hK => ?_) AllReadyH.nil
          refine step_append_lies _ (by rfl) _ _ _ (by rfl) (r + 1 + 1 + 1) 74 i0 (.agg #[.string ⟨#[]⟩, .string ⟨#[]⟩]) 2 32 Tryz.underlying24 hi hz0 hz1 hz2 rfl (by omega) (.slice oz P.length cz) P.length (flatF P) (by rfl) HOA.out ⟨wr.heap.size, 0, none⟩ 1 1 [.string x, .string y] (by rfl) (by rfl) hnews (by simp [Value.oneCell']) (by omega) h63 h47 HSA.out (wr.heap.size + 1) (by simp) ?_
          intro g4 cap4 w4 hown4 hgrow4 _ _
          obtain ⟨hS4, hS5, ⟨q5, hq5⟩, f5, hM⟩ := HMORE.out w4 g4 cap4 hgrow4 hown4
          have HM : Hid (ShSt w r st (.slice (some ⟨g, 0, none⟩) n cap) b (.slice (some ⟨g4, 0, none⟩) (P.length + 1) cap4) (P ++ [(x, y)]) (w4.setCell ⟨r + 1 + 1, 1, none⟩ (.slice (some ⟨g4, 0, none⟩) (P.length + 1) cap4))) := hM
          clear hown4 hgrow4 hM HMORE
          simp only [Act.put, List.setIfInBounds_toArray]
          refine hK.out _ _ hS4 (fun _ => ?_)
          clear hK K
          refine wpAnyH_takeD (i := 9) (v := .pointer (some ⟨r + 1 + 1, 1, none⟩)) (some 39) rfl rfl (by kernel_rfl) (by kernel_rfl) (by kernel_rfl) (fun _ _ _ h => h) (Or.inl ⟨by rfl, by intro W _; go_simp⟩) hS4 ?_
          simp only [Act.put]
          refine wpAnyH_ready (rs := [10]) (by kernel_rfl) (by simp) ?_
          refine AllReadyH.cons rfl (fun K hK => ?_) AllReadyH.nil
          go_simp
          refine hK.out _ _ hS5 (fun _ => ?_)
          clear hK K hq5 f5 hS4 hS5 hS0 hSA t1 n1 n2 u1 c1a c1b hnews
          refine wpAnyH_done (by kernel_rfl) ?_ _
          go_wp2_with fail
          go_roundw
          case rel => exact ⟨j + 1, _, P ++ [(x, y)], by omega, by go_num, HM, HP2⟩
          case measure => simp [intOf]; omega
        · go_simp
          refine hK.out _ _ hSA (fun _ => ?_)
          clear hK K
          refine wpAnyH_ready (rs := [1]) (by kernel_rfl) (by simp) ?_
          refine AllReadyH.cons rfl (fun K hK => ?_) AllReadyH.nil
          go_simp
          refine hK.out _ _ hSA (fun _ => ?_)
          clear hK K
          refine wpAnyH_ready (rs := [8]) (by kernel_rfl) (by simp) ?_
          refine AllReadyH.cons rfl (fun K hK => ?_) AllReadyH.nil
          refine step_append_lies _ (by rfl) _ _ _ (by rfl) (r + 1 + 1 + 1) 74 i0 (.agg #[.string ⟨#[]⟩, .string ⟨#[]⟩]) 2 32 Tryz.underlying24 hi hz0 hz1 hz2 rfl (by omega) (.slice oz P.length cz) P.length (flatF P) (by rfl) HOA.out ⟨wr.heap.size, 0, none⟩ 1 1 [.string x, .string y] (by rfl) (by rfl) hnews (by simp [Value.oneCell']) (by omega) h63 h47 HSA.out (wr.heap.size + 1) (by simp) ?_
          intro g4 cap4 w4 hown4 hgrow4 _ _
          obtain ⟨hS4, hS5, ⟨q5, hq5⟩, f5, hM⟩ := HMORE.out w4 g4 cap4 hgrow4 hown4
          have HM : Hid (ShSt w r st (.slice (some ⟨g, 0, none⟩) n cap) b (.slice (some ⟨g4, 0, none⟩) (P.length + 1) cap4) (P ++ [(x, y)]) (w4.setCell ⟨r + 1 + 1, 1, none⟩ (.slice (some ⟨g4, 0, none⟩) (P.length + 1) cap4))) := hM
          clear hown4 hgrow4 hM HMORE
          simp only [Act.put, List.setIfInBounds_toArray]
          refine hK.out _ _ hS4 (fun _ => ?_)
          clear hK K
          refine wpAnyH_takeD (i := 9) (v := .pointer (some ⟨r + 1 + 1, 1, none⟩)) (some 39) rfl rfl (by kernel_rfl) (by kernel_rfl) (by kernel_rfl) (fun _ _ _ h => h) (Or.inl ⟨by rfl, by intro W _; go_simp⟩) hS4 ?_
          simp only [Act.put]
          refine wpAnyH_ready (rs := [10]) (by kernel_rfl) (by simp) ?_
          refine AllReadyH.cons rfl (fun K hK => ?_) AllReadyH.nil
          go_simp
          refine hK.out _ _ hS5 (fun _ => ?_)
          clear hK K hq5 f5 hS4 hS5 hS0 hSA t1 n1 n2 u1 c1a c1b hnews
          refine wpAnyH_done (by kernel_rfl) ?_ _
          go_wp2_with fail
          go_roundw
          case rel => exact ⟨j + 1, _, P ++ [(x, y)], by omega, by go_num, HM, HP2⟩
          case measure => simp [intOf]; omega
      · have t0 : (x.toList == tagName.toList) = false := text_beq_no h1
        rw [tag_list] at t0
        by_cases h2 : x = varyName
        · have t2 : (x.toList == varyName.toList) = true := (text_beq _ _).2 h2
          rw [vary_list] at t2
          have HYES : Hid ((x, y).1 = tagName ∨ (x, y).1 = varyName ∨ (x, y).1 = ccName) := .inr (.inl h2)
          clear h1 h2
          have HP2 : Hid (P ++ [(x, y)] = shortF (gs.take (j + 1))) := by show _ = _; rw [HTK.out, shortF_snoc, if_pos HYES.out, ← HP.out]
          have h63 : P.length + 1 ≤ maxLen := by have := HPL.out; unfold maxLen; omega
          have h47 : (P.length + 1) * 32 ≤ 140737488355328 := by have := HPL.out; omega
          obtain ⟨⟨_, u1, _⟩, _⟩ := three_facts HS.out.q2
          have HOA : Hid ((wr.drew.alloc (.cells #[.string x, .string y] 74)).ownsRow (r + 1 + 1 + 1) 74 2 (.slice oz P.length cz) P.length (flatF P)) := ((HS.out.below (Below.refl _ _).drew).own).alloc _
          have HSA : Hid (r + 1 + 1 + 1 ≤ (wr.drew.alloc (.cells #[.string x, .string y] 74)).heap.size) := by show _ ≤ _; have := HS.out.size; simp; omega
          have hsz := HS.out.size
          have hgw : g < wr.heap.size := by omega
          have hSA : (wr.drew.alloc (.cells #[.string x, .string y] 74)).cell? ⟨r, 1, none⟩ = some (.slice (some ⟨g, 0, none⟩) n cap) ∧ (wr.drew.alloc (.cells #[.string x, .string y] 74)).cell? ⟨g, j * 2, none⟩ = some (.string x) ∧ (wr.drew.alloc (.cells #[.string x, .string y] 74)).cell? ⟨g, j * 2 + 1, none⟩ = some (.string y) := by
            have b0 : Below wr.heap.size wr (wr.drew.alloc (.cells #[.string x, .string y] 74)) := (Below.refl _ wr).drew.alloc (Nat.le_refl _) _
            exact ⟨(b0.cell (p := ⟨r, 1, none⟩) (by show r < _; omega)).trans t1, (b0.cell (p := ⟨g, j * 2, none⟩) hgw).trans n1, (b0.cell (p := ⟨g, j * 2 + 1, none⟩) hgw).trans n2⟩
          have c1a : (wr.drew.alloc (.cells #[.string x, .string y] 74)).cell? ⟨r + 1 + 1, 1, none⟩ = some (.slice oz P.length cz) := by
            have b0 : Below wr.heap.size wr (wr.drew.alloc (.cells #[.string x, .string y] 74)) := (Below.refl _ wr).drew.alloc (Nat.le_refl _) _
            exact (b0.cell (p := ⟨r + 1 + 1, 1, none⟩) (by show r + 1 + 1 < _; omega)).trans u1
          have c1b : (wr.alloc (.cells #[.string x, .string y] 74)).cell? ⟨r + 1 + 1, 1, none⟩ = some (.slice oz P.length cz) := c1a
          have hnews : ∀ i v, [Value.string x, .string y][i]? = some v → (wr.drew.alloc (.cells #[.string x, .string y] 74)).cell? ((⟨wr.heap.size, 0, none⟩ : Addr).add i) = some v := World.news_of_block (heap_alloc_new wr.drew _)
          have HMORE : Hid (∀ W4 g4 cap4, (wr.drew.alloc (.cells #[.string x, .string y] 74)).grownBy W4 (Value.slice oz P.length cz).ownBlock → W4.ownsRow (r + 1 + 1 + 1) 74 2 (.slice (some ⟨g4, 0, none⟩) (P.length + 1) cap4) (P.length + 1) (flatF P ++ [.string x, .string y]) →
              (W4.cell? ⟨r, 1, none⟩ = some (.slice (some ⟨g, 0, none⟩) n cap) ∧ W4.cell? ⟨g, j * 2, none⟩ = some (.string x) ∧ W4.cell? ⟨g, j * 2 + 1, none⟩ = some (.string y)) ∧ ((W4.setCell ⟨r + 1 + 1, 1, none⟩ (.slice (some ⟨g4, 0, none⟩) (P.length + 1) cap4)).cell? ⟨r, 1, none⟩ = some (.slice (some ⟨g, 0, none⟩) n cap) ∧ (W4.setCell ⟨r + 1 + 1, 1, none⟩ (.slice (some ⟨g4, 0, none⟩) (P.length + 1) cap4)).cell? ⟨g, j * 2, none⟩ = some (.string x) ∧ (W4.setCell ⟨r + 1 + 1, 1, none⟩ (.slice (some ⟨g4, 0, none⟩) (P.length + 1) cap4)).cell? ⟨g, j * 2 + 1, none⟩ = some (.string y)) ∧ (∃ q, W4.cell? ⟨r + 1 + 1, 1, none⟩ = some q) ∧ W4.frozen? ⟨r + 1 + 1, 1, none⟩ = false ∧
              ShSt w r st (.slice (some ⟨g, 0, none⟩) n cap) b (.slice (some ⟨g4, 0, none⟩) (P.length + 1) cap4) (P ++ [(x, y)]) (W4.setCell ⟨r + 1 + 1, 1, none⟩ (.slice (some ⟨g4, 0, none⟩) (P.length + 1) cap4))) := by
            intro W4 g4 cap4 hg4 ho4
            have b0 : Below wr.heap.size wr (wr.drew.alloc (.cells #[.string x, .string y] 74)) := (Below.refl _ wr).drew.alloc (Nat.le_refl _) _
            have h1 := HS.out.below b0
            have bg : Below (r + 1 + 1 + 1) (wr.drew.alloc (.cells #[.string x, .string y] 74)) W4 := below_grownO hg4 HSA.out (fun q hq => owns_ge HOA.out hq)
            have e0 := (bg.block r (by omega)).trans h1.q0
            have e1 := (bg.block (r + 1) (by omega)).trans h1.q1
            have e2 := (bg.block (r + 1 + 1) (by omega)).trans h1.q2
            obtain ⟨⟨_, a1, _⟩, _⟩ := three_facts e0
            obtain ⟨⟨_, a2, _⟩, _, a3, _⟩ := three_facts e2
            have m1 : W4.cell? ⟨g, j * 2, none⟩ = some (.string x) := (bg.cell (p := ⟨g, j * 2, none⟩) (by show g < _; omega)).trans hSA.2.1
            have m2 : W4.cell? ⟨g, j * 2 + 1, none⟩ = some (.string y) := (bg.cell (p := ⟨g, j * 2 + 1, none⟩) (by show g < _; omega)).trans hSA.2.2
            refine ⟨⟨a1, m1, m2⟩, ⟨by rw [cell_set_other _ _ _ _ _ _ (by omega)]; exact a1, by rw [cell_set_other _ _ _ _ _ _ (by omega)]; exact m1, by rw [cell_set_other _ _ _ _ _ _ (by omega)]; exact m2⟩, ⟨_, a2⟩, a3, ⟨by rw [heap_setCell_other _ _ r _ (by show r ≠ r + 1 + 1; omega)]; exact e0, by rw [heap_setCell_other _ _ (r + 1) _ (by show r + 1 ≠ r + 1 + 1; omega)]; exact e1, ?_, ?_, (h1.low.trans (bg.mono (by omega))).setCell (by show r ≤ r + 1 + 1; omega) _⟩⟩
            · have := heap_set W4 (r + 1 + 1) 1 _ _ _ (.slice (some ⟨g4, 0, none⟩) (P.length + 1) cap4) e2
              simpa using this
            · rw [List.length_append, flatF_append, flatF_one]
              refine owns_same ho4 (fun q hq => heap_setCell_other _ _ q _ ?_)
              have := owns_ge ho4 hq
              show q ≠ r + 1 + 1
              omega
          clear HS HP HTK HYES hgw hsz
          go_upto_region 7 with fail
          refine wp_region_held_drew (S := fun W => W.cell? ⟨r, 1, none⟩ = some (.slice (some ⟨g, 0, none⟩) n cap) ∧ W.cell? ⟨g, j * 2, none⟩ = some (.string x) ∧ W.cell? ⟨g, j * 2 + 1, none⟩ = some (.string y)) (by kernel_rfl) ⟨t1, n1, n2⟩ (fun hS0 => ?_)
          refine wpAnyH_takeD (i := 0) (v := .pointer (some ⟨r + 1 + 1, 1, none⟩)) (some 30) rfl rfl (by kernel_rfl) (by kernel_rfl) (by kernel_rfl) (fun _ _ _ h => h) (Or.inl ⟨by rfl, by intro W _; go_simp⟩) hS0 ?_
          simp only [Act.put, List.setIfInBounds_toArray, List.set_cons_zero, List.set_cons_succ]
          refine wpAnyH_takeD (i := 2) (v := .pointer (some ⟨r, 1, none⟩)) (some 32) rfl rfl (by kernel_rfl) (by kernel_rfl) (by kernel_rfl) (fun _ _ _ h => h) (Or.inl ⟨by rfl, by intro W _; go_simp⟩) hS0 ?_
          simp only [Act.put, List.setIfInBounds_toArray, List.set_cons_zero, List.set_cons_succ]
          refine wpAnyH_takeD (i := 3) (v := .slice (some ⟨g, 0, none⟩) n cap) (some 33) rfl rfl (by kernel_rfl) (by kernel_rfl) (by kernel_rfl) (fun _ _ _ h => h) (Or.inl ⟨by rfl, by intro W hW; obtain ⟨h1, h2, h3⟩ := hW; go_simp⟩) hS0 ?_
          simp only [Act.put, List.setIfInBounds_toArray, List.set_cons_zero, List.set_cons_succ]
          refine wpAnyH_takeD (i := 4) (v := .int .i64 (j : Int)) (some 34) rfl rfl (by kernel_rfl) (by kernel_rfl) (by kernel_rfl) (fun _ _ _ h => h) (Or.inl ⟨by rfl, by intro W _; go_simp⟩) hS0 ?_
          simp only [Act.put, List.setIfInBounds_toArray, List.set_cons_zero, List.set_cons_succ]
          refine wpAnyH_takeD (i := 5) (v := .pointer (some ⟨g, j * 2, none⟩)) (some 35) rfl rfl (by kernel_rfl) (by kernel_rfl) (by kernel_rfl) (fun _ _ _ h => h) (Or.inl ⟨by rfl, by intro W _; go_simp⟩) hS0 ?_
          simp only [Act.put, List.setIfInBounds_toArray, List.set_cons_zero, List.set_cons_succ]
          refine wpAnyH_takeD (i := 6) (v := .agg #[.string x, .string y]) (some 36) rfl rfl (by kernel_rfl) (by kernel_rfl) (by kernel_rfl) (fun _ _ _ h => h) (Or.inl ⟨by rfl, by intro W hW; obtain ⟨h1, h2, h3⟩ := hW; go_simp⟩) hS0 ?_
          simp only [Act.put, List.setIfInBounds_toArray, List.set_cons_zero, List.set_cons_succ]
          refine wpAnyH_ready (rs := [1, 7]) (by kernel_rfl) (by simp) ?_
          refine AllReadyH.cons rfl (fun K hK => ?_) (AllReadyH.cons rfl (fun K hK => ?_) AllReadyH.nil)
          · go_simp
            refine hK.out _ _ hS0 (fun _ => ?_)
            clear hK K
            refine wpAnyH_ready (rs := [7]) (by kernel_rfl) (by simp) ?_
            refine AllReadyH.cons rfl (fun K hK => ?_) AllReadyH.nil
            go_simp
            refine hK.out _ _ hSA (fun _ => ?_)
            clear hK K
            refine wpAnyH_ready (rs := [8]) (by kernel_rfl) (by simp) ?_
            refine AllReadyH.cons rfl (fun K hK => ?_) AllReadyH.nil
            refine step_append_lies _ (by rfl) _ _ _ (by rfl) (r + 1 + 1 + 1) 74 i0 (.agg #[.string ⟨#[]⟩, .string ⟨#[]⟩]) 2 32 Tryz.underlying24 hi hz0 hz1 hz2 rfl (by omega) (.slice oz P.length cz) P.length (flatF P) (by rfl) HOA.out ⟨wr.heap.size, 0, none⟩ 1 1 [.string x, .string y] (by rfl) (by rfl) hnews (by simp [Value.oneCell']) (by omega) h63 h47 HSA.out (wr.heap.size + 1) (by simp) ?_
            intro g4 cap4 w4 hown4 hgrow4 _ _
            obtain ⟨hS4, hS5, ⟨q5, hq5⟩, f5, hM⟩ := HMORE.out w4 g4 cap4 hgrow4 hown4
            have HM : Hid (ShSt w r st (.slice (some ⟨g, 0, none⟩) n cap) b (.slice (some ⟨g4, 0, none⟩) (P.length + 1) cap4) (P ++ [(x, y)]) (w4.setCell ⟨r + 1 + 1, 1, none⟩ (.slice (some ⟨g4, 0, none⟩) (P.length + 1) cap4))) := hM
            clear hown4 hgrow4 hM HMORE
            simp only [Act.put, List.setIfInBounds_toArray]
            refine hK.out _ _ hS4 (fun _ => ?_)
            clear hK K
            refine wpAnyH_takeD (i := 9) (v := .pointer (some ⟨r + 1 + 1, 1, none⟩)) (some 39) rfl rfl (by kernel_rfl) (by kernel_rfl) (by kernel_rfl) (fun _ _ _ h => h) (Or.inl ⟨by rfl, by intro W _; go_simp⟩) hS4 ?_
            simp only [Act.put]
            refine wpAnyH_ready (rs := [10]) (by kernel_rfl) (by simp) ?_
            refine AllReadyH.cons rfl (fun K hK => ?_) AllReadyH.nil
            go_simp
            refine hK.out _ _ hS5 (fun _ => ?_)
            clear hK K hq5 f5 hS4 hS5 hS0 hSA t1 n1 n2 u1 c1a c1b hnews
            refine wpAnyH_done (by kernel_rfl) ?_ _
            go_wp2_with fail
            go_roundw
            case rel => exact ⟨j + 1, _, P ++ [(x, y)], by omega, by go_num, HM, HP2⟩
            case measure => simp [intOf]; omega
          · go_simp
            refine hK.out _ _ hSA (fun _ => ?_)
            clear hK K
            refine wpAnyH_ready (rs := [1]) (by kernel_rfl) (by simp) ?_
            refine AllReadyH.cons rfl (fun K hK => ?_) AllReadyH.nil
            go_simp
            refine hK.out _ _ hSA (fun _ => ?_)
            clear hK K
            refine wpAnyH_ready (rs := [8]) (by kernel_rfl) (by simp) ?_
            refine AllReadyH.cons rfl (fun K hK => ?_) AllReadyH.nil
            refine step_append_lies _ (by rfl) _ _ _ (by rfl) (r + 1 + 1 + 1) 74 i0 (.agg #[.string ⟨#[]⟩, .string ⟨#[]⟩]) 2 32 Tryz.underlying24 hi hz0 hz1 hz2 rfl (by omega) (.slice oz P.length cz) P.length (flatF P) (by rfl) HOA.out ⟨wr.heap.size, 0, none⟩ 1 1 [.string x, .string y] (by rfl) (by rfl) hnews (by simp [Value.oneCell']) (by omega) h63 h47 HSA.out (wr.heap.size + 1) (by simp) ?_
            intro g4 cap4 w4 hown4 hgrow4 _ _
            obtain ⟨hS4, hS5, ⟨q5, hq5⟩, f5, hM⟩ := HMORE.out w4 g4 cap4 hgrow4 hown4
            have HM : Hid (ShSt w r st (.slice (some ⟨g, 0, none⟩) n cap) b (.slice (some ⟨g4, 0, none⟩) (P.length + 1) cap4) (P ++ [(x, y)]) (w4.setCell ⟨r + 1 + 1, 1, none⟩ (.slice (some ⟨g4, 0, none⟩) (P.length + 1) cap4))) := hM
            clear hown4 hgrow4 hM HMORE
            simp only [Act.put, List.setIfInBounds_toArray]
            refine hK.out _ _ hS4 (fun _ => ?_)
            clear hK K
            refine wpAnyH_takeD (i := 9) (v := .pointer (some ⟨r + 1 + 1, 1, none⟩)) (some 39) rfl rfl (by kernel_rfl) (by kernel_rfl) (by kernel_rfl) (fun _ _ _ h => h) (Or.inl ⟨by rfl, by intro W _; go_simp⟩) hS4 ?_
            simp only [Act.put]
            refine wpAnyH_ready (rs := [10]) (by kernel_rfl) (by simp) ?_
            refine AllReadyH.cons rfl (fun K hK => ?_) AllReadyH.nil
            go_simp
            refine hK.out _ _ hS5 (fun _ => ?_)
            clear hK K hq5 f5 hS4 hS5 hS0 hSA t1 n1 n2 u1 c1a c1b hnews
            refine wpAnyH_done (by kernel_rfl) ?_ _
            go_wp2_with fail
            go_roundw
            case rel => exact ⟨j + 1, _, P ++ [(x, y)], by omega, by go_num, HM, HP2⟩
            case measure => simp [intOf]; omega
        · have t2 : (x.toList == varyName.toList) = false := text_beq_no h2
          rw [vary_list] at t2
          by_cases h3 : x = ccName
          · have t3 : (x.toList == ccName.toList) = true := (text_beq _ _).2 h3
            rw [ccN_list] at t3
            have HYES : Hid ((x, y).1 = tagName ∨ (x, y).1 = varyName ∨ (x, y).1 = ccName) := .inr (.inr h3)
            clear h1 h2 h3
            have HP2 : Hid (P ++ [(x, y)] = shortF (gs.take (j + 1))) := by show _ = _; rw [HTK.out, shortF_snoc, if_pos HYES.out, ← HP.out]
            have h63 : P.length + 1 ≤ maxLen := by have := HPL.out; unfold maxLen; omega
            have h47 : (P.length + 1) * 32 ≤ 140737488355328 := by have := HPL.out; omega
            obtain ⟨⟨_, u1, _⟩, _⟩ := three_facts HS.out.q2
            have HOA : Hid ((wr.drew.alloc (.cells #[.string x, .string y] 74)).ownsRow (r + 1 + 1 + 1) 74 2 (.slice oz P.length cz) P.length (flatF P)) := ((HS.out.below (Below.refl _ _).drew).own).alloc _
            have HSA : Hid (r + 1 + 1 + 1 ≤ (wr.drew.alloc (.cells #[.string x, .string y] 74)).heap.size) := by show _ ≤ _; have := HS.out.size; simp; omega
            have hsz := HS.out.size
            have hgw : g < wr.heap.size := by omega
            have hSA : (wr.drew.alloc (.cells #[.string x, .string y] 74)).cell? ⟨r, 1, none⟩ = some (.slice (some ⟨g, 0, none⟩) n cap) ∧ (wr.drew.alloc (.cells #[.string x, .string y] 74)).cell? ⟨g, j * 2, none⟩ = some (.string x) ∧ (wr.drew.alloc (.cells #[.string x, .string y] 74)).cell? ⟨g, j * 2 + 1, none⟩ = some (.string y) := by
              have b0 : Below wr.heap.size wr (wr.drew.alloc (.cells #[.string x, .string y] 74)) := (Below.refl _ wr).drew.alloc (Nat.le_refl _) _
              exact ⟨(b0.cell (p := ⟨r, 1, none⟩) (by show r < _; omega)).trans t1, (b0.cell (p := ⟨g, j * 2, none⟩) hgw).trans n1, (b0.cell (p := ⟨g, j * 2 + 1, none⟩) hgw).trans n2⟩
            have c1a : (wr.drew.alloc (.cells #[.string x, .string y] 74)).cell? ⟨r + 1 + 1, 1, none⟩ = some (.slice oz P.length cz) := by
              have b0 : Below wr.heap.size wr (wr.drew.alloc (.cells #[.string x, .string y] 74)) := (Below.refl _ wr).drew.alloc (Nat.le_refl _) _
              exact (b0.cell (p := ⟨r + 1 + 1, 1, none⟩) (by show r + 1 + 1 < _; omega)).trans u1
            have c1b : (wr.alloc (.cells #[.string x, .string y] 74)).cell? ⟨r + 1 + 1, 1, none⟩ = some (.slice oz P.length cz) := c1a
            have hnews : ∀ i v, [Value.string x, .string y][i]? = some v → (wr.drew.alloc (.cells #[.string x, .string y] 74)).cell? ((⟨wr.heap.size, 0, none⟩ : Addr).add i) = some v := World.news_of_block (heap_alloc_new wr.drew _)
            have HMORE : Hid (∀ W4 g4 cap4, (wr.drew.alloc (.cells #[.string x, .string y] 74)).grownBy W4 (Value.slice oz P.length cz).ownBlock → W4.ownsRow (r + 1 + 1 + 1) 74 2 (.slice (some ⟨g4, 0, none⟩) (P.length + 1) cap4) (P.length + 1) (flatF P ++ [.string x, .string y]) →
                (W4.cell? ⟨r, 1, none⟩ = some (.slice (some ⟨g, 0, none⟩) n cap) ∧ W4.cell? ⟨g, j * 2, none⟩ = some (.string x) ∧ W4.cell? ⟨g, j * 2 + 1, none⟩ = some (.string y)) ∧ ((W4.setCell ⟨r + 1 + 1, 1, none⟩ (.slice (some ⟨g4, 0, none⟩) (P.length + 1) cap4)).cell? ⟨r, 1, none⟩ = some (.slice (some ⟨g, 0, none⟩) n cap) ∧ (W4.setCell ⟨r + 1 + 1, 1, none⟩ (.slice (some ⟨g4, 0, none⟩) (P.length + 1) cap4)).cell? ⟨g, j * 2, none⟩ = some (.string x) ∧ (W4.setCell ⟨r + 1 + 1, 1, none⟩ (.slice (some ⟨g4, 0, none⟩) (P.length + 1) cap4)).cell? ⟨g, j * 2 + 1, none⟩ = some (.string y)) ∧ (∃ q, W4.cell? ⟨r + 1 + 1, 1, none⟩ = some q) ∧ W4.frozen? ⟨r + 1 + 1, 1, none⟩ = false ∧
                ShSt w r st (.slice (some ⟨g, 0, none⟩) n cap) b (.slice (some ⟨g4, 0, none⟩) (P.length + 1) cap4) (P ++ [(x, y)]) (W4.setCell ⟨r + 1 + 1, 1, none⟩ (.slice (some ⟨g4, 0, none⟩) (P.length + 1) cap4))) := by
              intro W4 g4 cap4 hg4 ho4
              have b0 : Below wr.heap.size wr (wr.drew.alloc (.cells #[.string x, .string y] 74)) := (Below.refl _ wr).drew.alloc (Nat.le_refl _) _
              have h1 := HS.out.below b0
              have bg : Below (r + 1 + 1 + 1) (wr.drew.alloc (.cells #[.string x, .string y] 74)) W4 := below_grownO hg4 HSA.out (fun q hq => owns_ge HOA.out hq)
              have e0 := (bg.block r (by omega)).trans h1.q0
              have e1 := (bg.block (r + 1) (by omega)).trans h1.q1
              have e2 := (bg.block (r + 1 + 1) (by omega)).trans h1.q2
              obtain ⟨⟨_, a1, _⟩, _⟩ := three_facts e0
              obtain ⟨⟨_, a2, _⟩, _, a3, _⟩ := three_facts e2
              have m1 : W4.cell? ⟨g, j * 2, none⟩ = some (.string x) := (bg.cell (p := ⟨g, j * 2, none⟩) (by show g < _; omega)).trans hSA.2.1
              have m2 : W4.cell? ⟨g, j * 2 + 1, none⟩ = some (.string y) := (bg.cell (p := ⟨g, j * 2 + 1, none⟩) (by show g < _; omega)).trans hSA.2.2
              refine ⟨⟨a1, m1, m2⟩, ⟨by rw [cell_set_other _ _ _ _ _ _ (by omega)]; exact a1, by rw [cell_set_other _ _ _ _ _ _ (by omega)]; exact m1, by rw [cell_set_other _ _ _ _ _ _ (by omega)]; exact m2⟩, ⟨_, a2⟩, a3, ⟨by rw [heap_setCell_other _ _ r _ (by show r ≠ r + 1 + 1; omega)]; exact e0, by rw [heap_setCell_other _ _ (r + 1) _ (by show r + 1 ≠ r + 1 + 1; omega)]; exact e1, ?_, ?_, (h1.low.trans (bg.mono (by omega))).setCell (by show r ≤ r + 1 + 1; omega) _⟩⟩
              · have := heap_set W4 (r + 1 + 1) 1 _ _ _ (.slice (some ⟨g4, 0, none⟩) (P.length + 1) cap4) e2
                simpa using this
              · rw [List.length_append, flatF_append, flatF_one]
                refine owns_same ho4 (fun q hq => heap_setCell_other _ _ q _ ?_)
                have := owns_ge ho4 hq
                show q ≠ r + 1 + 1
                omega
            clear HS HP HTK HYES hgw hsz
            go_upto_region 7 with fail
            refine wp_region_held_drew (S := fun W => W.cell? ⟨r, 1, none⟩ = some (.slice (some ⟨g, 0, none⟩) n cap) ∧ W.cell? ⟨g, j * 2, none⟩ = some (.string x) ∧ W.cell? ⟨g, j * 2 + 1, none⟩ = some (.string y)) (by kernel_rfl) ⟨t1, n1, n2⟩ (fun hS0 => ?_)
            refine wpAnyH_takeD (i := 0) (v := .pointer (some ⟨r + 1 + 1, 1, none⟩)) (some 30) rfl rfl (by kernel_rfl) (by kernel_rfl) (by kernel_rfl) (fun _ _ _ h => h) (Or.inl ⟨by rfl, by intro W _; go_simp⟩) hS0 ?_
            simp only [Act.put, List.setIfInBounds_toArray, List.set_cons_zero, List.set_cons_succ]
            refine wpAnyH_takeD (i := 2) (v := .pointer (some ⟨r, 1, none⟩)) (some 32) rfl rfl (by kernel_rfl) (by kernel_rfl) (by kernel_rfl) (fun _ _ _ h => h) (Or.inl ⟨by rfl, by intro W _; go_simp⟩) hS0 ?_
            simp only [Act.put, List.setIfInBounds_toArray, List.set_cons_zero, List.set_cons_succ]
            refine wpAnyH_takeD (i := 3) (v := .slice (some ⟨g, 0, none⟩) n cap) (some 33) rfl rfl (by kernel_rfl) (by kernel_rfl) (by kernel_rfl) (fun _ _ _ h => h) (Or.inl ⟨by rfl, by intro W hW; obtain ⟨h1, h2, h3⟩ := hW; go_simp⟩) hS0 ?_
            simp only [Act.put, List.setIfInBounds_toArray, List.set_cons_zero, List.set_cons_succ]
            refine wpAnyH_takeD (i := 4) (v := .int .i64 (j : Int)) (some 34) rfl rfl (by kernel_rfl) (by kernel_rfl) (by kernel_rfl) (fun _ _ _ h => h) (Or.inl ⟨by rfl, by intro W _; go_simp⟩) hS0 ?_
            simp only [Act.put, List.setIfInBounds_toArray, List.set_cons_zero, List.set_cons_succ]
            refine wpAnyH_takeD (i := 5) (v := .pointer (some ⟨g, j * 2, none⟩)) (some 35) rfl rfl (by kernel_rfl) (by kernel_rfl) (by kernel_rfl) (fun _ _ _ h => h) (Or.inl ⟨by rfl, by intro W _; go_simp⟩) hS0 ?_
            simp only [Act.put, List.setIfInBounds_toArray, List.set_cons_zero, List.set_cons_succ]
            refine wpAnyH_takeD (i := 6) (v := .agg #[.string x, .string y]) (some 36) rfl rfl (by kernel_rfl) (by kernel_rfl) (by kernel_rfl) (fun _ _ _ h => h) (Or.inl ⟨by rfl, by intro W hW; obtain ⟨h1, h2, h3⟩ := hW; go_simp⟩) hS0 ?_
            simp only [Act.put, List.setIfInBounds_toArray, List.set_cons_zero, List.set_cons_succ]
            refine wpAnyH_ready (rs := [1, 7]) (by kernel_rfl) (by simp) ?_
            refine AllReadyH.cons rfl (fun K hK => ?_) (AllReadyH.cons rfl (fun K hK => ?_) AllReadyH.nil)
            · go_simp
              refine hK.out _ _ hS0 (fun _ => ?_)
              clear hK K
              refine wpAnyH_ready (rs := [7]) (by kernel_rfl) (by simp) ?_
              refine AllReadyH.cons rfl (fun K hK => ?_) AllReadyH.nil
              go_simp
              refine hK.out _ _ hSA (fun _ => ?_)
              clear hK K
              refine wpAnyH_ready (rs := [8]) (by kernel_rfl) (by simp) ?_
              refine AllReadyH.cons rfl (fun K hK => ?_) AllReadyH.nil
              refine step_append_lies _ (by rfl) _ _ _ (by rfl) (r + 1 + 1 + 1) 74 i0 (.agg #[.string ⟨#[]⟩, .string ⟨#[]⟩]) 2 32 Tryz.underlying24 hi hz0 hz1 hz2 rfl (by omega) (.slice oz P.length cz) P.length (flatF P) (by rfl) HOA.out ⟨wr.heap.size, 0, none⟩ 1 1 [.string x, .string y] (by rfl) (by rfl) hnews (by simp [Value.oneCell']) (by omega) h63 h47 HSA.out (wr.heap.size + 1) (by simp) ?_
              intro g4 cap4 w4 hown4 hgrow4 _ _
              obtain ⟨hS4, hS5, ⟨q5, hq5⟩, f5, hM⟩ := HMORE.out w4 g4 cap4 hgrow4 hown4
              have HM : Hid (ShSt w r st (.slice (some ⟨g, 0, none⟩) n cap) b (.slice (some ⟨g4, 0, none⟩) (P.length + 1) cap4) (P ++ [(x, y)]) (w4.setCell ⟨r + 1 + 1, 1, none⟩ (.slice (some ⟨g4, 0, none⟩) (P.length + 1) cap4))) := hM
              clear hown4 hgrow4 hM HMORE
              simp only [Act.put, List.setIfInBounds_toArray]
              refine hK.out _ _ hS4 (fun _ => ?_)
              clear hK K
              refine wpAnyH_takeD (i := 9) (v := .pointer (some ⟨r + 1 + 1, 1, none⟩)) (some 39) rfl rfl (by kernel_rfl) (by kernel_rfl) (by kernel_rfl) (fun _ _ _ h => h) (Or.inl ⟨by rfl, by intro W _; go_simp⟩) hS4 ?_
              simp only [Act.put]
              refine wpAnyH_ready (rs := [10]) (by kernel_rfl) (by simp) ?_
              refine AllReadyH.cons rfl (fun K hK => ?_) AllReadyH.nil
              go_simp
              refine hK.out _ _ hS5 (fun _ => ?_)
              clear hK K hq5 f5 hS4 hS5 hS0 hSA t1 n1 n2 u1 c1a c1b hnews
              refine wpAnyH_done (by kernel_rfl) ?_ _
              go_wp2_with fail
              go_roundw
              case rel => exact ⟨j + 1, _, P ++ [(x, y)], by omega, by go_num, HM, HP2⟩
              case measure => simp [intOf]; omega
            · go_simp
              refine hK.out _ _ hSA (fun _ => ?_)
              clear hK K
              refine wpAnyH_ready (rs := [1]) (by kernel_rfl) (by simp) ?_
              refine AllReadyH.cons rfl (fun K hK => ?_) AllReadyH.nil
              go_simp
              refine hK.out _ _ hSA (fun _ => ?_)
              clear hK K
              refine wpAnyH_ready (rs := [8]) (by kernel_rfl) (by simp) ?_
              refine AllReadyH.cons rfl (fun K hK => ?_) AllReadyH.nil
              refine step_append_lies _ (by rfl) _ _ _ (by rfl) (r + 1 + 1 + 1) 74 i0 (.agg #[.string ⟨#[]⟩, .string ⟨#[]⟩]) 2 32 Tryz.underlying24 hi hz0 hz1 hz2 rfl (by omega) (.slice oz P.length cz) P.length (flatF P) (by rfl) HOA.out ⟨wr.heap.size, 0, none⟩ 1 1 [.string x, .string y] (by rfl) (by rfl) hnews (by simp [Value.oneCell']) (by omega) h63 h47 HSA.out (wr.heap.size + 1) (by simp) ?_
              intro g4 cap4 w4 hown4 hgrow4 _ _
              obtain ⟨hS4, hS5, ⟨q5, hq5⟩, f5, hM⟩ := HMORE.out w4 g4 cap4 hgrow4 hown4
              have HM : Hid (ShSt w r st (.slice (some ⟨g, 0, none⟩) n cap) b (.slice (some ⟨g4, 0, none⟩) (P.length + 1) cap4) (P ++ [(x, y)]) (w4.setCell ⟨r + 1 + 1, 1, none⟩ (.slice (some ⟨g4, 0, none⟩) (P.length + 1) cap4))) := hM
              clear hown4 hgrow4 hM HMORE
              simp only [Act.put, List.setIfInBounds_toArray]
              refine hK.out _ _ hS4 (fun _ => ?_)
              clear hK K
              refine wpAnyH_takeD (i := 9) (v := .pointer (some ⟨r + 1 + 1, 1, none⟩)) (some 39) rfl rfl (by kernel_rfl) (by kernel_rfl) (by kernel_rfl) (fun _ _ _ h => h) (Or.inl ⟨by rfl, by intro W _; go_simp⟩) hS4 ?_
              simp only [Act.put]
              refine wpAnyH_ready (rs := [10]) (by kernel_rfl) (by simp) ?_
              refine AllReadyH.cons rfl (fun K hK => ?_) AllReadyH.nil
              go_simp
              refine hK.out _ _ hS5 (fun _ => ?_)
              clear hK K hq5 f5 hS4 hS5 hS0 hSA t1 n1 n2 u1 c1a c1b hnews
              refine wpAnyH_done (by kernel_rfl) ?_ _
              go_wp2_with fail
              go_roundw
              case rel => exact ⟨j + 1, _, P ++ [(x, y)], by omega, by go_num, HM, HP2⟩
              case measure => simp [intOf]; omega
          · have t3 : (x.toList == ccName.toList) = false := text_beq_no h3
            rw [ccN_list] at t3
            have HNOT : Hid (¬ ((x, y).1 = tagName ∨ (x, y).1 = varyName ∨ (x, y).1 = ccName)) := fun h => by
              rcases h with h | h | h
              · exact h1 h
              · exact h2 h
              · exact h3 h
            clear h1 h2 h3
            have HS2 : Hid (ShSt w r st (.slice (some ⟨g, 0, none⟩) n cap) b (.slice oz P.length cz) P wr) := HS.out
            have HP2 : Hid (P = shortF (gs.take (j + 1))) := by show _ = _; rw [HTK.out, shortF_snoc, if_neg HNOT.out]; exact HP.out
            clear HP HTK HNOT
            go_wp2_with fail
            go_roundw
            case rel => exact ⟨j + 1, _, P, by omega, by go_num, HS2, HP2⟩
            case measure => simp [intOf]; omega
    · have hjn : j = n := by omega
      have HPE : Hid (P = shortF gs) := by
        have h := HP.out
        rw [List.take_of_length_le (by rw [HLB.out]; omega)] at h
        exact h
      obtain ⟨⟨u0, u1, u2⟩, _⟩ := three_facts HS.out.q2
      obtain ⟨⟨e0, e1, e2⟩, g0, g1, g2⟩ := three_facts HS.out.q1
      have hset := three_set HS.out.q1 (.int .i64 304) (.slice oz P.length cz) (.string ⟨#[]⟩)
      obtain ⟨⟨k0, k1, k2⟩, _⟩ := three_facts hset
      have HFB : Hid (Below r w (threeSet wr (r + 1) (.int .i64 304) (.slice oz P.length cz) (.string ⟨#[]⟩))) := below_three HS.out.low (by omega)
      have HFO : Hid ((threeSet wr (r + 1) (.int .i64 304) (.slice oz P.length cz) (.string ⟨#[]⟩)).ownsRow r 74 2 (.slice oz P.length cz) (shortF gs).length (flatF (shortF gs))) := by
        show World.ownsRow _ _ _ _ _ _ _
        rw [← HPE.out]
        refine owns_same (owns_wide HS.out.own (by omega)) (fun q hq => ?_)
        have hq2 := owns_ge HS.out.own hq
        rw [three_other _ _ q _ _ _ (by omega)]
      unfold threeSet at k0 k1 k2 HFB HFO
      clear hset HS HP HPE
      go_wp2_with fail
      refine bodyPost_ret (v := .agg #[.int .i64 304, .slice oz P.length cz, .string ⟨#[]⟩]) (by simp [results, Tryz.results46, go_sem, k0, k1, k2]) rfl ?_
      exact ⟨_, rfl, by rw [HR.out]; exact HFO.out, by rw [HR.out]; exact HFB.out⟩

end Go.Proofs.YtmcmeeibogkpaaaGreatDoorR

namespace Go.Proofs.YtmcmeeibogkpaaaGreatDoorR
open Go.RowKit
open Go.Lib hiding intOf

/-- All blocks that were there but the list's own are as they were. -/
def Far (v : Value) (w w' : World) : Prop := ∀ j, j < w.heap.size → v.ownBlock ≠ some j → w'.heap[j]? = w.heap[j]?

end Go.Proofs.YtmcmeeibogkpaaaGreatDoorR

namespace Go.Proofs.YtmcmeeibogkpaaaGreatDoorR
open Go.RowKit
open Go.Lib hiding intOf

/-- A list of texts among the arguments. -/
structure ArgT (w : World) (B : Nat) (a : Option Addr) (n : Nat) (xs : List ByteArray) : Prop where
  len : xs.length = n
  get : ∀ i, i < n → ∃ b off, a = some ⟨b, off, none⟩ ∧ b < B ∧ w.cell? ⟨b, off + i, none⟩ = some (.string (textAt xs i))
theorem ArgT.below {w w' : World} {B : Nat} {a : Option Addr} {n : Nat} {xs : List ByteArray} (h : ArgT w B a n xs) (hb : Below B w w') : ArgT w' B a n xs :=
  ⟨h.len, fun i hi => by
    obtain ⟨b, off, h1, h2, h3⟩ := h.get i hi
    exact ⟨b, off, h1, h2, by rw [hb.cell (p := ⟨b, off + i, none⟩) h2]; exact h3⟩⟩

theorem openTexts {H : Type} {enc : TypeId × Value → H} {W : World} {fuel : Nat} {a : Option Addr} {n cap : Nat} {x : DataW H × List MemPlace} (h : DataW.trod enc Tryz.prog W 0 (fun _ => true) true fuel 27 [.slice a n cap] = some x) :
    ∃ xs, ArgT W W.heap.size a n xs ∧ n ≤ maxLen ∧ ∀ i, i < n → (textAt xs i).size ≤ maxLen := by
  rcases Go.ChangeShapes.open_strings Tryz.underlying27 Tryz.underlying9 (by kernel_rfl) h with ⟨hcs, _⟩ | ⟨ad, len, c, ss, hcs, _, hl, hm, hlen, _, hcell, hsz⟩
  · simp at hcs
    obtain ⟨rfl, rfl, rfl⟩ := hcs
    exact ⟨[], ⟨rfl, fun i hi => absurd hi (by omega)⟩, Nat.zero_le _, fun i hi => absurd hi (by omega)⟩
  · simp at hcs
    obtain ⟨rfl, rfl, rfl⟩ := hcs
    have hlen2 : ss.length = cap := by simpa using hlen
    have htk : ∀ i, i < n → textAt (ss.take n) i = ss.getD i ByteArray.empty := fun i hi => by
      unfold textAt
      rw [List.getD_eq_getElem?_getD, List.getD_eq_getElem?_getD, List.getElem?_take_of_lt hi]
      rfl
    refine ⟨ss.take n, ⟨by rw [List.length_take]; omega, fun i hi => ?_⟩, by omega, fun i hi => ?_⟩
    · obtain ⟨b, off, spot⟩ := ad
      have hspot : spot = none := by
        have := World.cell?_spot (hcell 0 (by omega))
        simpa [Addr.add] using this
      subst hspot
      have hc := hcell i (by omega)
      rw [addr_add] at hc
      exact ⟨b, off, rfl, World.block_lt_of_cell? _ _ hc, by rw [htk i hi]; exact hc⟩
    · rw [htk i hi]
      refine hsz _ ?_
      rw [List.getD_eq_getElem?_getD, List.getElem?_eq_getElem (by omega)]
      exact List.getElem_mem _

/-- The first k texts of a row of n cells are told. -/
def PartT (w : World) (g n k : Nat) (xs : List ByteArray) : Prop :=
  ∃ cur, w.heap[g]? = some (.cells cur 9 (0, 0)) ∧ cur.size = n ∧ ∀ i, i < k → cur[i]? = some (.string (textAt xs i))
theorem PartT.put {w : World} {g n k : Nat} {xs : List ByteArray} (h : PartT w g n k xs) (hk : k < n) : PartT (w.setCell ⟨g, k, none⟩ (.string (textAt xs k))) g n (k + 1) xs := by
  obtain ⟨cur, h1, h2, h3⟩ := h
  refine ⟨_, heap_set w g k _ _ _ _ h1, by simpa using h2, fun i hi => ?_⟩
  by_cases e : i = k
  · subst e
    exact Array.getElem?_setIfInBounds_self_of_lt (by omega)
  · rw [Array.getElem?_setIfInBounds_ne (fun x => e x.symm)]
    exact h3 i (by omega)
theorem PartT.row {w : World} {g n base : Nat} {xs : List ByteArray} (h : PartT w g n n xs) (hl : xs.length = n) (hb : base ≤ g) (hn : n ≤ maxLen) : TextRow base w g n n xs := by
  obtain ⟨cur, h1, h2, h3⟩ := h
  exact ⟨hl, hb, (Array.getElem?_eq_some_iff.1 h1).1, Nat.le_refl _, hn, cur, h1, h2, h3⟩

set_option maxHeartbeats 1000000 in
theorem toStringS_any (B : Nat) (a : Option Addr) (n cap : Nat) (xs : List ByteArray) (w : World) (harg : ArgT w B a n xs) (hB : B ≤ w.heap.size) (hn : n ≤ 1048576) :
    Calls Tryz.prog 76 #[.slice a n cap] w fun e w' => ∃ v, e = .returned v ∧ w'.ownsRow w.heap.size 9 1 v n (xs.map Value.string) ∧ Below w.heap.size w w' := by
  obtain ⟨i0, hi, hz0, hz1, hz2⟩ := info_parts info9
  obtain ⟨M, hM⟩ : ∃ M, M = madeCells (Value.string ⟨#[]⟩).cells (((n : Nat) : Int).toNat * i0.size) := ⟨_, rfl⟩
  have hmk : ∀ W : World, (Instr.makeSlice 27 (.int .i64 (n : Int)) (.int .i64 (n : Int))).run Tryz.prog W = .ok (.slice (some ⟨W.heap.size, 0, none⟩) n n) (W.alloc (.cells M 9)) := fun W => by
    have h := run_make (P := Tryz.prog) W 27 9 i0 (.string ⟨#[]⟩) Tryz.underlying27 hi hz0 .i64 .i64 (n : Int) (n : Int) (by omega) (by omega) (by rw [hz2]; omega) (by omega)
    rw [← hM] at h
    simpa using h
  have hMs : M.size = n := by rw [hM, size_madeCells, hz1]; simp
  have HARG : Hid (∀ W, Below B w W → ArgT W B a n xs) := fun W h => harg.below h
  have HLEN : Hid (xs.length = n) := harg.len
  clear hM harg
  have HP : Hid (PartT (w.alloc (.cells M 9)) w.heap.size n 0 xs) := ⟨M, heap_alloc_new w _, hMs, fun i h => absurd h (by omega)⟩
  go_enter Tryz.func76, Tryz.ntmps76
  go_wp2
  go_loopw [4] (fun i wr => ∃ k : Nat, k ≤ n ∧ i = .int .i64 (k : Int) ∧ Hid (PartT wr w.heap.size n k xs) ∧ Below w.heap.size w wr) (fun i _ => n - (intOf i).toNat)
  case atStart => exact ⟨0, Nat.zero_le _, rfl, HP, (Below.refl _ _).alloc (Nat.le_refl _) _⟩
  case round =>
    obtain ⟨k, hk, rfl, hpr, hbw⟩ := hrel
    by_cases hlt : k < n
    · have hlt2 : (k : Int) < (n : Int) := by omega
      obtain ⟨b, off, rfl, hbB, hc1⟩ := (HARG.out wr (hbw.mono hB)).get k hlt
      have HPUT : Hid (PartT (wr.setCell ⟨w.heap.size, k, none⟩ (.string (textAt xs k))) w.heap.size n (k + 1) xs) := hpr.out.put hlt
      obtain ⟨u0, hu0, f0⟩ : ∃ u, wr.cell? ⟨w.heap.size, k, none⟩ = some u ∧ wr.frozen? ⟨w.heap.size, k, none⟩ = false := by
        obtain ⟨cur, h1, h2, _⟩ := hpr.out
        refine ⟨cur[k]'(by omega), ?_, by simp [World.frozen?, h1]⟩
        simp only [World.cell?, h1]
        simp [show k < cur.size by omega]
      generalize textAt xs k = z at hc1 HPUT
      go_wp2
      go_roundw
      case rel => exact ⟨k + 1, by omega, by go_num, HPUT, hbw.setCell (Nat.le_refl _) _⟩
      case measure => simp [intOf]; omega
    · obtain rfl : k = n := by omega
      go_wp2
      go_ret
      exact ⟨_, rfl, (hpr.out.row HLEN.out (Nat.le_refl _) (by unfold maxLen; omega)).owns, hbw⟩

end Go.Proofs.YtmcmeeibogkpaaaGreatDoorR

namespace Go.Proofs.YtmcmeeibogkpaaaGreatDoorR
open Go.RowKit
open Go.Lib hiding intOf

/-- The measure is negative, or it says exactly how much room is left of L. -/
def SzEx (L : Int) (n : Nat) (fs : List (ByteArray × ByteArray)) (w : World) (e : Ending) (w' : World) : Prop :=
  ∃ r : Int, e = .returned (.int .i64 r) ∧ r ≤ L ∧ (0 ≤ r → r + (n : Int) + (szTo fs n : Int) = L ∧ n ≤ 1048576 ∧ szTo fs n ≤ 1048576) ∧ Below w.heap.size w w'

set_option maxHeartbeats 1000000 in
theorem szFieldS_exact (L : Int) (hL0 : 0 ≤ L) (hL1 : L ≤ 1048576) (B : Nat) (a : Option Addr) (n cap : Nat) (fs : List (ByteArray × ByteArray)) (w : World) (harg : ArgF w B a n fs) (hB : B ≤ w.heap.size) (hn : n ≤ maxLen) (hsz : ∀ i, i < n → (nameAt fs i).size ≤ maxLen ∧ (valAt fs i).size ≤ maxLen) :
    Calls Tryz.prog 72 #[.slice a n cap, .int .i64 L] w fun e w' => SzEx L n fs w e w' := by
  unfold maxLen at hn
  have HS : Hid (∀ i, i < n → (nameAt fs i).size ≤ maxLen ∧ (valAt fs i).size ≤ maxLen) := hsz
  clear hsz
  by_cases c1 : L - (n : Int) < 0
  · go_enter Tryz.func72, Tryz.ntmps72
    go_wp2
    go_ret
    exact ⟨-1, rfl, by omega, fun h => absurd h (by omega), Below.refl _ _⟩
  · go_enter Tryz.func72, Tryz.ntmps72
    go_wp2
    go_loopw [1, 5] (fun l i wr => ∃ (k : Nat) (x : Int), k ≤ n ∧ i = .int .i64 (k : Int) ∧ l = .int .i64 x ∧ 0 ≤ x ∧ x ≤ L ∧ Hid (x = L - (n : Int) - (szTo fs k : Int)) ∧ Below w.heap.size w wr) (fun _ i _ => n - (intOf i).toNat)
    case atStart => exact ⟨0, _, Nat.zero_le _, rfl, rfl, by omega, by omega, by show _ = _; simp [szTo], Below.refl _ _⟩
    case round =>
      obtain ⟨k, x, hk, rfl, rfl, hx0, hx1, hx, hbw⟩ := hrel
      by_cases hlt : k < n
      · have hlt2 : (k : Int) < (n : Int) := by omega
        obtain ⟨b, off, rfl, hbB, hc1, hc2⟩ := (harg.below (hbw.mono hB)).get k hlt
        obtain ⟨s1, s2⟩ := HS.out k hlt
        obtain ⟨nm, hnm⟩ : ∃ y, y = nameAt fs k := ⟨_, rfl⟩
        obtain ⟨vl, hvl⟩ : ∃ y, y = valAt fs k := ⟨_, rfl⟩
        have HZ : Hid (szTo fs (k + 1) = szTo fs k + nm.size + vl.size) := by rw [hnm, hvl]; rfl
        rw [← hnm] at hc1 s1
        rw [← hvl] at hc2 s2
        clear hnm hvl
        go_wp2_with fail
        refine (szField_any nm vl x _ hx0 (by omega) s1 s2).mono ?_
        rintro e w1 ⟨rfl, hb1⟩
        have hb2 : Below w.heap.size w w1 := hbw.trans (hb1.mono hbw.size)
        clear hc1 hc2 hb1
        by_cases d1 : x - (nm.size : Int) < 0
        · rw [if_pos d1]
          go_wp2
          go_ret
          exact ⟨-1, rfl, by omega, fun h => absurd h (by omega), hb2⟩
        · rw [if_neg d1]
          by_cases d2 : x - (nm.size : Int) - (vl.size : Int) < 0
          · rw [if_pos d2]
            go_wp2
            go_ret
            exact ⟨-1, rfl, by omega, fun h => absurd h (by omega), hb2⟩
          · rw [if_neg d2]
            obtain ⟨y, hy⟩ : ∃ y, y = x - (nm.size : Int) - (vl.size : Int) := ⟨_, rfl⟩
            rw [← hy] at d2 ⊢
            have HY : Hid (y = L - (n : Int) - (szTo fs (k + 1) : Int)) := by
              show _ = _
              rw [hy, HZ.out, hx.out]; omega
            have hy1 : y ≤ L := by omega
            clear hy d1
            go_wp2
            go_roundw
            case rel => exact ⟨k + 1, y, by omega, by go_num, rfl, by omega, hy1, HY, hb2⟩
            case measure => simp [intOf]; omega
      · have hF : Hid (x + (n : Int) + (szTo fs n : Int) = L ∧ n ≤ 1048576 ∧ szTo fs n ≤ 1048576) := by
          have := hx.out
          obtain rfl : k = n := by omega
          exact ⟨by omega, by omega, by omega⟩
        go_wp2
        go_ret
        exact ⟨x, rfl, hx1, fun _ => hF.out, hbw⟩

end Go.Proofs.YtmcmeeibogkpaaaGreatDoorR

namespace Go.Proofs.YtmcmeeibogkpaaaGreatDoorR
open Go.RowKit
open Go.Lib hiding intOf

/-- The list with its first k fields marked, from k0 on. -/
def mkG (k0 : Nat) (fs : List (ByteArray × ByteArray)) : Nat → List (ByteArray × ByteArray)
  | 0 => fs
  | k + 1 => (mkG k0 fs k).set k (markOf (k0 + 2 * k), markOf (k0 + 2 * k + 1))
theorem mkG_len (k0 : Nat) (fs : List (ByteArray × ByteArray)) : ∀ k, (mkG k0 fs k).length = fs.length
  | 0 => rfl
  | k + 1 => by rw [mkG, List.length_set, mkG_len k0 fs k]
theorem mkG_at (k0 : Nat) (fs : List (ByteArray × ByteArray)) (j : Nat) : ∀ k, k ≤ fs.length → j < k → nameAt (mkG k0 fs k) j = markOf (k0 + 2 * j) ∧ valAt (mkG k0 fs k) j = markOf (k0 + 2 * j + 1) := by
  intro k
  induction k with
  | zero => intro _ h; omega
  | succ k ih =>
    intro hk h
    have hs := nameAt_set (mkG k0 fs k) k j (markOf (k0 + 2 * k), markOf (k0 + 2 * k + 1)) (by rw [mkG_len]; omega)
    rw [mkG, hs.1, hs.2]
    by_cases e : j = k
    · subst e; rw [if_pos rfl, if_pos rfl]; exact ⟨rfl, rfl⟩
    · rw [if_neg e, if_neg e]; exact ih (by omega) (by omega)

set_option maxHeartbeats 2000000 in
theorem markFrom_any (v : Value) (n base : Nat) (fs : List (ByteArray × ByteArray)) (w : World) (h1 : w.ownsRow base 74 2 v n (flatF fs)) (hb : base ≤ w.heap.size) (k0 : Nat) (hk0 : 1 ≤ k0) (hn : k0 + 2 * n ≤ 9999999) :
    Calls Tryz.prog 80 #[v, .int .i64 (k0 : Int)] w fun e w' => e = .returned (.int .i64 ((k0 : Int) + 2 * (n : Int))) ∧ w'.ownsRow base 74 2 v n (flatF (mkG k0 fs n)) ∧ Below base w w' ∧ Far v w w' := by
  rcases frow_form h1 with ⟨oa, ca, rfl, _, rfl, rfl⟩ | ⟨g, cap, rfl, hp, r1⟩
  · go_enter Tryz.func80, Tryz.ntmps80
    go_wp2
    refine wp_loop_rounds 1 ?_
    rw [rounds_succ]
    go_wp2
    go_ret
    exact ⟨ret_int (by simp), h1, Below.refl _ _, fun j _ _ => rfl⟩
  · clear h1
    go_enter Tryz.func80, Tryz.ntmps80
    go_wp2
    go_loopw [1, 5] (fun q i wr => ∃ k : Nat, k ≤ n ∧ i = .int .i64 (k : Int) ∧ q = .int .i64 ((k0 : Int) + 2 * (k : Int)) ∧ Below base w wr ∧ FieldRow base wr g n cap (mkG k0 fs k) ∧ Hid (∀ j, j < w.heap.size → j ≠ g → wr.heap[j]? = w.heap[j]?)) (fun _ i _ => n - (intOf i).toNat)
    case atStart => exact ⟨0, Nat.zero_le _, rfl, by simp, Below.refl _ _, r1, fun j _ _ => rfl⟩
    case round =>
      obtain ⟨k, hk, rfl, rfl, hbw, hrow, hfar⟩ := hrel
      by_cases hlt : k < n
      · have hlt2 : (k : Int) < (n : Int) := by omega
        have hszr := hbw.size
        go_wp2_with fail
        refine (markText_int _ (k0 + 2 * k) _ (by omega) (by omega) (by omega)).mono ?_
        rintro e w1 ⟨rfl, hb1⟩
        have hrow1 := hrow.below hb1 hrow.lt
        have hc := hrow1.name k hlt
        have hf := hrow1.frozen (k * 2)
        have hb2 : Below base w w1 := hbw.trans (hb1.mono (Nat.le_trans hb hbw.size))
        have HF1 : Hid (∀ j, j < w.heap.size → j ≠ g → w1.heap[j]? = w.heap[j]?) := fun j hj hne => by rw [hb1.block j (by omega)]; exact hfar.out j hj hne
        clear hb1 hbw
        go_wp2_with fail
        refine (markText_int _ (k0 + 2 * k + 1) _ (by omega) (by omega) (by omega)).mono ?_
        rintro e w2 ⟨rfl, hb3⟩
        have hlt3 : g < (w1.setCell ⟨g, k * 2, none⟩ (.string (markOf (k0 + 2 * k)))).heap.size := by simpa using hrow1.lt
        have hblk := hb3.block g hlt3
        have hc2 : w2.cell? ⟨g, k * 2 + 1, none⟩ = some (.string (valAt (mkG k0 fs k) k)) := by
          rw [World.cell?_of_block (w := w1.setCell ⟨g, k * 2, none⟩ (.string (markOf (k0 + 2 * k)))) hblk, World.cell?_setCell_other (h := fun e => by have := congrArg Addr.off e; simp at this)]
          exact hrow1.val k hlt
        have hf2 : w2.frozen? ⟨g, k * 2 + 1, none⟩ = false := by
          rw [World.frozen?_of_block (w := w1.setCell ⟨g, k * 2, none⟩ (.string (markOf (k0 + 2 * k)))) hblk, World.frozen?_setCell]; exact hrow1.frozen _
        have hb4 : Below base w w2 := (hb2.setCell hrow.base _).trans (hb3.mono (by have := hb2.size; simp; omega))
        have hsz2 : w1.heap.size ≤ w2.heap.size := by have := hb3.size; simpa using this
        have HF2 : Hid (∀ j, j < w.heap.size → j ≠ g → (w2.setCell ⟨g, k * 2 + 1, none⟩ (.string (markOf (k0 + 2 * k + 1)))).heap[j]? = w.heap[j]?) := fun j hj hne => by
          have hs1 : w.heap.size ≤ w1.heap.size := hb2.size
          rw [heap_setCell_other _ _ j _ (fun e => hne e), hb3.block j (by simp; omega), heap_setCell_other _ _ j _ (fun e => hne e)]
          exact HF1.out j hj hne
        clear hb3 hb2
        have HROW : Hid (FieldRow base (w2.setCell ⟨g, k * 2 + 1, none⟩ (.string (markOf (k0 + 2 * k + 1)))) g n cap (mkG k0 fs (k + 1))) := hrow1.set k hlt _ _ _ (heap_setCell_congr hblk _ _) (by simpa using hsz2)
        clear hblk hc hf
        go_wp2
        go_roundw
        case rel => exact ⟨k + 1, by omega, by go_num, by first | go_num | (congr 1; omega), hb4.setCell hrow.base _, HROW, HF2⟩
        case measure => simp [intOf]; omega
      · obtain rfl : k = n := by omega
        go_wp2
        go_ret
        exact ⟨rfl, hrow.owns, hbw, fun j hj hne => hfar.out j hj (fun e => hne (by rw [e]; rfl))⟩

set_option maxHeartbeats 2000000 in
theorem heldFrom_any (v : Value) (n base : Nat) (fs : List (ByteArray × ByteArray)) (w : World) (h1 : w.ownsRow base 74 2 v n (flatF fs)) (k0 : Nat) (hk0 : 1 ≤ k0) (hn : k0 + 2 * n ≤ 9999999) (hm : ∀ j, j < n → nameAt fs j = markOf (k0 + 2 * j) ∧ valAt fs j = markOf (k0 + 2 * j + 1)) :
    Calls Tryz.prog 82 #[v, .int .i64 (k0 : Int)] w fun e w' => e = .returned (.int .i64 ((k0 : Int) + 2 * (n : Int))) ∧ Below w.heap.size w w' := by
  rcases frow_form h1 with ⟨oa, ca, rfl, _, rfl, rfl⟩ | ⟨g, cap, rfl, hp, r1⟩
  · clear hm
    go_enter Tryz.func82, Tryz.ntmps82
    go_wp2
    refine wp_loop_rounds 1 ?_
    rw [rounds_succ]
    go_wp2
    go_ret
    exact ⟨ret_int (by simp), Below.refl _ _⟩
  · clear h1
    have HM : Hid (∀ j, j < n → nameAt fs j = markOf (k0 + 2 * j) ∧ valAt fs j = markOf (k0 + 2 * j + 1)) := hm
    clear hm
    go_enter Tryz.func82, Tryz.ntmps82
    go_wp2
    go_loopw [1, 5] (fun q i wr => ∃ k : Nat, k ≤ n ∧ i = .int .i64 (k : Int) ∧ q = .int .i64 ((k0 : Int) + 2 * (k : Int)) ∧ Below w.heap.size w wr) (fun _ i _ => n - (intOf i).toNat)
    case atStart => exact ⟨0, Nat.zero_le _, rfl, by simp, Below.refl _ _⟩
    case round =>
      obtain ⟨k, hk, rfl, rfl, hbw⟩ := hrel
      by_cases hlt : k < n
      · have hlt2 : (k : Int) < (n : Int) := by omega
        have HA : Hid (∀ w0 w1, Below w.heap.size w w0 → Below w0.heap.size w0 w1 → (w1.cell? ⟨g, k * 2, none⟩ = some (.string (markOf (k0 + 2 * k))) ∧ w1.cell? ⟨g, k * 2 + 1, none⟩ = some (.string (markOf (k0 + 2 * k + 1)))) ∧ Below w.heap.size w w1) := fun w0 w1 h h' => by
          have hx := h.trans (h'.mono h.size)
          have a1 := (r1.below hx r1.lt).name k hlt
          have a2 := (r1.below hx r1.lt).val k hlt
          rw [(HM.out k hlt).1] at a1
          rw [(HM.out k hlt).2] at a2
          exact ⟨⟨a1, a2⟩, hx⟩
        obtain ⟨⟨hc1, hc2⟩, _⟩ := HA.out wr wr hbw (Below.refl _ _)
        go_wp2
        go_region_held3 (fun w' => w'.cell? ⟨g, k * 2, none⟩ = some (.string (markOf (k0 + 2 * k)))) (first | assumption | go_keep) (first | (go_at_call 118; refine (markText_int _ (k0 + 2 * k) _ (by omega) (by omega) (by omega)).mono ?_; rintro e w1 ⟨rfl, hb1⟩; obtain ⟨⟨hd1, hd2⟩, hbx⟩ := HA.out _ w1 hbw.drew hb1))
        clear hc1 hc2 hd1
        go_wp2
        go_region_held3 (fun w' => w'.cell? ⟨g, k * 2 + 1, none⟩ = some (.string (markOf (k0 + 2 * k + 1)))) (first | assumption | go_keep) (first | (go_at_call 118; refine (markText_int _ (k0 + 2 * k + 1) _ (by omega) (by omega) (by omega)).mono ?_; rintro e w2 ⟨rfl, hb2⟩; obtain ⟨⟨he1, he2⟩, hby⟩ := HA.out _ w2 hbx.drew hb2))
        go_wp2
        go_roundw
        case rel => exact ⟨k + 1, by omega, by go_num, by first | go_num | (congr 1; omega), hby⟩
        case measure => simp [intOf]; omega
      · obtain rfl : k = n := by omega
        go_wp2
        go_ret
        exact ⟨rfl, hbw⟩

end Go.Proofs.YtmcmeeibogkpaaaGreatDoorR

namespace Go.Proofs.YtmcmeeibogkpaaaGreatDoorR
open Go.RowKit
open Go.Lib hiding intOf

def SzReqRm (L : Int) (p : ByteArray) (n : Nat) (fs : List (ByteArray × ByteArray)) (b : ByteArray) (w : World) (e : Ending) (w' : World) : Prop :=
  ∃ r : Int, e = .returned (.int .i64 r) ∧ r ≤ L ∧ (0 ≤ r → r + (n : Int) ≤ L ∧ (p.size ≤ 1048576 ∧ b.size ≤ 1048576) ∧ n ≤ 1048576 ∧ szTo fs n ≤ 1048576) ∧ Below w.heap.size w w'
def SzRespRm (L : Int) (n : Nat) (fs : List (ByteArray × ByteArray)) (b : ByteArray) (w : World) (e : Ending) (w' : World) : Prop :=
  ∃ r : Int, e = .returned (.int .i64 r) ∧ r ≤ L ∧ (0 ≤ r → r + (n : Int) ≤ L ∧ b.size ≤ 1048576 ∧ n ≤ 1048576 ∧ szTo fs n ≤ 1048576) ∧ Below w.heap.size w w'

set_option maxHeartbeats 2000000 in
set_option maxRecDepth 100000 in
theorem szReq_room (L : Int) (hL0 : 0 ≤ L) (hL1 : L ≤ 1048576) (m : Int) (p : ByteArray) (a : Option Addr) (n cap : Nat) (b : ByteArray) (fs : List (ByteArray × ByteArray)) (w : World) (harg : ArgF w w.heap.size a n fs) (hn : n ≤ maxLen) (hsz : WalkF n fs) (hp : p.size ≤ maxLen) (hb : b.size ≤ maxLen) :
    Calls Tryz.prog 21 #[.agg #[.int .i64 m, .string p, .slice a n cap, .string b], .int .i64 L] w fun e w' => SzReqRm L p n fs b w e w' := by
  unfold maxLen at hp hb
  obtain ⟨r, hr⟩ : ∃ r, r = w.heap.size := ⟨_, rfl⟩
  have HR : Hid (∀ W, Below (w.alloc (.cells #[.int .i64 m, .string p, .slice a n cap, .string b] 50)).heap.size (w.alloc (.cells #[.int .i64 m, .string p, .slice a n cap, .string b] 50)) W → (W.cell? ⟨r, 1, none⟩ = some (.string p) ∧ W.cell? ⟨r, 2, none⟩ = some (.slice a n cap) ∧ W.cell? ⟨r, 3, none⟩ = some (.string b)) ∧ ArgF W w.heap.size a n fs ∧ w.heap.size ≤ W.heap.size ∧ Below w.heap.size w W) := fun W h => by
    have hh := kept_new h
    rw [← hr] at hh
    exact ⟨⟨by simp [World.cell?, hh], by simp [World.cell?, hh], by simp [World.cell?, hh]⟩, harg.below (below_new h), (below_new h).size, below_new h⟩
  obtain ⟨⟨c1, c2, c3⟩, harg0, hs0, hbw0⟩ := HR.out _ (Below.refl _ _)
  have HB0 : Hid (Below w.heap.size w (w.alloc (.cells #[.int .i64 m, .string p, .slice a n cap, .string b] 50))) := hbw0
  have HSZ : Hid (WalkF n fs) := hsz
  have HN : Hid (n ≤ maxLen) := hn
  have HARG : Hid (ArgF (w.alloc (.cells #[.int .i64 m, .string p, .slice a n cap, .string b] 50)) w.heap.size a n fs) := harg0
  clear harg hsz harg0 hbw0 hn
  by_cases d1 : L - (p.size : Int) < 0
  · go_enter Tryz.func21, Tryz.ntmps21
    rw [hr] at c1
    go_wp2_with fail
    go_ret
    exact ⟨-1, rfl, by omega, fun h => absurd h (by omega), HB0.out⟩
  · go_enter Tryz.func21, Tryz.ntmps21
    rw [hr] at c1 c2
    go_wp2_with fail
    refine (szFieldS_exact (L - (p.size : Int)) (by omega) (by omega) w.heap.size a n cap fs _ HARG.out hs0 HN.out HSZ.out).mono ?_
    rintro e w1 ⟨x, rfl, hx1, hx2, bb1⟩
    clear c1 c2 c3
    obtain ⟨⟨c1, c2, c3⟩, _, _, hbw1⟩ := HR.out w1 bb1
    rw [← hr]
    clear bb1 hr
    by_cases hx0 : x < 0
    · clear hx2
      go_wp2_with fail
      go_ret
      exact ⟨-1, rfl, by omega, fun h => absurd h (by omega), hbw1⟩
    · obtain ⟨h0, h1, h2⟩ := hx2 (by omega)
      by_cases d2 : x - (b.size : Int) < 0
      · go_wp2_with fail
        go_ret
        exact ⟨-1, rfl, by omega, fun h => absurd h (by omega), hbw1⟩
      · go_wp2_with fail
        go_ret
        exact ⟨_, rfl, by omega, fun _ => ⟨by omega, ⟨by omega, by omega⟩, h1, h2⟩, hbw1⟩

set_option maxHeartbeats 2000000 in
set_option maxRecDepth 100000 in
theorem szResp_room (L : Int) (hL0 : 0 ≤ L) (hL1 : L ≤ 1048576) (m : Int) (a : Option Addr) (n cap : Nat) (b : ByteArray) (fs : List (ByteArray × ByteArray)) (w : World) (harg : ArgF w w.heap.size a n fs) (hn : n ≤ maxLen) (hsz : WalkF n fs) (hb : b.size ≤ maxLen) :
    Calls Tryz.prog 74 #[.agg #[.int .i64 m, .slice a n cap, .string b], .int .i64 L] w fun e w' => SzRespRm L n fs b w e w' := by
  unfold maxLen at hb
  obtain ⟨r, hr⟩ : ∃ r, r = w.heap.size := ⟨_, rfl⟩
  have HR : Hid (∀ W, Below (w.alloc (.cells #[.int .i64 m, .slice a n cap, .string b] 52)).heap.size (w.alloc (.cells #[.int .i64 m, .slice a n cap, .string b] 52)) W → (W.cell? ⟨r, 1, none⟩ = some (.slice a n cap) ∧ W.cell? ⟨r, 2, none⟩ = some (.string b)) ∧ ArgF W w.heap.size a n fs ∧ w.heap.size ≤ W.heap.size ∧ Below w.heap.size w W) := fun W h => by
    have hh := kept_new h
    rw [← hr] at hh
    exact ⟨⟨by simp [World.cell?, hh], by simp [World.cell?, hh]⟩, harg.below (below_new h), (below_new h).size, below_new h⟩
  obtain ⟨⟨c2, c3⟩, harg0, hs0, _⟩ := HR.out _ (Below.refl _ _)
  have HSZ : Hid (WalkF n fs) := hsz
  have HN : Hid (n ≤ maxLen) := hn
  have HARG : Hid (ArgF (w.alloc (.cells #[.int .i64 m, .slice a n cap, .string b] 52)) w.heap.size a n fs) := harg0
  clear harg hsz harg0 hn
  go_enter Tryz.func74, Tryz.ntmps74
  rw [hr] at c2
  go_wp2_with fail
  refine (szFieldS_exact L (by omega) (by omega) w.heap.size a n cap fs _ HARG.out hs0 HN.out HSZ.out).mono ?_
  rintro e w1 ⟨x, rfl, hx1, hx2, bb1⟩
  clear c2 c3
  obtain ⟨⟨c2, c3⟩, _, _, hbw1⟩ := HR.out w1 bb1
  rw [← hr]
  clear bb1 hr
  by_cases hx0 : x < 0
  · clear hx2
    go_wp2_with fail
    go_ret
    exact ⟨-1, rfl, by omega, fun h => absurd h (by omega), hbw1⟩
  · obtain ⟨h0, h1, h2⟩ := hx2 (by omega)
    by_cases d2 : x - (b.size : Int) < 0
    · go_wp2_with fail
      go_ret
      exact ⟨-1, rfl, by omega, fun h => absurd h (by omega), hbw1⟩
    · go_wp2_with fail
      go_ret
      exact ⟨_, rfl, by omega, fun _ => ⟨by omega, by omega, h1, h2⟩, hbw1⟩

set_option maxHeartbeats 1000000 in
theorem markReqFrom_any (m : Int) (p : ByteArray) (v : Value) (b : ByteArray) (n base : Nat) (fs : List (ByteArray × ByteArray)) (w : World) (h1 : w.ownsRow base 74 2 v n (flatF fs)) (hb : base ≤ w.heap.size) (k0 : Nat) (hk0 : 1 ≤ k0) (hn : k0 + 2 * n ≤ 9999999) :
    Calls Tryz.prog 28 #[.agg #[.int .i64 m, .string p, v, .string b], .int .i64 (k0 : Int)] w fun e w' => e = .returned (.int .i64 ((k0 : Int) + 2 * (n : Int))) ∧ w'.ownsRow base 74 2 v n (flatF (mkG k0 fs n)) ∧ Below base w w' ∧ Far v w w' := by
  obtain ⟨oa, ca, rfl⟩ := slice_of_owns h1
  have h2 := h1.alloc (.cells #[.int .i64 m, .string p, .slice oa n ca, .string b] 26)
  have hb2 : Below base w (w.alloc (.cells #[.int .i64 m, .string p, .slice oa n ca, .string b] 26)) := (Below.refl _ w).alloc hb _
  have hs : base ≤ (w.alloc (.cells #[.int .i64 m, .string p, .slice oa n ca, .string b] 26)).heap.size := by simp; omega
  go_enter Tryz.func28, Tryz.ntmps28
  go_wp2_with fail
  refine (markFrom_any _ n base fs _ h2 hs k0 hk0 hn).mono ?_
  rintro e w1 ⟨rfl, ho, bb1, far1⟩
  have hb3 := hb2.trans bb1
  have HO : Hid _ := ho
  have HF : Hid (Far (.slice oa n ca) w w1) := fun j hj hne => (far1 j (by simp; omega) hne).trans (heap_alloc_old w _ hj)
  clear h1 h2 hb2 hs bb1 ho far1
  go_wp2_with fail
  go_ret
  exact ⟨rfl, HO.out, hb3, HF.out⟩

set_option maxHeartbeats 1000000 in
theorem markRespFrom_any (m : Int) (v : Value) (b : ByteArray) (n base : Nat) (fs : List (ByteArray × ByteArray)) (w : World) (h1 : w.ownsRow base 74 2 v n (flatF fs)) (hb : base ≤ w.heap.size) (k0 : Nat) (hk0 : 1 ≤ k0) (hn : k0 + 2 * n ≤ 9999999) :
    Calls Tryz.prog 30 #[.agg #[.int .i64 m, v, .string b], .int .i64 (k0 : Int)] w fun e w' => e = .returned (.int .i64 ((k0 : Int) + 2 * (n : Int))) ∧ w'.ownsRow base 74 2 v n (flatF (mkG k0 fs n)) ∧ Below base w w' ∧ Far v w w' := by
  obtain ⟨oa, ca, rfl⟩ := slice_of_owns h1
  have h2 := h1.alloc (.cells #[.int .i64 m, .slice oa n ca, .string b] 29)
  have hb2 : Below base w (w.alloc (.cells #[.int .i64 m, .slice oa n ca, .string b] 29)) := (Below.refl _ w).alloc hb _
  have hs : base ≤ (w.alloc (.cells #[.int .i64 m, .slice oa n ca, .string b] 29)).heap.size := by simp; omega
  go_enter Tryz.func30, Tryz.ntmps30
  go_wp2_with fail
  refine (markFrom_any _ n base fs _ h2 hs k0 hk0 hn).mono ?_
  rintro e w1 ⟨rfl, ho, bb1, far1⟩
  have hb3 := hb2.trans bb1
  have HO : Hid _ := ho
  have HF : Hid (Far (.slice oa n ca) w w1) := fun j hj hne => (far1 j (by simp; omega) hne).trans (heap_alloc_old w _ hj)
  clear h1 h2 hb2 hs bb1 ho far1
  go_wp2_with fail
  go_ret
  exact ⟨rfl, HO.out, hb3, HF.out⟩

set_option maxHeartbeats 1000000 in
theorem heldRespFrom_any (m : Int) (v : Value) (b : ByteArray) (n base : Nat) (fs : List (ByteArray × ByteArray)) (w : World) (h1 : w.ownsRow base 74 2 v n (flatF fs)) (k0 : Nat) (hk0 : 1 ≤ k0) (hn : k0 + 2 * n ≤ 9999999) (hm : ∀ j, j < n → nameAt fs j = markOf (k0 + 2 * j) ∧ valAt fs j = markOf (k0 + 2 * j + 1)) :
    Calls Tryz.prog 31 #[.agg #[.int .i64 m, v, .string b], .int .i64 (k0 : Int)] w fun e w' => e = .returned (.int .i64 ((k0 : Int) + 2 * (n : Int))) ∧ Below w.heap.size w w' := by
  obtain ⟨oa, ca, rfl⟩ := slice_of_owns h1
  have h2 := h1.alloc (.cells #[.int .i64 m, .slice oa n ca, .string b] 29)
  have hb2 : Below w.heap.size w (w.alloc (.cells #[.int .i64 m, .slice oa n ca, .string b] 29)) := (Below.refl _ w).alloc (Nat.le_refl _) _
  have hk2 : ¬ ((k0 : Int) + 2 * (n : Int) < 0) := by omega
  have HM : Hid (∀ j, j < n → nameAt fs j = markOf (k0 + 2 * j) ∧ valAt fs j = markOf (k0 + 2 * j + 1)) := hm
  clear hm
  go_enter Tryz.func31, Tryz.ntmps31
  go_wp2_with fail
  refine (heldFrom_any _ n base fs _ h2 k0 hk0 hn HM.out).mono ?_
  rintro e w1 ⟨rfl, bb1⟩
  have hb3 := hb2.trans (bb1.mono hb2.size)
  clear h1 h2 hb2 bb1
  go_wp2_with fail
  go_ret
  exact ⟨rfl, hb3⟩

/-- A block's content behind a call. -/
theorem blk_below {W W' : World} {r : Nat} {o : Obj} (h : W.heap[r]? = some o) (b : Below W.heap.size W W') : W'.heap[r]? = some o := by
  rw [b.block r (Array.getElem?_eq_some_iff.1 h).1]; exact h
theorem own_ne {W : World} {r : Nat} {cs : Array Value} {T t : TypeId} {base size n : Nat} {v : Value} {xs : List Value} (ho : W.ownsRow base t size v n xs) (h : W.heap[r]? = some (.cells cs T)) (hT : T ≠ t) (j : Nat) (hj : v.ownBlock = some j) : j ≠ r := fun e => by
  subst e
  rcases ho.2 with ⟨rfl, _⟩ | ⟨g, cap, cur, rfl, _, h1, _⟩
  · cases hj
  · cases hj
    rw [h] at h1
    cases h1
    exact hT rfl
/-- A block of another type is no row of this one. -/
theorem blk_far {W W' : World} {r : Nat} {cs : Array Value} {T t : TypeId} {base size n : Nat} {v : Value} {xs : List Value} (h : W.heap[r]? = some (.cells cs T)) (far : Far v W W') (ho : W.ownsRow base t size v n xs) (hT : T ≠ t) : W'.heap[r]? = some (.cells cs T) := by
  rw [far r (Array.getElem?_eq_some_iff.1 h).1 (fun e => ?_)]
  · exact h
  · rcases ho.2 with ⟨rfl, _⟩ | ⟨g, cap, cur, rfl, _, h1, _⟩
    · cases e
    · cases e
      rw [h] at h1
      cases h1
      exact hT rfl

end Go.Proofs.YtmcmeeibogkpaaaGreatDoorR

namespace Go.Proofs.YtmcmeeibogkpaaaGreatDoorR
open Go.RowKit
open Go.Lib hiding intOf

theorem cell_of {W : World} {R : Nat} {cs : Array Value} {t : TypeId} (h : W.heap[R]? = some (.cells cs t)) (i : Nat) : W.cell? ⟨R, i, none⟩ = cs[i]? := by simp [World.cell?, h]
theorem frozen_of {W : World} {R : Nat} {cs : Array Value} {t : TypeId} (h : W.heap[R]? = some (.cells cs t)) (i : Nat) : W.frozen? ⟨R, i, none⟩ = false := by simp [World.frozen?, h]
/-- Rows of two types lie apart. -/
theorem own_type_ne {W : World} {b1 b2 z1 z2 n1 n2 : Nat} {t1 t2 : TypeId} {v1 v2 : Value} {xs ys : List Value} (h1 : W.ownsRow b1 t1 z1 v1 n1 xs) (h2 : W.ownsRow b2 t2 z2 v2 n2 ys) (ht : t1 ≠ t2) (j : Nat) (hj : v1.ownBlock = some j) : v2.ownBlock ≠ some j := fun e => by
  rcases h1.2 with ⟨rfl, _⟩ | ⟨g, cap, cur, rfl, _, k1, _⟩
  · cases hj
  · cases hj
    rcases h2.2 with ⟨rfl, _⟩ | ⟨g2, cap2, cur2, rfl, _, k2, _⟩
    · cases e
    · cases e
      rw [k1] at k2
      cases k2
      exact ht rfl
/-- The measure is negative, or it says that the list and what is left fit into L. -/
def SzTx (L : Int) (n : Nat) (xs : List ByteArray) (w : World) (e : Ending) (w' : World) : Prop :=
  ∃ r : Int, e = .returned (.int .i64 r) ∧ r ≤ L ∧ (0 ≤ r → r + (n : Int) ≤ L ∧ n ≤ 1048576 ∧ ∀ i, i < n → (textAt xs i).size ≤ 1048576) ∧ Below w.heap.size w w'

set_option maxHeartbeats 1000000 in
theorem szStringS_exact (L : Int) (hL0 : 0 ≤ L) (hL1 : L ≤ 1048576) (B : Nat) (a : Option Addr) (n cap : Nat) (xs : List ByteArray) (w : World) (harg : ArgT w B a n xs) (hB : B ≤ w.heap.size) (hn : n ≤ maxLen) (hsz : ∀ i, i < n → (textAt xs i).size ≤ maxLen) :
    Calls Tryz.prog 73 #[.slice a n cap, .int .i64 L] w fun e w' => SzTx L n xs w e w' := by
  unfold maxLen at hn
  have HS : Hid (∀ i, i < n → (textAt xs i).size ≤ maxLen) := hsz
  have HA : Hid (∀ W, Below w.heap.size w W → ArgT W B a n xs) := fun W h => harg.below (h.mono hB)
  clear hsz harg
  by_cases c1 : L - (n : Int) < 0
  · go_enter Tryz.func73, Tryz.ntmps73
    go_wp2
    go_ret
    exact ⟨-1, rfl, by omega, fun h => absurd h (by omega), Below.refl _ _⟩
  · go_enter Tryz.func73, Tryz.ntmps73
    go_wp2
    go_loopw [1, 5] (fun l i wr => ∃ (k : Nat) (x : Int), k ≤ n ∧ i = .int .i64 (k : Int) ∧ l = .int .i64 x ∧ 0 ≤ x ∧ x + (n : Int) ≤ L ∧ Hid (∀ j, j < k → (textAt xs j).size ≤ 1048576) ∧ Below w.heap.size w wr) (fun _ i _ => n - (intOf i).toNat)
    case atStart => exact ⟨0, _, Nat.zero_le _, rfl, rfl, by omega, by omega, fun j hj => absurd hj (by omega), Below.refl _ _⟩
    case round =>
      obtain ⟨k, x, hk, rfl, rfl, hx0, hx1, HX, hbw⟩ := hrel
      by_cases hlt : k < n
      · have hlt2 : (k : Int) < (n : Int) := by omega
        obtain ⟨b, off, rfl, hbB, hc1⟩ := (HA.out wr hbw).get k hlt
        have s1 := HS.out k hlt
        obtain ⟨t, ht⟩ : ∃ y, y = textAt xs k := ⟨_, rfl⟩
        rw [← ht] at hc1 s1
        unfold maxLen at s1
        by_cases d1 : x - (t.size : Int) < 0
        · clear ht
          go_wp2
          go_ret
          exact ⟨-1, rfl, by omega, fun h => absurd h (by omega), hbw⟩
        · have HX2 : Hid (∀ j, j < k + 1 → (textAt xs j).size ≤ 1048576) := by
            intro j hj
            by_cases e : j = k
            · rw [e, ← ht]; omega
            · exact HX.out j (by omega)
          clear ht
          go_wp2
          go_roundw
          case rel => exact ⟨k + 1, x - (t.size : Int), by omega, by go_num, by go_num, by omega, by omega, HX2, hbw⟩
          case measure => simp [intOf]; omega
      · have hF : Hid (n ≤ 1048576 ∧ ∀ i, i < n → (textAt xs i).size ≤ 1048576) := ⟨by omega, fun i hi => HX.out i (by omega)⟩
        go_wp2
        go_ret
        exact ⟨x, rfl, by omega, fun _ => ⟨hx1, hF.out⟩, hbw⟩


/-- A row whose block lies from there on is owned from there on. -/
theorem owns_lift {w : World} {B base : Nat} {e : TypeId} {size : Nat} {v : Value} {n : Nat} {xs : List Value} (h : w.ownsRow base e size v n xs) (hB : ∀ g, v.ownBlock = some g → B ≤ g) : w.ownsRow B e size v n xs := by
  refine ⟨h.1, ?_⟩
  rcases h.2 with h0 | ⟨g, cap, cur, rfl, _, h1⟩
  · exact .inl h0
  · exact .inr ⟨g, cap, cur, rfl, hB g rfl, h1⟩
def mkT (k0 : Nat) (xs : List ByteArray) : Nat → List ByteArray
  | 0 => xs
  | i + 1 => (mkT k0 xs i).set i (markOf (k0 + i))
set_option maxHeartbeats 1000000 in
theorem markTFrom_any (v : Value) (n base : Nat) (xs : List ByteArray) (w : World) (h1 : w.ownsRow base 9 1 v n (xs.map Value.string)) (hb : base ≤ w.heap.size) (k0 : Nat) (hk0 : 1 ≤ k0) (hn : k0 + n ≤ 9999998) :
    Calls Tryz.prog 81 #[v, .int .i64 (k0 : Int)] w fun e w' => e = .returned (.int .i64 ((k0 : Int) + (n : Int))) ∧ w'.ownsRow base 9 1 v n ((mkT k0 xs n).map Value.string) ∧ Below base w w' ∧ Far v w w' := by
  rcases row_form h1 with ⟨oa, ca, rfl, rfl, rfl⟩ | ⟨g, cap, rfl, hp, r1⟩
  · go_enter Tryz.func81, Tryz.ntmps81
    go_wp2
    refine wp_loop_rounds 1 ?_
    rw [rounds_succ]
    go_wp2
    go_ret
    exact ⟨by simp, h1, Below.refl _ _, fun _ _ _ => rfl⟩
  · clear h1
    have HR1 : Hid (TextRow base w g n cap xs) := r1
    clear r1
    go_enter Tryz.func81, Tryz.ntmps81
    go_wp2
    go_loopw [1, 5] (fun k i wr => ∃ j : Nat, j ≤ n ∧ i = .int .i64 (j : Int) ∧ k = .int .i64 ((k0 : Int) + (j : Int)) ∧ Hid (w.grownBy wr (some g)) ∧ Hid (TextRow base wr g n cap (mkT k0 xs j))) (fun _ i _ => n - (intOf i).toNat)
    case atStart => exact ⟨0, Nat.zero_le _, rfl, by simp, World.grownBy.refl _ _, HR1⟩
    case round =>
      obtain ⟨j, hj, rfl, rfl, HG, HR⟩ := hrel
      by_cases hlt : j < n
      · have hlt2 : (j : Int) < (n : Int) := by omega
        go_wp2_with fail
        refine (markText_int _ (k0 + j) _ (by omega) (by omega) (by omega)).mono ?_
        rintro e w1 ⟨rfl, hb1⟩
        have hrow1 := HR.out.below hb1 HR.out.lt
        have hc := hrow1.cell j hlt
        have hf := hrow1.frozen j
        have HG2 : Hid (w.grownBy (w1.setCell ⟨g, j, none⟩ (.string (markOf (k0 + j)))) (some g)) := by
          have h0 := HG.out
          refine ⟨hb1.os.trans h0.os, hb1.tape.trans h0.tape, hb1.output.trans h0.output, by rw [World.size_setCell]; exact Nat.le_trans h0.size hb1.size, fun i hi hne => ?_⟩
          rw [heap_setCell_other _ _ i _ (fun e => hne (by rw [e]))]
          exact (hb1.block i (Nat.lt_of_lt_of_le hi h0.size)).trans (h0.block i hi hne)
        have HR2 : Hid (TextRow base (w1.setCell ⟨g, j, none⟩ (.string (markOf (k0 + j)))) g n cap (mkT k0 xs (j + 1))) := hrow1.set j hlt _
        clear hb1 HG HR hrow1
        go_wp2
        go_roundw
        case rel => exact ⟨j + 1, by omega, by go_num, by go_num, HG2, HR2⟩
        case measure => simp [intOf]; omega
      · obtain rfl : j = n := by omega
        go_wp2
        go_ret
        have hg := HG.out
        exact ⟨rfl, HR.out.owns, ⟨hg.os, hg.tape, hg.output, hg.size, fun i hi => hg.block i (Nat.lt_of_lt_of_le hi hb) (fun e => by have := HR.out.base; cases e; omega)⟩, fun i hi hne => hg.block i hi (fun e => hne e.symm)⟩

end Go.Proofs.YtmcmeeibogkpaaaGreatDoorR

namespace Go.Proofs.YtmcmeeibogkpaaaGreatDoorR
open Go.RowKit
open Go.Lib hiding intOf

set_option maxHeartbeats 8000000 in
set_option maxRecDepth 100000 in
theorem specAnswer_any (ma : Int) (pa : ByteArray) (va : Value) (ba : ByteArray) (na basea : Nat) (fsa : List (ByteArray × ByteArray)) (op : ByteArray) (o1 o2 : Option Addr) (n1 c1 n2 c2 : Nat) (st : Int) (u : Value) (d : ByteArray) (t : Int) (k baseo : Nat) (gs : List (ByteArray × ByteArray)) (now : Int) (w : World) (hva : FieldsV w basea va na fsa) (hna : na ≤ 1048576) (hsa : WalkF na fsa) (hpa : pa.size ≤ maxLen) (hba : ba.size ≤ maxLen) (hga : ∀ x, (getV fsa x).size ≤ 1048576) (hu : FieldsV w baseo u k gs) (hk : k ≤ 1048576) (hso : WalkF k gs) (hd : d.size ≤ maxLen) (hgo : ∀ x, (getV gs x).size ≤ 1048576) (ht : -9223372036854775808 ≤ t) (hnow : now ≤ 9223372036854775807) :
    Calls Tryz.prog 10 #[.agg #[.int .i64 ma, .string pa, va, .string ba], .agg #[.string op, .slice o1 n1 c1, .slice o2 n2 c2, .int .i64 st, u, .string d, .int .i64 t], .int .i64 now] w fun e w' => RespRow (ansS fsa gs st) (ansF fsa gs st d t now) (ansB fsa gs d) w e w' := by
  obtain ⟨oa, ca, hsl, _⟩ := hva.slice
  subst hsl
  have HVa : Hid (∀ W, Below w.heap.size w W → FieldsV W basea (.slice oa na ca) na fsa) := fun W h => hva.below h
  have HLFa : Hid (fsa.length = na) := hva.len
  have HSa : Hid (WalkF na fsa) := hsa
  have HPMa : Hid (pa.size ≤ maxLen) := hpa
  have HBMa : Hid (ba.size ≤ maxLen) := hba
  have HQVa : Hid (∀ x, (getV fsa x).size ≤ 1048576) := hga
  clear hva hsa hpa hba hga
  obtain ⟨o3, c3, hsl, _⟩ := hu.slice
  subst hsl
  have HVo : Hid (∀ W, Below w.heap.size w W → FieldsV W baseo (.slice o3 k c3) k gs) := fun W h => hu.below h
  have HLo : Hid (gs.length = k) := hu.len
  have HSo : Hid (WalkF k gs) := hso
  have HDM : Hid (d.size ≤ maxLen) := hd
  have HGo : Hid (∀ x, (getV gs x).size ≤ 1048576) := hgo
  have HTN : Hid (-9223372036854775808 ≤ t ∧ now ≤ 9223372036854775807) := ⟨ht, hnow⟩
  clear hu hso hd hgo ht hnow
  obtain ⟨sg, hsg⟩ : ∃ l, l = shortF gs := ⟨_, rfl⟩
  have HSG : Hid (shortF gs = sg) := hsg.symm
  have HSL : Hid (sg.length ≤ k) := by show _ ≤ _; rw [hsg, ← HLo.out]; exact shortF_le gs
  have bsl : sg.length ≤ 1048576 := by have := HSL.out; omega
  have HSW : Hid (WalkF sg.length sg) := by show WalkF _ _; rw [hsg]; exact walk_short HLo.out HSo.out
  clear hsg
  obtain ⟨ag, hag⟩ : ∃ a, a = ageAt gs t now := ⟨_, rfl⟩
  have HAG : Hid (ageAt gs t now = ag) := hag.symm
  have HAB : Hid (0 ≤ ag ∧ ag ≤ 1000000) := by show _ ∧ _; rw [hag]; exact ageAt_in gs t now
  have hab0 : -9223372036854775808 ≤ ag := by have := HAB.out.1; omega
  have hab1 : ag ≤ 9223372036854775807 := by have := HAB.out.2; omega
  clear hag
  obtain ⟨tx, htx⟩ : ∃ x, x = numTextI ag := ⟨_, rfl⟩
  have HTX : Hid (numTextI ag = tx) := htx.symm
  have HAT : Hid (ageT gs t now = tx) := by show _ = _; rw [htx, ← HAG.out]; rfl
  have HTZ : Hid (tx.size ≤ 8) := by show _ ≤ _; rw [← HAT.out]; exact ageT_size gs t now
  clear htx
  have hb0 : Below w.heap.size w w := Below.refl _ _
  go_enter Tryz.func10, Tryz.ntmps10
  go_upto_region 1 with fail
  obtain ⟨qv1, hqv1⟩ : ∃ q, q = (w).heap.size := ⟨_, rfl⟩
  obtain ⟨w1, hW1⟩ : ∃ W, W = (w).alloc (.cells #[.int .i64 ma, .string pa, .slice oa na ca, .string ba] 26) := ⟨_, rfl⟩
  have hz1 : (w).heap.size = qv1 := hqv1.symm
  first | rw [← hW1, ← hqv1] | rw [← hW1]
  have hs1 : w1.heap.size = qv1 + 1 := by rw [hW1, ← hz1]; simp
  have bw : Below (w).heap.size (w) w1 := by rw [hW1]; exact (Below.refl _ _).alloc (Nat.le_refl _) _
  have hb1 : Below w.heap.size w (w1) := hb0.trans (bw.mono hb0.size)
  have HBv1_1 : Hid ((w1).heap[qv1]? = some (.cells #[.int .i64 ma, .string pa, .slice oa na ca, .string ba] 26)) := by show _ = _; rw [hW1, ← hz1]; exact heap_alloc_new _ _
  clear hb0 bw hW1 hz1
  obtain ⟨qv2, hqv2⟩ : ∃ q, q = qv1 + 1 := ⟨_, rfl⟩
  obtain ⟨w2, hW2⟩ : ∃ W, W = (w1).alloc (.cells #[.string op, .slice o1 n1 c1, .slice o2 n2 c2, .int .i64 st, .slice o3 k c3, .string d, .int .i64 t] 31) := ⟨_, rfl⟩
  have hz2 : (w1).heap.size = qv2 := by rw [hqv2]; exact hs1
  first | rw [← hW2, ← hqv2] | rw [← hW2]
  have hs2 : w2.heap.size = qv2 + 1 := by rw [hW2, ← hz2]; simp
  have bw : Below (w1).heap.size (w1) w2 := by rw [hW2]; exact (Below.refl _ _).alloc (Nat.le_refl _) _
  have hb2 : Below w.heap.size w (w2) := hb1.trans (bw.mono hb1.size)
  have HBv1_2 : Hid ((w2).heap[qv1]? = some (.cells #[.int .i64 ma, .string pa, .slice oa na ca, .string ba] 26)) := blk_below HBv1_1.out bw
  have HBv2_2 : Hid ((w2).heap[qv2]? = some (.cells #[.string op, .slice o1 n1 c1, .slice o2 n2 c2, .int .i64 st, .slice o3 k c3, .string d, .int .i64 t] 31)) := by show _ = _; rw [hW2, ← hz2]; exact heap_alloc_new _ _
  clear hb1 HBv1_1 bw hW2 hz2
  obtain ⟨qv3, hqv3⟩ : ∃ q, q = qv2 + 1 := ⟨_, rfl⟩
  obtain ⟨w3, hW3⟩ : ∃ W, W = (w2).alloc (.cells #[.int .i64 0, .slice none 0 0, .string ⟨#[]⟩] 29) := ⟨_, rfl⟩
  have hz3 : (w2).heap.size = qv3 := by rw [hqv3]; exact hs2
  first | rw [← hW3, ← hqv3] | rw [← hW3]
  have hs3 : w3.heap.size = qv3 + 1 := by rw [hW3, ← hz3]; simp
  have bw : Below (w2).heap.size (w2) w3 := by rw [hW3]; exact (Below.refl _ _).alloc (Nat.le_refl _) _
  have hb3 : Below w.heap.size w (w3) := hb2.trans (bw.mono hb2.size)
  have HBv1_3 : Hid ((w3).heap[qv1]? = some (.cells #[.int .i64 ma, .string pa, .slice oa na ca, .string ba] 26)) := blk_below HBv1_2.out bw
  have HBv2_3 : Hid ((w3).heap[qv2]? = some (.cells #[.string op, .slice o1 n1 c1, .slice o2 n2 c2, .int .i64 st, .slice o3 k c3, .string d, .int .i64 t] 31)) := blk_below HBv2_2.out bw
  have HNv1v3 : Hid (qv1 ≠ qv3) := fun e => by have h1 := (Array.getElem?_eq_some_iff.1 HBv1_2.out).1; omega
  have HNv2v3 : Hid (qv2 ≠ qv3) := fun e => by have h1 := (Array.getElem?_eq_some_iff.1 HBv2_2.out).1; omega
  have HBv3_3 : Hid ((w3).heap[qv3]? = some (.cells #[.int .i64 0, .slice none 0 0, .string ⟨#[]⟩] 29)) := by show _ = _; rw [hW3, ← hz3]; exact heap_alloc_new _ _
  have HGv3 : Hid (w.heap.size ≤ qv3) := by show _ ≤ _; rw [← hz3]; exact hb2.size
  clear hb2 HBv1_2 HBv2_2 bw hW3 hz3
  clear hs3 hqv3 hs2 hqv2 hs1 hqv1
  have cv2_3 : (w3).cell? ⟨qv2, 3, none⟩ = some (.int .i64 st) := (cell_of HBv2_3.out 3).trans rfl
  have cv2_4 : (w3).cell? ⟨qv2, 4, none⟩ = some (.slice o3 k c3) := (cell_of HBv2_3.out 4).trans rfl
  have cv2_5 : (w3).cell? ⟨qv2, 5, none⟩ = some (.string d) := (cell_of HBv2_3.out 5).trans rfl
  go_wp2_with fail
  refine (l9Resp_any st _ d k baseo gs _ (HVo.out _ hb3) (by omega)).mono ?_
  rintro e w4 ⟨vv, rfl, ownCG, bw⟩
  obtain ⟨oCG, pCG, rfl⟩ := slice_of_owns ownCG
  rw [HLo.out] at ownCG ⊢
  have hb4 : Below w.heap.size w (w4) := hb3.trans (bw.mono hb3.size)
  have HBv1_4 : Hid ((w4).heap[qv1]? = some (.cells #[.int .i64 ma, .string pa, .slice oa na ca, .string ba] 26)) := blk_below HBv1_3.out bw
  have HBv2_4 : Hid ((w4).heap[qv2]? = some (.cells #[.string op, .slice o1 n1 c1, .slice o2 n2 c2, .int .i64 st, .slice o3 k c3, .string d, .int .i64 t] 31)) := blk_below HBv2_3.out bw
  have HBv3_4 : Hid ((w4).heap[qv3]? = some (.cells #[.int .i64 0, .slice none 0 0, .string ⟨#[]⟩] 29)) := blk_below HBv3_3.out bw
  have HOCG_4 : Hid ((w4).ownsRow w.heap.size 74 2 (.slice oCG k pCG) k (flatF gs)) := owns_wide ownCG hb3.size
  clear ownCG
  clear hb3 HBv1_3 HBv2_3 HBv3_3 bw
  clear cv2_3 cv2_4 cv2_5
  go_upto_region 2 with fail
  obtain ⟨qv4, hqv4⟩ : ∃ q, q = (w4).heap.size := ⟨_, rfl⟩
  obtain ⟨w5, hW5⟩ : ∃ W, W = (w4).alloc (.cells #[.int .i64 st, .slice oCG k pCG, .string d] 29) := ⟨_, rfl⟩
  have hz5 : (w4).heap.size = qv4 := hqv4.symm
  first | rw [← hW5, ← hqv4] | rw [← hW5]
  have hs5 : w5.heap.size = qv4 + 1 := by rw [hW5, ← hz5]; simp
  have bw : Below (w4).heap.size (w4) w5 := by rw [hW5]; exact (Below.refl _ _).alloc (Nat.le_refl _) _
  have hb5 : Below w.heap.size w (w5) := hb4.trans (bw.mono hb4.size)
  have HOCG_5 : Hid ((w5).ownsRow w.heap.size 74 2 (.slice oCG k pCG) k (flatF gs)) := owns_below HOCG_4.out bw (fun g hg => owns_lt HOCG_4.out hg)
  have HBv1_5 : Hid ((w5).heap[qv1]? = some (.cells #[.int .i64 ma, .string pa, .slice oa na ca, .string ba] 26)) := blk_below HBv1_4.out bw
  have HBv2_5 : Hid ((w5).heap[qv2]? = some (.cells #[.string op, .slice o1 n1 c1, .slice o2 n2 c2, .int .i64 st, .slice o3 k c3, .string d, .int .i64 t] 31)) := blk_below HBv2_4.out bw
  have HBv3_5 : Hid ((w5).heap[qv3]? = some (.cells #[.int .i64 0, .slice none 0 0, .string ⟨#[]⟩] 29)) := blk_below HBv3_4.out bw
  have HNv1v4 : Hid (qv1 ≠ qv4) := fun e => by have h1 := (Array.getElem?_eq_some_iff.1 HBv1_4.out).1; omega
  have HNv2v4 : Hid (qv2 ≠ qv4) := fun e => by have h1 := (Array.getElem?_eq_some_iff.1 HBv2_4.out).1; omega
  have HNv3v4 : Hid (qv3 ≠ qv4) := fun e => by have h1 := (Array.getElem?_eq_some_iff.1 HBv3_4.out).1; omega
  have HBv4_5 : Hid ((w5).heap[qv4]? = some (.cells #[.int .i64 st, .slice oCG k pCG, .string d] 29)) := by show _ = _; rw [hW5, ← hz5]; exact heap_alloc_new _ _
  have HGv4 : Hid (w.heap.size ≤ qv4) := by show _ ≤ _; rw [← hz5]; exact hb4.size
  clear hb4 HOCG_4 HBv1_4 HBv2_4 HBv3_4 bw hW5 hz5
  clear hs5 hqv4
  have cv1_0 : (w5).cell? ⟨qv1, 0, none⟩ = some (.int .i64 ma) := (cell_of HBv1_5.out 0).trans rfl
  have cv1_1 : (w5).cell? ⟨qv1, 1, none⟩ = some (.string pa) := (cell_of HBv1_5.out 1).trans rfl
  have cv1_2 : (w5).cell? ⟨qv1, 2, none⟩ = some (.slice oa na ca) := (cell_of HBv1_5.out 2).trans rfl
  have cv1_3 : (w5).cell? ⟨qv1, 3, none⟩ = some (.string ba) := (cell_of HBv1_5.out 3).trans rfl
  have cv2_4 : (w5).cell? ⟨qv2, 4, none⟩ = some (.slice o3 k c3) := (cell_of HBv2_5.out 4).trans rfl
  go_wp2_with fail
  refine (specSame_any ma pa _ ba na basea fsa _ k baseo gs _ (HVa.out _ hb5) (by omega) (HVo.out _ hb5) (by omega)).mono ?_
  rintro e w6 ⟨sm, rfl, hsm, bw⟩
  have hb6 : Below w.heap.size w (w6) := hb5.trans (bw.mono hb5.size)
  have HOCG_6 : Hid ((w6).ownsRow w.heap.size 74 2 (.slice oCG k pCG) k (flatF gs)) := owns_below HOCG_5.out bw (fun g hg => owns_lt HOCG_5.out hg)
  have HBv1_6 : Hid ((w6).heap[qv1]? = some (.cells #[.int .i64 ma, .string pa, .slice oa na ca, .string ba] 26)) := blk_below HBv1_5.out bw
  have HBv2_6 : Hid ((w6).heap[qv2]? = some (.cells #[.string op, .slice o1 n1 c1, .slice o2 n2 c2, .int .i64 st, .slice o3 k c3, .string d, .int .i64 t] 31)) := blk_below HBv2_5.out bw
  have HBv3_6 : Hid ((w6).heap[qv3]? = some (.cells #[.int .i64 0, .slice none 0 0, .string ⟨#[]⟩] 29)) := blk_below HBv3_5.out bw
  have HBv4_6 : Hid ((w6).heap[qv4]? = some (.cells #[.int .i64 st, .slice oCG k pCG, .string d] 29)) := blk_below HBv4_5.out bw
  clear hb5 HOCG_5 HBv1_5 HBv2_5 HBv3_5 HBv4_5 bw
  clear cv1_0 cv1_1 cv1_2 cv1_3 cv2_4
  cases sm with
  | false =>
    have HNsm : Hid (¬ (SameP fsa gs)) := fun h => nomatch hsm.2 h
    clear hsm
    have cv4_0 : (w6).cell? ⟨qv4, 0, none⟩ = some (.int .i64 st) := (cell_of HBv4_6.out 0).trans rfl
    have Acv4_0 : ∀ o, ((w6).alloc o).cell? ⟨qv4, 0, none⟩ = some (.int .i64 st) := fun o => (cell_of (blk_below HBv4_6.out ((Below.refl _ _).alloc (Nat.le_refl _) o)) 0).trans rfl
    have Afcv4_0 : ∀ o, ((w6).alloc o).frozen? ⟨qv4, 0, none⟩ = false := fun o => frozen_of (blk_below HBv4_6.out ((Below.refl _ _).alloc (Nat.le_refl _) o)) 0
    have cv4_1 : (w6).cell? ⟨qv4, 1, none⟩ = some (.slice oCG k pCG) := (cell_of HBv4_6.out 1).trans rfl
    have Acv4_1 : ∀ o, ((w6).alloc o).cell? ⟨qv4, 1, none⟩ = some (.slice oCG k pCG) := fun o => (cell_of (blk_below HBv4_6.out ((Below.refl _ _).alloc (Nat.le_refl _) o)) 1).trans rfl
    have Afcv4_1 : ∀ o, ((w6).alloc o).frozen? ⟨qv4, 1, none⟩ = false := fun o => frozen_of (blk_below HBv4_6.out ((Below.refl _ _).alloc (Nat.le_refl _) o)) 1
    have cv4_2 : (w6).cell? ⟨qv4, 2, none⟩ = some (.string d) := (cell_of HBv4_6.out 2).trans rfl
    have Acv4_2 : ∀ o, ((w6).alloc o).cell? ⟨qv4, 2, none⟩ = some (.string d) := fun o => (cell_of (blk_below HBv4_6.out ((Below.refl _ _).alloc (Nat.le_refl _) o)) 2).trans rfl
    have Afcv4_2 : ∀ o, ((w6).alloc o).frozen? ⟨qv4, 2, none⟩ = false := fun o => frozen_of (blk_below HBv4_6.out ((Below.refl _ _).alloc (Nat.le_refl _) o)) 2
    go_upto_region 5 with fail
    obtain ⟨qv5, hqv5⟩ : ∃ q, q = (w6).heap.size := ⟨_, rfl⟩
    obtain ⟨w7, hW7⟩ : ∃ W, W = (w6).alloc (.cells #[.int .i64 st, .slice oCG k pCG, .string d] 29) := ⟨_, rfl⟩
    have hz7 : (w6).heap.size = qv5 := hqv5.symm
    first | rw [← hW7, ← hqv5] | rw [← hW7]
    have hs7 : w7.heap.size = qv5 + 1 := by rw [hW7, ← hz7]; simp
    have bw : Below (w6).heap.size (w6) w7 := by rw [hW7]; exact (Below.refl _ _).alloc (Nat.le_refl _) _
    have hb7 : Below w.heap.size w (w7) := hb6.trans (bw.mono hb6.size)
    have HM7 : Hid ((w6).heap.size ≤ (w7).heap.size) := bw.size
    have HOCG_7 : Hid ((w7).ownsRow w.heap.size 74 2 (.slice oCG k pCG) k (flatF gs)) := owns_below HOCG_6.out bw (fun g hg => owns_lt HOCG_6.out hg)
    have HBv1_7 : Hid ((w7).heap[qv1]? = some (.cells #[.int .i64 ma, .string pa, .slice oa na ca, .string ba] 26)) := blk_below HBv1_6.out bw
    have HBv2_7 : Hid ((w7).heap[qv2]? = some (.cells #[.string op, .slice o1 n1 c1, .slice o2 n2 c2, .int .i64 st, .slice o3 k c3, .string d, .int .i64 t] 31)) := blk_below HBv2_6.out bw
    have HBv3_7 : Hid ((w7).heap[qv3]? = some (.cells #[.int .i64 0, .slice none 0 0, .string ⟨#[]⟩] 29)) := blk_below HBv3_6.out bw
    have HBv4_7 : Hid ((w7).heap[qv4]? = some (.cells #[.int .i64 st, .slice oCG k pCG, .string d] 29)) := blk_below HBv4_6.out bw
    have HNv1v5 : Hid (qv1 ≠ qv5) := fun e => by have h1 := (Array.getElem?_eq_some_iff.1 HBv1_6.out).1; omega
    have HNv2v5 : Hid (qv2 ≠ qv5) := fun e => by have h1 := (Array.getElem?_eq_some_iff.1 HBv2_6.out).1; omega
    have HNv3v5 : Hid (qv3 ≠ qv5) := fun e => by have h1 := (Array.getElem?_eq_some_iff.1 HBv3_6.out).1; omega
    have HNv4v5 : Hid (qv4 ≠ qv5) := fun e => by have h1 := (Array.getElem?_eq_some_iff.1 HBv4_6.out).1; omega
    have HBv5_7 : Hid ((w7).heap[qv5]? = some (.cells #[.int .i64 st, .slice oCG k pCG, .string d] 29)) := by show _ = _; rw [hW7, ← hz7]; exact heap_alloc_new _ _
    have HGv5 : Hid (w.heap.size ≤ qv5) := by show _ ≤ _; rw [← hz7]; exact hb6.size
    clear hb6 HOCG_6 HBv1_6 HBv2_6 HBv3_6 HBv4_6 bw hW7 hz7
    clear hs7 hqv5
    clear cv4_0 Acv4_0 Afcv4_0 cv4_1 Acv4_1 Afcv4_1 cv4_2 Acv4_2 Afcv4_2
    go_upto_region 5 with fail
    refine wp_region_held_drew (S := fun W => W.heap[qv4]? = some (.cells #[.int .i64 st, .slice oCG k pCG, .string d] 29) ∧ W.heap[qv2]? = some (.cells #[.string op, .slice o1 n1 c1, .slice o2 n2 c2, .int .i64 st, .slice o3 k c3, .string d, .int .i64 t] 31)) (by kernel_rfl) ⟨HBv4_7.out, HBv2_7.out⟩ (fun _ => ?_)
    obtain ⟨w8, hX⟩ : ∃ X, X = w7.drew := ⟨_, rfl⟩
    have bw : Below w7.heap.size w7 w8 := by rw [hX]; exact (Below.refl _ _).drew
    rw [← hX]
    have hb8 : Below w.heap.size w (w8) := hb7.trans (bw.mono hb7.size)
    have HM8 : Hid ((w7).heap.size ≤ (w8).heap.size) := bw.size
    have HOCG_8 : Hid ((w8).ownsRow w.heap.size 74 2 (.slice oCG k pCG) k (flatF gs)) := owns_below HOCG_7.out bw (fun g hg => owns_lt HOCG_7.out hg)
    have HBv1_8 : Hid ((w8).heap[qv1]? = some (.cells #[.int .i64 ma, .string pa, .slice oa na ca, .string ba] 26)) := blk_below HBv1_7.out bw
    have HBv2_8 : Hid ((w8).heap[qv2]? = some (.cells #[.string op, .slice o1 n1 c1, .slice o2 n2 c2, .int .i64 st, .slice o3 k c3, .string d, .int .i64 t] 31)) := blk_below HBv2_7.out bw
    have HBv3_8 : Hid ((w8).heap[qv3]? = some (.cells #[.int .i64 0, .slice none 0 0, .string ⟨#[]⟩] 29)) := blk_below HBv3_7.out bw
    have HBv4_8 : Hid ((w8).heap[qv4]? = some (.cells #[.int .i64 st, .slice oCG k pCG, .string d] 29)) := blk_below HBv4_7.out bw
    have HBv5_8 : Hid ((w8).heap[qv5]? = some (.cells #[.int .i64 st, .slice oCG k pCG, .string d] 29)) := blk_below HBv5_7.out bw
    have hS8 : w8.heap[qv4]? = some (.cells #[.int .i64 st, .slice oCG k pCG, .string d] 29) ∧ w8.heap[qv2]? = some (.cells #[.string op, .slice o1 n1 c1, .slice o2 n2 c2, .int .i64 st, .slice o3 k c3, .string d, .int .i64 t] 31) := ⟨HBv4_8.out, HBv2_8.out⟩
    clear hb7 HOCG_7 HBv1_7 HBv2_7 HBv3_7 HBv4_7 HBv5_7 bw hX
    refine wpAnyH_takeD (i := 0) (v := .pointer (some ⟨qv4, 1, none⟩)) (some 21) rfl rfl (by kernel_rfl) (by kernel_rfl) (by kernel_rfl) (fun _ _ _ h => h) (Or.inl ⟨by rfl, by intro W _; go_simp⟩) hS8 ?_
    simp only [Act.put, List.setIfInBounds_toArray, List.set_cons_zero, List.set_cons_succ]
    refine wpAnyH_takeD (i := 1) (v := .slice oCG k pCG) (some 22) rfl rfl (by kernel_rfl) (by kernel_rfl) (by kernel_rfl) (fun _ _ _ h => h) (Or.inl ⟨by rfl, by intro W hW; obtain ⟨hhv4, hhv2⟩ := hW; have y1 := (cell_of hhv4 1).trans rfl; go_simp⟩) hS8 ?_
    simp only [Act.put, List.setIfInBounds_toArray, List.set_cons_zero, List.set_cons_succ]
    refine wpAnyH_takeD (i := 2) (v := .pointer (some ⟨qv2, 3, none⟩)) (some 23) rfl rfl (by kernel_rfl) (by kernel_rfl) (by kernel_rfl) (fun _ _ _ h => h) (Or.inl ⟨by rfl, by intro W _; go_simp⟩) hS8 ?_
    simp only [Act.put, List.setIfInBounds_toArray, List.set_cons_zero, List.set_cons_succ]
    refine wpAnyH_takeD (i := 3) (v := .pointer (some ⟨qv2, 4, none⟩)) (some 24) rfl rfl (by kernel_rfl) (by kernel_rfl) (by kernel_rfl) (fun _ _ _ h => h) (Or.inl ⟨by rfl, by intro W _; go_simp⟩) hS8 ?_
    simp only [Act.put, List.setIfInBounds_toArray, List.set_cons_zero, List.set_cons_succ]
    refine wpAnyH_takeD (i := 4) (v := .slice o3 k c3) (some 25) rfl rfl (by kernel_rfl) (by kernel_rfl) (by kernel_rfl) (fun _ _ _ h => h) (Or.inl ⟨by rfl, by intro W hW; obtain ⟨hhv4, hhv2⟩ := hW; have y4 := (cell_of hhv2 4).trans rfl; go_simp⟩) hS8 ?_
    simp only [Act.put, List.setIfInBounds_toArray, List.set_cons_zero, List.set_cons_succ]
    refine wpAnyH_takeD (i := 5) (v := .pointer (some ⟨qv2, 6, none⟩)) (some 26) rfl rfl (by kernel_rfl) (by kernel_rfl) (by kernel_rfl) (fun _ _ _ h => h) (Or.inl ⟨by rfl, by intro W _; go_simp⟩) hS8 ?_
    simp only [Act.put, List.setIfInBounds_toArray, List.set_cons_zero, List.set_cons_succ]
    refine wpAnyH_takeD (i := 6) (v := .int .i64 t) (some 27) rfl rfl (by kernel_rfl) (by kernel_rfl) (by kernel_rfl) (fun _ _ _ h => h) (Or.inl ⟨by rfl, by intro W hW; obtain ⟨hhv4, hhv2⟩ := hW; have y6 := (cell_of hhv2 6).trans rfl; go_simp⟩) hS8 ?_
    simp only [Act.put, List.setIfInBounds_toArray, List.set_cons_zero, List.set_cons_succ]
    refine wpAnyH_takeD (i := 7) (v := .int .i64 now) (some 28) rfl rfl (by kernel_rfl) (by kernel_rfl) (by kernel_rfl) (fun _ _ _ h => h) (Or.inl ⟨by rfl, by intro W _; go_simp⟩) hS8 ?_
    simp only [Act.put, List.setIfInBounds_toArray, List.set_cons_zero, List.set_cons_succ]
    refine wpAnyH_ready (rs := [8]) (by kernel_rfl) (by simp) ?_
    refine AllReadyH.cons rfl (fun K hK => ?_) AllReadyH.nil
    go_simp
    refine (specAgeAt_any _ k baseo gs t now _ (HVo.out _ hb8) (by omega) (by have := HGo.out ageName; unfold maxLen; omega) HTN.out.1 HTN.out.2).mono ?_
    rintro e w9 ⟨rfl, bw⟩
    rw [HAG.out]
    have hb9 : Below w.heap.size w (w9) := hb8.trans (bw.mono hb8.size)
    have HM9 : Hid ((w8).heap.size ≤ (w9).heap.size) := bw.size
    have HOCG_9 : Hid ((w9).ownsRow w.heap.size 74 2 (.slice oCG k pCG) k (flatF gs)) := owns_below HOCG_8.out bw (fun g hg => owns_lt HOCG_8.out hg)
    have HBv1_9 : Hid ((w9).heap[qv1]? = some (.cells #[.int .i64 ma, .string pa, .slice oa na ca, .string ba] 26)) := blk_below HBv1_8.out bw
    have HBv2_9 : Hid ((w9).heap[qv2]? = some (.cells #[.string op, .slice o1 n1 c1, .slice o2 n2 c2, .int .i64 st, .slice o3 k c3, .string d, .int .i64 t] 31)) := blk_below HBv2_8.out bw
    have HBv3_9 : Hid ((w9).heap[qv3]? = some (.cells #[.int .i64 0, .slice none 0 0, .string ⟨#[]⟩] 29)) := blk_below HBv3_8.out bw
    have HBv4_9 : Hid ((w9).heap[qv4]? = some (.cells #[.int .i64 st, .slice oCG k pCG, .string d] 29)) := blk_below HBv4_8.out bw
    have HBv5_9 : Hid ((w9).heap[qv5]? = some (.cells #[.int .i64 st, .slice oCG k pCG, .string d] 29)) := blk_below HBv5_8.out bw
    clear hb8 HOCG_8 HBv1_8 HBv2_8 HBv3_8 HBv4_8 HBv5_8 bw
    have hS9 : w9.heap[qv4]? = some (.cells #[.int .i64 st, .slice oCG k pCG, .string d] 29) ∧ w9.heap[qv2]? = some (.cells #[.string op, .slice o1 n1 c1, .slice o2 n2 c2, .int .i64 st, .slice o3 k c3, .string d, .int .i64 t] 31) := ⟨HBv4_9.out, HBv2_9.out⟩
    refine hK.out _ _ hS9 (fun _ => ?_)
    clear hK K hS8
    refine wpAnyH_ready (rs := [9]) (by kernel_rfl) (by simp) ?_
    refine AllReadyH.cons rfl (fun K hK => ?_) AllReadyH.nil
    go_simp
    refine (specNumText_int ag _ hab0 hab1).mono ?_
    rintro e w10 ⟨rfl, bw⟩
    rw [HTX.out]
    have hb10 : Below w.heap.size w (w10) := hb9.trans (bw.mono hb9.size)
    have HM10 : Hid ((w9).heap.size ≤ (w10).heap.size) := bw.size
    have HOCG_10 : Hid ((w10).ownsRow w.heap.size 74 2 (.slice oCG k pCG) k (flatF gs)) := owns_below HOCG_9.out bw (fun g hg => owns_lt HOCG_9.out hg)
    have HBv1_10 : Hid ((w10).heap[qv1]? = some (.cells #[.int .i64 ma, .string pa, .slice oa na ca, .string ba] 26)) := blk_below HBv1_9.out bw
    have HBv2_10 : Hid ((w10).heap[qv2]? = some (.cells #[.string op, .slice o1 n1 c1, .slice o2 n2 c2, .int .i64 st, .slice o3 k c3, .string d, .int .i64 t] 31)) := blk_below HBv2_9.out bw
    have HBv3_10 : Hid ((w10).heap[qv3]? = some (.cells #[.int .i64 0, .slice none 0 0, .string ⟨#[]⟩] 29)) := blk_below HBv3_9.out bw
    have HBv4_10 : Hid ((w10).heap[qv4]? = some (.cells #[.int .i64 st, .slice oCG k pCG, .string d] 29)) := blk_below HBv4_9.out bw
    have HBv5_10 : Hid ((w10).heap[qv5]? = some (.cells #[.int .i64 st, .slice oCG k pCG, .string d] 29)) := blk_below HBv5_9.out bw
    clear hb9 HOCG_9 HBv1_9 HBv2_9 HBv3_9 HBv4_9 HBv5_9 bw
    have hS10 : w10.heap[qv4]? = some (.cells #[.int .i64 st, .slice oCG k pCG, .string d] 29) ∧ w10.heap[qv2]? = some (.cells #[.string op, .slice o1 n1 c1, .slice o2 n2 c2, .int .i64 st, .slice o3 k c3, .string d, .int .i64 t] 31) := ⟨HBv4_10.out, HBv2_10.out⟩
    refine hK.out _ _ hS10 (fun _ => ?_)
    clear hK K hS9
    refine wpAnyH_ready (rs := [10]) (by kernel_rfl) (by simp) ?_
    refine AllReadyH.cons rfl (fun K hK => ?_) AllReadyH.nil
    go_simp
    refine (specPut_any _ k _ gs ageName tx _ (FieldsV.of_owns HOCG_10.out) (by omega)).mono ?_
    rintro e w11 ⟨vv, rfl, ownPG, bw⟩
    obtain ⟨pg, hpg⟩ : ∃ l, l = putF gs ageName tx := ⟨_, rfl⟩
    have HPG : Hid (putF gs ageName tx = pg) := hpg.symm
    rw [← hpg] at ownPG
    have HPL : Hid (pg.length ≤ k + 1) := by show _ ≤ _; rw [hpg]; have := putF_le gs ageName tx; have h2 := HLo.out; rw [h2] at this; exact this
    have bpl : pg.length ≤ 1048577 := by have := HPL.out; omega
    have HPW : Hid (WalkF pg.length pg) := by show WalkF _ _; rw [hpg]; exact walk_put HLo.out HSo.out (by decide) (by have := HTZ.out; unfold maxLen; omega)
    clear hpg
    obtain ⟨oPG, pPG, rfl⟩ := slice_of_owns ownPG
    have hb11 : Below w.heap.size w (w11) := hb10.trans (bw.mono hb10.size)
    have HM11 : Hid ((w10).heap.size ≤ (w11).heap.size) := bw.size
    have HOCG_11 : Hid ((w11).ownsRow w.heap.size 74 2 (.slice oCG k pCG) k (flatF gs)) := owns_below HOCG_10.out bw (fun g hg => owns_lt HOCG_10.out hg)
    have HBv1_11 : Hid ((w11).heap[qv1]? = some (.cells #[.int .i64 ma, .string pa, .slice oa na ca, .string ba] 26)) := blk_below HBv1_10.out bw
    have HBv2_11 : Hid ((w11).heap[qv2]? = some (.cells #[.string op, .slice o1 n1 c1, .slice o2 n2 c2, .int .i64 st, .slice o3 k c3, .string d, .int .i64 t] 31)) := blk_below HBv2_10.out bw
    have HBv3_11 : Hid ((w11).heap[qv3]? = some (.cells #[.int .i64 0, .slice none 0 0, .string ⟨#[]⟩] 29)) := blk_below HBv3_10.out bw
    have HBv4_11 : Hid ((w11).heap[qv4]? = some (.cells #[.int .i64 st, .slice oCG k pCG, .string d] 29)) := blk_below HBv4_10.out bw
    have HBv5_11 : Hid ((w11).heap[qv5]? = some (.cells #[.int .i64 st, .slice oCG k pCG, .string d] 29)) := blk_below HBv5_10.out bw
    have HOPG_11 : Hid ((w11).ownsRow w.heap.size 74 2 (.slice oPG pg.length pPG) pg.length (flatF pg)) := owns_wide ownPG hb10.size
    have LOPG : Hid (∀ g, (Value.ownBlock (.slice oPG pg.length pPG)) = some g → (w10).heap.size ≤ g) := fun g hg => owns_ge ownPG hg
    have HIPG : Hid (∀ g, (Value.ownBlock (.slice oPG pg.length pPG)) = some g → g < (w11).heap.size) := fun g hg => owns_lt ownPG hg
    clear ownPG
    clear hb10 HOCG_10 HBv1_10 HBv2_10 HBv3_10 HBv4_10 HBv5_10 bw
    have hS11 : w11.heap[qv4]? = some (.cells #[.int .i64 st, .slice oCG k pCG, .string d] 29) ∧ w11.heap[qv2]? = some (.cells #[.string op, .slice o1 n1 c1, .slice o2 n2 c2, .int .i64 st, .slice o3 k c3, .string d, .int .i64 t] 31) := ⟨HBv4_11.out, HBv2_11.out⟩
    refine hK.out _ _ hS11 (fun _ => ?_)
    clear hK K hS10
    refine wpAnyH_takeD (i := 11) (v := .pointer (some ⟨qv5, 1, none⟩)) (some 32) rfl rfl (by kernel_rfl) (by kernel_rfl) (by kernel_rfl) (fun _ _ _ h => h) (Or.inl ⟨by rfl, by intro W _; go_simp⟩) hS11 ?_
    simp only [Act.put, List.setIfInBounds_toArray, List.set_cons_zero, List.set_cons_succ]
    refine wpAnyH_ready (rs := [12]) (by kernel_rfl) (by simp) ?_
    refine AllReadyH.cons rfl (fun K hK => ?_) AllReadyH.nil
    have ce1 : (w11).cell? ⟨qv5, 1, none⟩ = some (.slice oCG k pCG) := (cell_of HBv5_11.out 1).trans rfl
    have fe1 : (w11).frozen? ⟨qv5, 1, none⟩ = false := frozen_of HBv5_11.out 1
    obtain ⟨w12, hY⟩ : ∃ Y, Y = (w11.setCell ⟨qv5, 1, none⟩ (.slice oPG pg.length pPG)) := ⟨_, rfl⟩
    have HY : Hid ((w11.setCell ⟨qv5, 1, none⟩ (.slice oPG pg.length pPG)) = w12) := hY.symm
    have hb12 : Below w.heap.size w (w12) := by rw [hY]; exact (hb11.setCell (p := ⟨qv5, 1, none⟩) HGv5.out _)
    have HM12 : Hid ((w11).heap.size ≤ w12.heap.size) := by show _ ≤ _; rw [hY]; simp
    have HOCG_12 : Hid ((w12).ownsRow w.heap.size 74 2 (.slice oCG k pCG) k (flatF gs)) := by show World.ownsRow _ _ _ _ _ _ _; rw [hY]; exact owns_same HOCG_11.out (fun g hg => by have hne := own_ne HOCG_11.out HBv5_11.out (by decide) g hg; rw [heap_setCell_other _ _ g _ hne])
    have HOPG_12 : Hid ((w12).ownsRow w.heap.size 74 2 (.slice oPG pg.length pPG) pg.length (flatF pg)) := by show World.ownsRow _ _ _ _ _ _ _; rw [hY]; exact owns_same HOPG_11.out (fun g hg => by have hne := own_ne HOPG_11.out HBv5_11.out (by decide) g hg; rw [heap_setCell_other _ _ g _ hne])
    have HBv1_12 : Hid ((w12).heap[qv1]? = some (.cells #[.int .i64 ma, .string pa, .slice oa na ca, .string ba] 26)) := by show _ = _; rw [hY, heap_setCell_other _ _ _ _ HNv1v5.out]; exact HBv1_11.out
    have HBv2_12 : Hid ((w12).heap[qv2]? = some (.cells #[.string op, .slice o1 n1 c1, .slice o2 n2 c2, .int .i64 st, .slice o3 k c3, .string d, .int .i64 t] 31)) := by show _ = _; rw [hY, heap_setCell_other _ _ _ _ HNv2v5.out]; exact HBv2_11.out
    have HBv3_12 : Hid ((w12).heap[qv3]? = some (.cells #[.int .i64 0, .slice none 0 0, .string ⟨#[]⟩] 29)) := by show _ = _; rw [hY, heap_setCell_other _ _ _ _ HNv3v5.out]; exact HBv3_11.out
    have HBv4_12 : Hid ((w12).heap[qv4]? = some (.cells #[.int .i64 st, .slice oCG k pCG, .string d] 29)) := by show _ = _; rw [hY, heap_setCell_other _ _ _ _ HNv4v5.out]; exact HBv4_11.out
    have HBv5_12 : Hid ((w12).heap[qv5]? = some (.cells #[.int .i64 st, .slice oPG pg.length pPG, .string d] 29)) := by show _ = _; rw [hY]; have h := (heap_set _ qv5 1 _ _ _ (.slice oPG pg.length pPG) HBv5_11.out); simpa using h
    clear hY hb11 HOCG_11 HOPG_11 HBv1_11 HBv2_11 HBv3_11 HBv4_11 HBv5_11
    go_simp
    rw [HY.out]
    have hS12 : w12.heap[qv4]? = some (.cells #[.int .i64 st, .slice oCG k pCG, .string d] 29) ∧ w12.heap[qv2]? = some (.cells #[.string op, .slice o1 n1 c1, .slice o2 n2 c2, .int .i64 st, .slice o3 k c3, .string d, .int .i64 t] 31) := ⟨HBv4_12.out, HBv2_12.out⟩
    refine hK.out _ _ hS12 (fun _ => ?_)
    clear hK K HY hS11 ce1 fe1
    clear hS12
    refine wpAnyH_done (by kernel_rfl) ?_ _
    have cv5_0 : (w12).cell? ⟨qv5, 0, none⟩ = some (.int .i64 st) := (cell_of HBv5_12.out 0).trans rfl
    have cv5_1 : (w12).cell? ⟨qv5, 1, none⟩ = some (.slice oPG pg.length pPG) := (cell_of HBv5_12.out 1).trans rfl
    have cv5_2 : (w12).cell? ⟨qv5, 2, none⟩ = some (.string d) := (cell_of HBv5_12.out 2).trans rfl
    go_wp2_with fail
    refine (specRespOk_any st _ d pg.length _ pg _ (FieldsV.of_owns HOPG_12.out) (by omega) HPW.out HDM.out).mono ?_
    rintro e w13 ⟨ro, rfl, hro, bw⟩
    have hb13 : Below w.heap.size w (w13) := hb12.trans (bw.mono hb12.size)
    have HM13 : Hid ((w12).heap.size ≤ (w13).heap.size) := bw.size
    have HOCG_13 : Hid ((w13).ownsRow w.heap.size 74 2 (.slice oCG k pCG) k (flatF gs)) := owns_below HOCG_12.out bw (fun g hg => owns_lt HOCG_12.out hg)
    have HOPG_13 : Hid ((w13).ownsRow w.heap.size 74 2 (.slice oPG pg.length pPG) pg.length (flatF pg)) := owns_below HOPG_12.out bw (fun g hg => owns_lt HOPG_12.out hg)
    have HBv1_13 : Hid ((w13).heap[qv1]? = some (.cells #[.int .i64 ma, .string pa, .slice oa na ca, .string ba] 26)) := blk_below HBv1_12.out bw
    have HBv2_13 : Hid ((w13).heap[qv2]? = some (.cells #[.string op, .slice o1 n1 c1, .slice o2 n2 c2, .int .i64 st, .slice o3 k c3, .string d, .int .i64 t] 31)) := blk_below HBv2_12.out bw
    have HBv3_13 : Hid ((w13).heap[qv3]? = some (.cells #[.int .i64 0, .slice none 0 0, .string ⟨#[]⟩] 29)) := blk_below HBv3_12.out bw
    have HBv4_13 : Hid ((w13).heap[qv4]? = some (.cells #[.int .i64 st, .slice oCG k pCG, .string d] 29)) := blk_below HBv4_12.out bw
    have HBv5_13 : Hid ((w13).heap[qv5]? = some (.cells #[.int .i64 st, .slice oPG pg.length pPG, .string d] 29)) := blk_below HBv5_12.out bw
    clear hb12 HOCG_12 HOPG_12 HBv1_12 HBv2_12 HBv3_12 HBv4_12 HBv5_12 bw
    clear cv5_0 cv5_1 cv5_2
    cases ro with
    | false =>
      have HNro : Hid (¬ (RespP st pg d)) := fun h => nomatch hro.2 h
      clear hro
      have cv3_0 : (w13).cell? ⟨qv3, 0, none⟩ = some (.int .i64 0) := (cell_of HBv3_13.out 0).trans rfl
      have fcv3_0 : (w13).frozen? ⟨qv3, 0, none⟩ = false := frozen_of HBv3_13.out 0
      have cv3_1 : (w13).cell? ⟨qv3, 1, none⟩ = some (.slice none 0 0) := (cell_of HBv3_13.out 1).trans rfl
      have fcv3_1 : (w13).frozen? ⟨qv3, 1, none⟩ = false := frozen_of HBv3_13.out 1
      have cv3_2 : (w13).cell? ⟨qv3, 2, none⟩ = some (.string ⟨#[]⟩) := (cell_of HBv3_13.out 2).trans rfl
      have fcv3_2 : (w13).frozen? ⟨qv3, 2, none⟩ = false := frozen_of HBv3_13.out 2
      have cv4_0 : (w13).cell? ⟨qv4, 0, none⟩ = some (.int .i64 st) := (cell_of HBv4_13.out 0).trans rfl
      have cv4_1 : (w13).cell? ⟨qv4, 1, none⟩ = some (.slice oCG k pCG) := (cell_of HBv4_13.out 1).trans rfl
      have cv4_2 : (w13).cell? ⟨qv4, 2, none⟩ = some (.string d) := (cell_of HBv4_13.out 2).trans rfl
      go_wp2_with fail
      obtain ⟨w14, hW14⟩ : ∃ W, W = (w13).setCell ⟨qv3, 0, none⟩ (.int .i64 st) := ⟨_, rfl⟩
      rw [← hW14]
      have hb14 : Below w.heap.size w (w14) := by rw [hW14]; exact (hb13.setCell (p := ⟨qv3, 0, none⟩) HGv3.out _)
      have HM14 : Hid ((w13).heap.size ≤ w14.heap.size) := by show _ ≤ _; rw [hW14]; simp
      have HOCG_14 : Hid ((w14).ownsRow w.heap.size 74 2 (.slice oCG k pCG) k (flatF gs)) := by show World.ownsRow _ _ _ _ _ _ _; rw [hW14]; exact owns_same HOCG_13.out (fun g hg => heap_setCell_other _ _ g _ (own_ne HOCG_13.out HBv3_13.out (by decide) g hg))
      have HOPG_14 : Hid ((w14).ownsRow w.heap.size 74 2 (.slice oPG pg.length pPG) pg.length (flatF pg)) := by show World.ownsRow _ _ _ _ _ _ _; rw [hW14]; exact owns_same HOPG_13.out (fun g hg => heap_setCell_other _ _ g _ (own_ne HOPG_13.out HBv3_13.out (by decide) g hg))
      have HBv1_14 : Hid ((w14).heap[qv1]? = some (.cells #[.int .i64 ma, .string pa, .slice oa na ca, .string ba] 26)) := by show _ = _; rw [hW14, heap_setCell_other _ _ _ _ HNv1v3.out]; exact HBv1_13.out
      have HBv2_14 : Hid ((w14).heap[qv2]? = some (.cells #[.string op, .slice o1 n1 c1, .slice o2 n2 c2, .int .i64 st, .slice o3 k c3, .string d, .int .i64 t] 31)) := by show _ = _; rw [hW14, heap_setCell_other _ _ _ _ HNv2v3.out]; exact HBv2_13.out
      have HBv4_14 : Hid ((w14).heap[qv4]? = some (.cells #[.int .i64 st, .slice oCG k pCG, .string d] 29)) := by show _ = _; rw [hW14, heap_setCell_other _ _ _ _ HNv3v4.out.symm]; exact HBv4_13.out
      have HBv5_14 : Hid ((w14).heap[qv5]? = some (.cells #[.int .i64 st, .slice oPG pg.length pPG, .string d] 29)) := by show _ = _; rw [hW14, heap_setCell_other _ _ _ _ HNv3v5.out.symm]; exact HBv5_13.out
      have HBv3_14 : Hid ((w14).heap[qv3]? = some (.cells #[.int .i64 st, .slice none 0 0, .string ⟨#[]⟩] 29)) := by show _ = _; rw [hW14]; have h := heap_set _ _ 0 _ _ _ (.int .i64 st) HBv3_13.out; simpa using h
      clear hb13 HOCG_13 HOPG_13 HBv1_13 HBv2_13 HBv3_13 HBv4_13 HBv5_13 hW14
      obtain ⟨w15, hW15⟩ : ∃ W, W = (w14).setCell ⟨qv3, 1, none⟩ (.slice oCG k pCG) := ⟨_, rfl⟩
      rw [← hW15]
      have hb15 : Below w.heap.size w (w15) := by rw [hW15]; exact (hb14.setCell (p := ⟨qv3, 1, none⟩) HGv3.out _)
      have HM15 : Hid ((w14).heap.size ≤ w15.heap.size) := by show _ ≤ _; rw [hW15]; simp
      have HOCG_15 : Hid ((w15).ownsRow w.heap.size 74 2 (.slice oCG k pCG) k (flatF gs)) := by show World.ownsRow _ _ _ _ _ _ _; rw [hW15]; exact owns_same HOCG_14.out (fun g hg => heap_setCell_other _ _ g _ (own_ne HOCG_14.out HBv3_14.out (by decide) g hg))
      have HOPG_15 : Hid ((w15).ownsRow w.heap.size 74 2 (.slice oPG pg.length pPG) pg.length (flatF pg)) := by show World.ownsRow _ _ _ _ _ _ _; rw [hW15]; exact owns_same HOPG_14.out (fun g hg => heap_setCell_other _ _ g _ (own_ne HOPG_14.out HBv3_14.out (by decide) g hg))
      have HBv1_15 : Hid ((w15).heap[qv1]? = some (.cells #[.int .i64 ma, .string pa, .slice oa na ca, .string ba] 26)) := by show _ = _; rw [hW15, heap_setCell_other _ _ _ _ HNv1v3.out]; exact HBv1_14.out
      have HBv2_15 : Hid ((w15).heap[qv2]? = some (.cells #[.string op, .slice o1 n1 c1, .slice o2 n2 c2, .int .i64 st, .slice o3 k c3, .string d, .int .i64 t] 31)) := by show _ = _; rw [hW15, heap_setCell_other _ _ _ _ HNv2v3.out]; exact HBv2_14.out
      have HBv4_15 : Hid ((w15).heap[qv4]? = some (.cells #[.int .i64 st, .slice oCG k pCG, .string d] 29)) := by show _ = _; rw [hW15, heap_setCell_other _ _ _ _ HNv3v4.out.symm]; exact HBv4_14.out
      have HBv5_15 : Hid ((w15).heap[qv5]? = some (.cells #[.int .i64 st, .slice oPG pg.length pPG, .string d] 29)) := by show _ = _; rw [hW15, heap_setCell_other _ _ _ _ HNv3v5.out.symm]; exact HBv5_14.out
      have HBv3_15 : Hid ((w15).heap[qv3]? = some (.cells #[.int .i64 st, .slice oCG k pCG, .string ⟨#[]⟩] 29)) := by show _ = _; rw [hW15]; have h := heap_set _ _ 1 _ _ _ (.slice oCG k pCG) HBv3_14.out; simpa using h
      clear hb14 HOCG_14 HOPG_14 HBv1_14 HBv2_14 HBv3_14 HBv4_14 HBv5_14 hW15
      obtain ⟨w16, hW16⟩ : ∃ W, W = (w15).setCell ⟨qv3, 2, none⟩ (.string d) := ⟨_, rfl⟩
      rw [← hW16]
      have hb16 : Below w.heap.size w (w16) := by rw [hW16]; exact (hb15.setCell (p := ⟨qv3, 2, none⟩) HGv3.out _)
      have HM16 : Hid ((w15).heap.size ≤ w16.heap.size) := by show _ ≤ _; rw [hW16]; simp
      have HOCG_16 : Hid ((w16).ownsRow w.heap.size 74 2 (.slice oCG k pCG) k (flatF gs)) := by show World.ownsRow _ _ _ _ _ _ _; rw [hW16]; exact owns_same HOCG_15.out (fun g hg => heap_setCell_other _ _ g _ (own_ne HOCG_15.out HBv3_15.out (by decide) g hg))
      have HOPG_16 : Hid ((w16).ownsRow w.heap.size 74 2 (.slice oPG pg.length pPG) pg.length (flatF pg)) := by show World.ownsRow _ _ _ _ _ _ _; rw [hW16]; exact owns_same HOPG_15.out (fun g hg => heap_setCell_other _ _ g _ (own_ne HOPG_15.out HBv3_15.out (by decide) g hg))
      have HBv1_16 : Hid ((w16).heap[qv1]? = some (.cells #[.int .i64 ma, .string pa, .slice oa na ca, .string ba] 26)) := by show _ = _; rw [hW16, heap_setCell_other _ _ _ _ HNv1v3.out]; exact HBv1_15.out
      have HBv2_16 : Hid ((w16).heap[qv2]? = some (.cells #[.string op, .slice o1 n1 c1, .slice o2 n2 c2, .int .i64 st, .slice o3 k c3, .string d, .int .i64 t] 31)) := by show _ = _; rw [hW16, heap_setCell_other _ _ _ _ HNv2v3.out]; exact HBv2_15.out
      have HBv4_16 : Hid ((w16).heap[qv4]? = some (.cells #[.int .i64 st, .slice oCG k pCG, .string d] 29)) := by show _ = _; rw [hW16, heap_setCell_other _ _ _ _ HNv3v4.out.symm]; exact HBv4_15.out
      have HBv5_16 : Hid ((w16).heap[qv5]? = some (.cells #[.int .i64 st, .slice oPG pg.length pPG, .string d] 29)) := by show _ = _; rw [hW16, heap_setCell_other _ _ _ _ HNv3v5.out.symm]; exact HBv5_15.out
      have HBv3_16 : Hid ((w16).heap[qv3]? = some (.cells #[.int .i64 st, .slice oCG k pCG, .string d] 29)) := by show _ = _; rw [hW16]; have h := heap_set _ _ 2 _ _ _ (.string d) HBv3_15.out; simpa using h
      clear hb15 HOCG_15 HOPG_15 HBv1_15 HBv2_15 HBv3_15 HBv4_15 HBv5_15 hW16
      have kv3_0 : (w16).cell? ⟨qv3, 0, none⟩ = some (.int .i64 st) := (cell_of HBv3_16.out 0).trans rfl
      have kv3_1 : (w16).cell? ⟨qv3, 1, none⟩ = some (.slice oCG k pCG) := (cell_of HBv3_16.out 1).trans rfl
      have kv3_2 : (w16).cell? ⟨qv3, 2, none⟩ = some (.string d) := (cell_of HBv3_16.out 2).trans rfl
      refine bodyPost_ret (v := .agg #[.int .i64 st, .slice oCG k pCG, .string d]) (by simp [results, Tryz.results10, go_sem, kv3_0, kv3_1, kv3_2]) rfl ?_
      unfold ansF
      rw [ansS_no HNsm.out, ansB_no HNsm.out, ansG_no HNsm.out, HAT.out]
      rw [merge_not (by rw [HPG.out]; exact HNro.out)]
      exact ⟨_, rfl, by rw [HLo.out]; exact HOCG_16.out, hb16⟩
    | true =>
      have HYro : Hid (RespP st pg d) := hro.1 rfl
      clear hro
      have cv3_0 : (w13).cell? ⟨qv3, 0, none⟩ = some (.int .i64 0) := (cell_of HBv3_13.out 0).trans rfl
      have fcv3_0 : (w13).frozen? ⟨qv3, 0, none⟩ = false := frozen_of HBv3_13.out 0
      have cv3_1 : (w13).cell? ⟨qv3, 1, none⟩ = some (.slice none 0 0) := (cell_of HBv3_13.out 1).trans rfl
      have fcv3_1 : (w13).frozen? ⟨qv3, 1, none⟩ = false := frozen_of HBv3_13.out 1
      have cv3_2 : (w13).cell? ⟨qv3, 2, none⟩ = some (.string ⟨#[]⟩) := (cell_of HBv3_13.out 2).trans rfl
      have fcv3_2 : (w13).frozen? ⟨qv3, 2, none⟩ = false := frozen_of HBv3_13.out 2
      have cv5_0 : (w13).cell? ⟨qv5, 0, none⟩ = some (.int .i64 st) := (cell_of HBv5_13.out 0).trans rfl
      have cv5_1 : (w13).cell? ⟨qv5, 1, none⟩ = some (.slice oPG pg.length pPG) := (cell_of HBv5_13.out 1).trans rfl
      have cv5_2 : (w13).cell? ⟨qv5, 2, none⟩ = some (.string d) := (cell_of HBv5_13.out 2).trans rfl
      go_wp2_with fail
      obtain ⟨w14, hW14⟩ : ∃ W, W = (w13).setCell ⟨qv3, 0, none⟩ (.int .i64 st) := ⟨_, rfl⟩
      rw [← hW14]
      have hb14 : Below w.heap.size w (w14) := by rw [hW14]; exact (hb13.setCell (p := ⟨qv3, 0, none⟩) HGv3.out _)
      have HM14 : Hid ((w13).heap.size ≤ w14.heap.size) := by show _ ≤ _; rw [hW14]; simp
      have HOCG_14 : Hid ((w14).ownsRow w.heap.size 74 2 (.slice oCG k pCG) k (flatF gs)) := by show World.ownsRow _ _ _ _ _ _ _; rw [hW14]; exact owns_same HOCG_13.out (fun g hg => heap_setCell_other _ _ g _ (own_ne HOCG_13.out HBv3_13.out (by decide) g hg))
      have HOPG_14 : Hid ((w14).ownsRow w.heap.size 74 2 (.slice oPG pg.length pPG) pg.length (flatF pg)) := by show World.ownsRow _ _ _ _ _ _ _; rw [hW14]; exact owns_same HOPG_13.out (fun g hg => heap_setCell_other _ _ g _ (own_ne HOPG_13.out HBv3_13.out (by decide) g hg))
      have HBv1_14 : Hid ((w14).heap[qv1]? = some (.cells #[.int .i64 ma, .string pa, .slice oa na ca, .string ba] 26)) := by show _ = _; rw [hW14, heap_setCell_other _ _ _ _ HNv1v3.out]; exact HBv1_13.out
      have HBv2_14 : Hid ((w14).heap[qv2]? = some (.cells #[.string op, .slice o1 n1 c1, .slice o2 n2 c2, .int .i64 st, .slice o3 k c3, .string d, .int .i64 t] 31)) := by show _ = _; rw [hW14, heap_setCell_other _ _ _ _ HNv2v3.out]; exact HBv2_13.out
      have HBv4_14 : Hid ((w14).heap[qv4]? = some (.cells #[.int .i64 st, .slice oCG k pCG, .string d] 29)) := by show _ = _; rw [hW14, heap_setCell_other _ _ _ _ HNv3v4.out.symm]; exact HBv4_13.out
      have HBv5_14 : Hid ((w14).heap[qv5]? = some (.cells #[.int .i64 st, .slice oPG pg.length pPG, .string d] 29)) := by show _ = _; rw [hW14, heap_setCell_other _ _ _ _ HNv3v5.out.symm]; exact HBv5_13.out
      have HBv3_14 : Hid ((w14).heap[qv3]? = some (.cells #[.int .i64 st, .slice none 0 0, .string ⟨#[]⟩] 29)) := by show _ = _; rw [hW14]; have h := heap_set _ _ 0 _ _ _ (.int .i64 st) HBv3_13.out; simpa using h
      clear hb13 HOCG_13 HOPG_13 HBv1_13 HBv2_13 HBv3_13 HBv4_13 HBv5_13 hW14
      obtain ⟨w15, hW15⟩ : ∃ W, W = (w14).setCell ⟨qv3, 1, none⟩ (.slice oPG pg.length pPG) := ⟨_, rfl⟩
      rw [← hW15]
      have hb15 : Below w.heap.size w (w15) := by rw [hW15]; exact (hb14.setCell (p := ⟨qv3, 1, none⟩) HGv3.out _)
      have HM15 : Hid ((w14).heap.size ≤ w15.heap.size) := by show _ ≤ _; rw [hW15]; simp
      have HOCG_15 : Hid ((w15).ownsRow w.heap.size 74 2 (.slice oCG k pCG) k (flatF gs)) := by show World.ownsRow _ _ _ _ _ _ _; rw [hW15]; exact owns_same HOCG_14.out (fun g hg => heap_setCell_other _ _ g _ (own_ne HOCG_14.out HBv3_14.out (by decide) g hg))
      have HOPG_15 : Hid ((w15).ownsRow w.heap.size 74 2 (.slice oPG pg.length pPG) pg.length (flatF pg)) := by show World.ownsRow _ _ _ _ _ _ _; rw [hW15]; exact owns_same HOPG_14.out (fun g hg => heap_setCell_other _ _ g _ (own_ne HOPG_14.out HBv3_14.out (by decide) g hg))
      have HBv1_15 : Hid ((w15).heap[qv1]? = some (.cells #[.int .i64 ma, .string pa, .slice oa na ca, .string ba] 26)) := by show _ = _; rw [hW15, heap_setCell_other _ _ _ _ HNv1v3.out]; exact HBv1_14.out
      have HBv2_15 : Hid ((w15).heap[qv2]? = some (.cells #[.string op, .slice o1 n1 c1, .slice o2 n2 c2, .int .i64 st, .slice o3 k c3, .string d, .int .i64 t] 31)) := by show _ = _; rw [hW15, heap_setCell_other _ _ _ _ HNv2v3.out]; exact HBv2_14.out
      have HBv4_15 : Hid ((w15).heap[qv4]? = some (.cells #[.int .i64 st, .slice oCG k pCG, .string d] 29)) := by show _ = _; rw [hW15, heap_setCell_other _ _ _ _ HNv3v4.out.symm]; exact HBv4_14.out
      have HBv5_15 : Hid ((w15).heap[qv5]? = some (.cells #[.int .i64 st, .slice oPG pg.length pPG, .string d] 29)) := by show _ = _; rw [hW15, heap_setCell_other _ _ _ _ HNv3v5.out.symm]; exact HBv5_14.out
      have HBv3_15 : Hid ((w15).heap[qv3]? = some (.cells #[.int .i64 st, .slice oPG pg.length pPG, .string ⟨#[]⟩] 29)) := by show _ = _; rw [hW15]; have h := heap_set _ _ 1 _ _ _ (.slice oPG pg.length pPG) HBv3_14.out; simpa using h
      clear hb14 HOCG_14 HOPG_14 HBv1_14 HBv2_14 HBv3_14 HBv4_14 HBv5_14 hW15
      obtain ⟨w16, hW16⟩ : ∃ W, W = (w15).setCell ⟨qv3, 2, none⟩ (.string d) := ⟨_, rfl⟩
      rw [← hW16]
      have hb16 : Below w.heap.size w (w16) := by rw [hW16]; exact (hb15.setCell (p := ⟨qv3, 2, none⟩) HGv3.out _)
      have HM16 : Hid ((w15).heap.size ≤ w16.heap.size) := by show _ ≤ _; rw [hW16]; simp
      have HOCG_16 : Hid ((w16).ownsRow w.heap.size 74 2 (.slice oCG k pCG) k (flatF gs)) := by show World.ownsRow _ _ _ _ _ _ _; rw [hW16]; exact owns_same HOCG_15.out (fun g hg => heap_setCell_other _ _ g _ (own_ne HOCG_15.out HBv3_15.out (by decide) g hg))
      have HOPG_16 : Hid ((w16).ownsRow w.heap.size 74 2 (.slice oPG pg.length pPG) pg.length (flatF pg)) := by show World.ownsRow _ _ _ _ _ _ _; rw [hW16]; exact owns_same HOPG_15.out (fun g hg => heap_setCell_other _ _ g _ (own_ne HOPG_15.out HBv3_15.out (by decide) g hg))
      have HBv1_16 : Hid ((w16).heap[qv1]? = some (.cells #[.int .i64 ma, .string pa, .slice oa na ca, .string ba] 26)) := by show _ = _; rw [hW16, heap_setCell_other _ _ _ _ HNv1v3.out]; exact HBv1_15.out
      have HBv2_16 : Hid ((w16).heap[qv2]? = some (.cells #[.string op, .slice o1 n1 c1, .slice o2 n2 c2, .int .i64 st, .slice o3 k c3, .string d, .int .i64 t] 31)) := by show _ = _; rw [hW16, heap_setCell_other _ _ _ _ HNv2v3.out]; exact HBv2_15.out
      have HBv4_16 : Hid ((w16).heap[qv4]? = some (.cells #[.int .i64 st, .slice oCG k pCG, .string d] 29)) := by show _ = _; rw [hW16, heap_setCell_other _ _ _ _ HNv3v4.out.symm]; exact HBv4_15.out
      have HBv5_16 : Hid ((w16).heap[qv5]? = some (.cells #[.int .i64 st, .slice oPG pg.length pPG, .string d] 29)) := by show _ = _; rw [hW16, heap_setCell_other _ _ _ _ HNv3v5.out.symm]; exact HBv5_15.out
      have HBv3_16 : Hid ((w16).heap[qv3]? = some (.cells #[.int .i64 st, .slice oPG pg.length pPG, .string d] 29)) := by show _ = _; rw [hW16]; have h := heap_set _ _ 2 _ _ _ (.string d) HBv3_15.out; simpa using h
      clear hb15 HOCG_15 HOPG_15 HBv1_15 HBv2_15 HBv3_15 HBv4_15 HBv5_15 hW16
      have kv3_0 : (w16).cell? ⟨qv3, 0, none⟩ = some (.int .i64 st) := (cell_of HBv3_16.out 0).trans rfl
      have kv3_1 : (w16).cell? ⟨qv3, 1, none⟩ = some (.slice oPG pg.length pPG) := (cell_of HBv3_16.out 1).trans rfl
      have kv3_2 : (w16).cell? ⟨qv3, 2, none⟩ = some (.string d) := (cell_of HBv3_16.out 2).trans rfl
      refine bodyPost_ret (v := .agg #[.int .i64 st, .slice oPG pg.length pPG, .string d]) (by simp [results, Tryz.results10, go_sem, kv3_0, kv3_1, kv3_2]) rfl ?_
      unfold ansF
      rw [ansS_no HNsm.out, ansB_no HNsm.out, ansG_no HNsm.out, HAT.out]
      rw [merge_put (by rw [HPG.out]; exact HYro.out), HPG.out]
      exact ⟨_, rfl, HOPG_16.out, hb16⟩
  | true =>
    have HYsm : Hid (SameP fsa gs) := hsm.1 rfl
    clear hsm
    have cv2_3 : (w6).cell? ⟨qv2, 3, none⟩ = some (.int .i64 st) := (cell_of HBv2_6.out 3).trans rfl
    have cv2_4 : (w6).cell? ⟨qv2, 4, none⟩ = some (.slice o3 k c3) := (cell_of HBv2_6.out 4).trans rfl
    have cv2_5 : (w6).cell? ⟨qv2, 5, none⟩ = some (.string d) := (cell_of HBv2_6.out 5).trans rfl
    go_wp2_with fail
    refine (specShort_any st _ d k baseo gs _ (HVo.out _ hb6) (by omega)).mono ?_
    rintro e w7 ⟨vv, rfl, ownSG, bw⟩
    rw [HSG.out] at ownSG
    obtain ⟨oSG, pSG, rfl⟩ := slice_of_owns ownSG
    have hb7 : Below w.heap.size w (w7) := hb6.trans (bw.mono hb6.size)
    have HM7 : Hid ((w6).heap.size ≤ (w7).heap.size) := bw.size
    have HOCG_7 : Hid ((w7).ownsRow w.heap.size 74 2 (.slice oCG k pCG) k (flatF gs)) := owns_below HOCG_6.out bw (fun g hg => owns_lt HOCG_6.out hg)
    have HBv1_7 : Hid ((w7).heap[qv1]? = some (.cells #[.int .i64 ma, .string pa, .slice oa na ca, .string ba] 26)) := blk_below HBv1_6.out bw
    have HBv2_7 : Hid ((w7).heap[qv2]? = some (.cells #[.string op, .slice o1 n1 c1, .slice o2 n2 c2, .int .i64 st, .slice o3 k c3, .string d, .int .i64 t] 31)) := blk_below HBv2_6.out bw
    have HBv3_7 : Hid ((w7).heap[qv3]? = some (.cells #[.int .i64 0, .slice none 0 0, .string ⟨#[]⟩] 29)) := blk_below HBv3_6.out bw
    have HBv4_7 : Hid ((w7).heap[qv4]? = some (.cells #[.int .i64 st, .slice oCG k pCG, .string d] 29)) := blk_below HBv4_6.out bw
    have HOSG_7 : Hid ((w7).ownsRow w.heap.size 74 2 (.slice oSG sg.length pSG) sg.length (flatF sg)) := owns_wide ownSG hb6.size
    clear ownSG
    clear hb6 HOCG_6 HBv1_6 HBv2_6 HBv3_6 HBv4_6 bw
    clear cv2_3 cv2_4 cv2_5
    have cv4_0 : (w7).cell? ⟨qv4, 0, none⟩ = some (.int .i64 st) := (cell_of HBv4_7.out 0).trans rfl
    have fcv4_0 : (w7).frozen? ⟨qv4, 0, none⟩ = false := frozen_of HBv4_7.out 0
    have cv4_1 : (w7).cell? ⟨qv4, 1, none⟩ = some (.slice oCG k pCG) := (cell_of HBv4_7.out 1).trans rfl
    have fcv4_1 : (w7).frozen? ⟨qv4, 1, none⟩ = false := frozen_of HBv4_7.out 1
    have cv4_2 : (w7).cell? ⟨qv4, 2, none⟩ = some (.string d) := (cell_of HBv4_7.out 2).trans rfl
    have fcv4_2 : (w7).frozen? ⟨qv4, 2, none⟩ = false := frozen_of HBv4_7.out 2
    go_upto_region 4 with fail
    obtain ⟨w8, hW8⟩ : ∃ W, W = (w7).setCell ⟨qv4, 0, none⟩ (.int .i64 304) := ⟨_, rfl⟩
    rw [← hW8]
    have hb8 : Below w.heap.size w (w8) := by rw [hW8]; exact (hb7.setCell (p := ⟨qv4, 0, none⟩) HGv4.out _)
    have HM8 : Hid ((w7).heap.size ≤ w8.heap.size) := by show _ ≤ _; rw [hW8]; simp
    have HOCG_8 : Hid ((w8).ownsRow w.heap.size 74 2 (.slice oCG k pCG) k (flatF gs)) := by show World.ownsRow _ _ _ _ _ _ _; rw [hW8]; exact owns_same HOCG_7.out (fun g hg => heap_setCell_other _ _ g _ (own_ne HOCG_7.out HBv4_7.out (by decide) g hg))
    have HOSG_8 : Hid ((w8).ownsRow w.heap.size 74 2 (.slice oSG sg.length pSG) sg.length (flatF sg)) := by show World.ownsRow _ _ _ _ _ _ _; rw [hW8]; exact owns_same HOSG_7.out (fun g hg => heap_setCell_other _ _ g _ (own_ne HOSG_7.out HBv4_7.out (by decide) g hg))
    have HBv1_8 : Hid ((w8).heap[qv1]? = some (.cells #[.int .i64 ma, .string pa, .slice oa na ca, .string ba] 26)) := by show _ = _; rw [hW8, heap_setCell_other _ _ _ _ HNv1v4.out]; exact HBv1_7.out
    have HBv2_8 : Hid ((w8).heap[qv2]? = some (.cells #[.string op, .slice o1 n1 c1, .slice o2 n2 c2, .int .i64 st, .slice o3 k c3, .string d, .int .i64 t] 31)) := by show _ = _; rw [hW8, heap_setCell_other _ _ _ _ HNv2v4.out]; exact HBv2_7.out
    have HBv3_8 : Hid ((w8).heap[qv3]? = some (.cells #[.int .i64 0, .slice none 0 0, .string ⟨#[]⟩] 29)) := by show _ = _; rw [hW8, heap_setCell_other _ _ _ _ HNv3v4.out]; exact HBv3_7.out
    have HBv4_8 : Hid ((w8).heap[qv4]? = some (.cells #[.int .i64 304, .slice oCG k pCG, .string d] 29)) := by show _ = _; rw [hW8]; have h := heap_set _ _ 0 _ _ _ (.int .i64 304) HBv4_7.out; simpa using h
    clear hb7 HOCG_7 HOSG_7 HBv1_7 HBv2_7 HBv3_7 HBv4_7 hW8
    obtain ⟨w9, hW9⟩ : ∃ W, W = (w8).setCell ⟨qv4, 1, none⟩ (.slice oSG sg.length pSG) := ⟨_, rfl⟩
    rw [← hW9]
    have hb9 : Below w.heap.size w (w9) := by rw [hW9]; exact (hb8.setCell (p := ⟨qv4, 1, none⟩) HGv4.out _)
    have HM9 : Hid ((w8).heap.size ≤ w9.heap.size) := by show _ ≤ _; rw [hW9]; simp
    have HOCG_9 : Hid ((w9).ownsRow w.heap.size 74 2 (.slice oCG k pCG) k (flatF gs)) := by show World.ownsRow _ _ _ _ _ _ _; rw [hW9]; exact owns_same HOCG_8.out (fun g hg => heap_setCell_other _ _ g _ (own_ne HOCG_8.out HBv4_8.out (by decide) g hg))
    have HOSG_9 : Hid ((w9).ownsRow w.heap.size 74 2 (.slice oSG sg.length pSG) sg.length (flatF sg)) := by show World.ownsRow _ _ _ _ _ _ _; rw [hW9]; exact owns_same HOSG_8.out (fun g hg => heap_setCell_other _ _ g _ (own_ne HOSG_8.out HBv4_8.out (by decide) g hg))
    have HBv1_9 : Hid ((w9).heap[qv1]? = some (.cells #[.int .i64 ma, .string pa, .slice oa na ca, .string ba] 26)) := by show _ = _; rw [hW9, heap_setCell_other _ _ _ _ HNv1v4.out]; exact HBv1_8.out
    have HBv2_9 : Hid ((w9).heap[qv2]? = some (.cells #[.string op, .slice o1 n1 c1, .slice o2 n2 c2, .int .i64 st, .slice o3 k c3, .string d, .int .i64 t] 31)) := by show _ = _; rw [hW9, heap_setCell_other _ _ _ _ HNv2v4.out]; exact HBv2_8.out
    have HBv3_9 : Hid ((w9).heap[qv3]? = some (.cells #[.int .i64 0, .slice none 0 0, .string ⟨#[]⟩] 29)) := by show _ = _; rw [hW9, heap_setCell_other _ _ _ _ HNv3v4.out]; exact HBv3_8.out
    have HBv4_9 : Hid ((w9).heap[qv4]? = some (.cells #[.int .i64 304, .slice oSG sg.length pSG, .string d] 29)) := by show _ = _; rw [hW9]; have h := heap_set _ _ 1 _ _ _ (.slice oSG sg.length pSG) HBv4_8.out; simpa using h
    clear hb8 HOCG_8 HOSG_8 HBv1_8 HBv2_8 HBv3_8 HBv4_8 hW9
    obtain ⟨w10, hW10⟩ : ∃ W, W = (w9).setCell ⟨qv4, 2, none⟩ (.string ⟨#[]⟩) := ⟨_, rfl⟩
    rw [← hW10]
    have hb10 : Below w.heap.size w (w10) := by rw [hW10]; exact (hb9.setCell (p := ⟨qv4, 2, none⟩) HGv4.out _)
    have HM10 : Hid ((w9).heap.size ≤ w10.heap.size) := by show _ ≤ _; rw [hW10]; simp
    have HOCG_10 : Hid ((w10).ownsRow w.heap.size 74 2 (.slice oCG k pCG) k (flatF gs)) := by show World.ownsRow _ _ _ _ _ _ _; rw [hW10]; exact owns_same HOCG_9.out (fun g hg => heap_setCell_other _ _ g _ (own_ne HOCG_9.out HBv4_9.out (by decide) g hg))
    have HOSG_10 : Hid ((w10).ownsRow w.heap.size 74 2 (.slice oSG sg.length pSG) sg.length (flatF sg)) := by show World.ownsRow _ _ _ _ _ _ _; rw [hW10]; exact owns_same HOSG_9.out (fun g hg => heap_setCell_other _ _ g _ (own_ne HOSG_9.out HBv4_9.out (by decide) g hg))
    have HBv1_10 : Hid ((w10).heap[qv1]? = some (.cells #[.int .i64 ma, .string pa, .slice oa na ca, .string ba] 26)) := by show _ = _; rw [hW10, heap_setCell_other _ _ _ _ HNv1v4.out]; exact HBv1_9.out
    have HBv2_10 : Hid ((w10).heap[qv2]? = some (.cells #[.string op, .slice o1 n1 c1, .slice o2 n2 c2, .int .i64 st, .slice o3 k c3, .string d, .int .i64 t] 31)) := by show _ = _; rw [hW10, heap_setCell_other _ _ _ _ HNv2v4.out]; exact HBv2_9.out
    have HBv3_10 : Hid ((w10).heap[qv3]? = some (.cells #[.int .i64 0, .slice none 0 0, .string ⟨#[]⟩] 29)) := by show _ = _; rw [hW10, heap_setCell_other _ _ _ _ HNv3v4.out]; exact HBv3_9.out
    have HBv4_10 : Hid ((w10).heap[qv4]? = some (.cells #[.int .i64 304, .slice oSG sg.length pSG, .string ⟨#[]⟩] 29)) := by show _ = _; rw [hW10]; have h := heap_set _ _ 2 _ _ _ (.string ⟨#[]⟩) HBv4_9.out; simpa using h
    clear hb9 HOCG_9 HOSG_9 HBv1_9 HBv2_9 HBv3_9 HBv4_9 hW10
    clear cv4_0 fcv4_0 cv4_1 fcv4_1 cv4_2 fcv4_2
    have cv4_0 : (w10).cell? ⟨qv4, 0, none⟩ = some (.int .i64 304) := (cell_of HBv4_10.out 0).trans rfl
    have Acv4_0 : ∀ o, ((w10).alloc o).cell? ⟨qv4, 0, none⟩ = some (.int .i64 304) := fun o => (cell_of (blk_below HBv4_10.out ((Below.refl _ _).alloc (Nat.le_refl _) o)) 0).trans rfl
    have Afcv4_0 : ∀ o, ((w10).alloc o).frozen? ⟨qv4, 0, none⟩ = false := fun o => frozen_of (blk_below HBv4_10.out ((Below.refl _ _).alloc (Nat.le_refl _) o)) 0
    have cv4_1 : (w10).cell? ⟨qv4, 1, none⟩ = some (.slice oSG sg.length pSG) := (cell_of HBv4_10.out 1).trans rfl
    have Acv4_1 : ∀ o, ((w10).alloc o).cell? ⟨qv4, 1, none⟩ = some (.slice oSG sg.length pSG) := fun o => (cell_of (blk_below HBv4_10.out ((Below.refl _ _).alloc (Nat.le_refl _) o)) 1).trans rfl
    have Afcv4_1 : ∀ o, ((w10).alloc o).frozen? ⟨qv4, 1, none⟩ = false := fun o => frozen_of (blk_below HBv4_10.out ((Below.refl _ _).alloc (Nat.le_refl _) o)) 1
    have cv4_2 : (w10).cell? ⟨qv4, 2, none⟩ = some (.string ⟨#[]⟩) := (cell_of HBv4_10.out 2).trans rfl
    have Acv4_2 : ∀ o, ((w10).alloc o).cell? ⟨qv4, 2, none⟩ = some (.string ⟨#[]⟩) := fun o => (cell_of (blk_below HBv4_10.out ((Below.refl _ _).alloc (Nat.le_refl _) o)) 2).trans rfl
    have Afcv4_2 : ∀ o, ((w10).alloc o).frozen? ⟨qv4, 2, none⟩ = false := fun o => frozen_of (blk_below HBv4_10.out ((Below.refl _ _).alloc (Nat.le_refl _) o)) 2
    go_upto_region 5 with fail
    obtain ⟨qv5, hqv5⟩ : ∃ q, q = (w10).heap.size := ⟨_, rfl⟩
    obtain ⟨w11, hW11⟩ : ∃ W, W = (w10).alloc (.cells #[.int .i64 304, .slice oSG sg.length pSG, .string ⟨#[]⟩] 29) := ⟨_, rfl⟩
    have hz11 : (w10).heap.size = qv5 := hqv5.symm
    first | rw [← hW11, ← hqv5] | rw [← hW11]
    have hs11 : w11.heap.size = qv5 + 1 := by rw [hW11, ← hz11]; simp
    have bw : Below (w10).heap.size (w10) w11 := by rw [hW11]; exact (Below.refl _ _).alloc (Nat.le_refl _) _
    have hb11 : Below w.heap.size w (w11) := hb10.trans (bw.mono hb10.size)
    have HM11 : Hid ((w10).heap.size ≤ (w11).heap.size) := bw.size
    have HOCG_11 : Hid ((w11).ownsRow w.heap.size 74 2 (.slice oCG k pCG) k (flatF gs)) := owns_below HOCG_10.out bw (fun g hg => owns_lt HOCG_10.out hg)
    have HOSG_11 : Hid ((w11).ownsRow w.heap.size 74 2 (.slice oSG sg.length pSG) sg.length (flatF sg)) := owns_below HOSG_10.out bw (fun g hg => owns_lt HOSG_10.out hg)
    have HBv1_11 : Hid ((w11).heap[qv1]? = some (.cells #[.int .i64 ma, .string pa, .slice oa na ca, .string ba] 26)) := blk_below HBv1_10.out bw
    have HBv2_11 : Hid ((w11).heap[qv2]? = some (.cells #[.string op, .slice o1 n1 c1, .slice o2 n2 c2, .int .i64 st, .slice o3 k c3, .string d, .int .i64 t] 31)) := blk_below HBv2_10.out bw
    have HBv3_11 : Hid ((w11).heap[qv3]? = some (.cells #[.int .i64 0, .slice none 0 0, .string ⟨#[]⟩] 29)) := blk_below HBv3_10.out bw
    have HBv4_11 : Hid ((w11).heap[qv4]? = some (.cells #[.int .i64 304, .slice oSG sg.length pSG, .string ⟨#[]⟩] 29)) := blk_below HBv4_10.out bw
    have HNv1v5 : Hid (qv1 ≠ qv5) := fun e => by have h1 := (Array.getElem?_eq_some_iff.1 HBv1_10.out).1; omega
    have HNv2v5 : Hid (qv2 ≠ qv5) := fun e => by have h1 := (Array.getElem?_eq_some_iff.1 HBv2_10.out).1; omega
    have HNv3v5 : Hid (qv3 ≠ qv5) := fun e => by have h1 := (Array.getElem?_eq_some_iff.1 HBv3_10.out).1; omega
    have HNv4v5 : Hid (qv4 ≠ qv5) := fun e => by have h1 := (Array.getElem?_eq_some_iff.1 HBv4_10.out).1; omega
    have HBv5_11 : Hid ((w11).heap[qv5]? = some (.cells #[.int .i64 304, .slice oSG sg.length pSG, .string ⟨#[]⟩] 29)) := by show _ = _; rw [hW11, ← hz11]; exact heap_alloc_new _ _
    have HGv5 : Hid (w.heap.size ≤ qv5) := by show _ ≤ _; rw [← hz11]; exact hb10.size
    clear hb10 HOCG_10 HOSG_10 HBv1_10 HBv2_10 HBv3_10 HBv4_10 bw hW11 hz11
    clear hs11 hqv5
    clear cv4_0 Acv4_0 Afcv4_0 cv4_1 Acv4_1 Afcv4_1 cv4_2 Acv4_2 Afcv4_2
    go_upto_region 5 with fail
    refine wp_region_held_drew (S := fun W => W.heap[qv4]? = some (.cells #[.int .i64 304, .slice oSG sg.length pSG, .string ⟨#[]⟩] 29) ∧ W.heap[qv2]? = some (.cells #[.string op, .slice o1 n1 c1, .slice o2 n2 c2, .int .i64 st, .slice o3 k c3, .string d, .int .i64 t] 31)) (by kernel_rfl) ⟨HBv4_11.out, HBv2_11.out⟩ (fun _ => ?_)
    obtain ⟨w12, hX⟩ : ∃ X, X = w11.drew := ⟨_, rfl⟩
    have bw : Below w11.heap.size w11 w12 := by rw [hX]; exact (Below.refl _ _).drew
    rw [← hX]
    have hb12 : Below w.heap.size w (w12) := hb11.trans (bw.mono hb11.size)
    have HM12 : Hid ((w11).heap.size ≤ (w12).heap.size) := bw.size
    have HOCG_12 : Hid ((w12).ownsRow w.heap.size 74 2 (.slice oCG k pCG) k (flatF gs)) := owns_below HOCG_11.out bw (fun g hg => owns_lt HOCG_11.out hg)
    have HOSG_12 : Hid ((w12).ownsRow w.heap.size 74 2 (.slice oSG sg.length pSG) sg.length (flatF sg)) := owns_below HOSG_11.out bw (fun g hg => owns_lt HOSG_11.out hg)
    have HBv1_12 : Hid ((w12).heap[qv1]? = some (.cells #[.int .i64 ma, .string pa, .slice oa na ca, .string ba] 26)) := blk_below HBv1_11.out bw
    have HBv2_12 : Hid ((w12).heap[qv2]? = some (.cells #[.string op, .slice o1 n1 c1, .slice o2 n2 c2, .int .i64 st, .slice o3 k c3, .string d, .int .i64 t] 31)) := blk_below HBv2_11.out bw
    have HBv3_12 : Hid ((w12).heap[qv3]? = some (.cells #[.int .i64 0, .slice none 0 0, .string ⟨#[]⟩] 29)) := blk_below HBv3_11.out bw
    have HBv4_12 : Hid ((w12).heap[qv4]? = some (.cells #[.int .i64 304, .slice oSG sg.length pSG, .string ⟨#[]⟩] 29)) := blk_below HBv4_11.out bw
    have HBv5_12 : Hid ((w12).heap[qv5]? = some (.cells #[.int .i64 304, .slice oSG sg.length pSG, .string ⟨#[]⟩] 29)) := blk_below HBv5_11.out bw
    have hS12 : w12.heap[qv4]? = some (.cells #[.int .i64 304, .slice oSG sg.length pSG, .string ⟨#[]⟩] 29) ∧ w12.heap[qv2]? = some (.cells #[.string op, .slice o1 n1 c1, .slice o2 n2 c2, .int .i64 st, .slice o3 k c3, .string d, .int .i64 t] 31) := ⟨HBv4_12.out, HBv2_12.out⟩
    clear hb11 HOCG_11 HOSG_11 HBv1_11 HBv2_11 HBv3_11 HBv4_11 HBv5_11 bw hX
    refine wpAnyH_takeD (i := 0) (v := .pointer (some ⟨qv4, 1, none⟩)) (some 21) rfl rfl (by kernel_rfl) (by kernel_rfl) (by kernel_rfl) (fun _ _ _ h => h) (Or.inl ⟨by rfl, by intro W _; go_simp⟩) hS12 ?_
    simp only [Act.put, List.setIfInBounds_toArray, List.set_cons_zero, List.set_cons_succ]
    refine wpAnyH_takeD (i := 1) (v := .slice oSG sg.length pSG) (some 22) rfl rfl (by kernel_rfl) (by kernel_rfl) (by kernel_rfl) (fun _ _ _ h => h) (Or.inl ⟨by rfl, by intro W hW; obtain ⟨hhv4, hhv2⟩ := hW; have y1 := (cell_of hhv4 1).trans rfl; go_simp⟩) hS12 ?_
    simp only [Act.put, List.setIfInBounds_toArray, List.set_cons_zero, List.set_cons_succ]
    refine wpAnyH_takeD (i := 2) (v := .pointer (some ⟨qv2, 3, none⟩)) (some 23) rfl rfl (by kernel_rfl) (by kernel_rfl) (by kernel_rfl) (fun _ _ _ h => h) (Or.inl ⟨by rfl, by intro W _; go_simp⟩) hS12 ?_
    simp only [Act.put, List.setIfInBounds_toArray, List.set_cons_zero, List.set_cons_succ]
    refine wpAnyH_takeD (i := 3) (v := .pointer (some ⟨qv2, 4, none⟩)) (some 24) rfl rfl (by kernel_rfl) (by kernel_rfl) (by kernel_rfl) (fun _ _ _ h => h) (Or.inl ⟨by rfl, by intro W _; go_simp⟩) hS12 ?_
    simp only [Act.put, List.setIfInBounds_toArray, List.set_cons_zero, List.set_cons_succ]
    refine wpAnyH_takeD (i := 4) (v := .slice o3 k c3) (some 25) rfl rfl (by kernel_rfl) (by kernel_rfl) (by kernel_rfl) (fun _ _ _ h => h) (Or.inl ⟨by rfl, by intro W hW; obtain ⟨hhv4, hhv2⟩ := hW; have y4 := (cell_of hhv2 4).trans rfl; go_simp⟩) hS12 ?_
    simp only [Act.put, List.setIfInBounds_toArray, List.set_cons_zero, List.set_cons_succ]
    refine wpAnyH_takeD (i := 5) (v := .pointer (some ⟨qv2, 6, none⟩)) (some 26) rfl rfl (by kernel_rfl) (by kernel_rfl) (by kernel_rfl) (fun _ _ _ h => h) (Or.inl ⟨by rfl, by intro W _; go_simp⟩) hS12 ?_
    simp only [Act.put, List.setIfInBounds_toArray, List.set_cons_zero, List.set_cons_succ]
    refine wpAnyH_takeD (i := 6) (v := .int .i64 t) (some 27) rfl rfl (by kernel_rfl) (by kernel_rfl) (by kernel_rfl) (fun _ _ _ h => h) (Or.inl ⟨by rfl, by intro W hW; obtain ⟨hhv4, hhv2⟩ := hW; have y6 := (cell_of hhv2 6).trans rfl; go_simp⟩) hS12 ?_
    simp only [Act.put, List.setIfInBounds_toArray, List.set_cons_zero, List.set_cons_succ]
    refine wpAnyH_takeD (i := 7) (v := .int .i64 now) (some 28) rfl rfl (by kernel_rfl) (by kernel_rfl) (by kernel_rfl) (fun _ _ _ h => h) (Or.inl ⟨by rfl, by intro W _; go_simp⟩) hS12 ?_
    simp only [Act.put, List.setIfInBounds_toArray, List.set_cons_zero, List.set_cons_succ]
    refine wpAnyH_ready (rs := [8]) (by kernel_rfl) (by simp) ?_
    refine AllReadyH.cons rfl (fun K hK => ?_) AllReadyH.nil
    go_simp
    refine (specAgeAt_any _ k baseo gs t now _ (HVo.out _ hb12) (by omega) (by have := HGo.out ageName; unfold maxLen; omega) HTN.out.1 HTN.out.2).mono ?_
    rintro e w13 ⟨rfl, bw⟩
    rw [HAG.out]
    have hb13 : Below w.heap.size w (w13) := hb12.trans (bw.mono hb12.size)
    have HM13 : Hid ((w12).heap.size ≤ (w13).heap.size) := bw.size
    have HOCG_13 : Hid ((w13).ownsRow w.heap.size 74 2 (.slice oCG k pCG) k (flatF gs)) := owns_below HOCG_12.out bw (fun g hg => owns_lt HOCG_12.out hg)
    have HOSG_13 : Hid ((w13).ownsRow w.heap.size 74 2 (.slice oSG sg.length pSG) sg.length (flatF sg)) := owns_below HOSG_12.out bw (fun g hg => owns_lt HOSG_12.out hg)
    have HBv1_13 : Hid ((w13).heap[qv1]? = some (.cells #[.int .i64 ma, .string pa, .slice oa na ca, .string ba] 26)) := blk_below HBv1_12.out bw
    have HBv2_13 : Hid ((w13).heap[qv2]? = some (.cells #[.string op, .slice o1 n1 c1, .slice o2 n2 c2, .int .i64 st, .slice o3 k c3, .string d, .int .i64 t] 31)) := blk_below HBv2_12.out bw
    have HBv3_13 : Hid ((w13).heap[qv3]? = some (.cells #[.int .i64 0, .slice none 0 0, .string ⟨#[]⟩] 29)) := blk_below HBv3_12.out bw
    have HBv4_13 : Hid ((w13).heap[qv4]? = some (.cells #[.int .i64 304, .slice oSG sg.length pSG, .string ⟨#[]⟩] 29)) := blk_below HBv4_12.out bw
    have HBv5_13 : Hid ((w13).heap[qv5]? = some (.cells #[.int .i64 304, .slice oSG sg.length pSG, .string ⟨#[]⟩] 29)) := blk_below HBv5_12.out bw
    clear hb12 HOCG_12 HOSG_12 HBv1_12 HBv2_12 HBv3_12 HBv4_12 HBv5_12 bw
    have hS13 : w13.heap[qv4]? = some (.cells #[.int .i64 304, .slice oSG sg.length pSG, .string ⟨#[]⟩] 29) ∧ w13.heap[qv2]? = some (.cells #[.string op, .slice o1 n1 c1, .slice o2 n2 c2, .int .i64 st, .slice o3 k c3, .string d, .int .i64 t] 31) := ⟨HBv4_13.out, HBv2_13.out⟩
    refine hK.out _ _ hS13 (fun _ => ?_)
    clear hK K hS12
    refine wpAnyH_ready (rs := [9]) (by kernel_rfl) (by simp) ?_
    refine AllReadyH.cons rfl (fun K hK => ?_) AllReadyH.nil
    go_simp
    refine (specNumText_int ag _ hab0 hab1).mono ?_
    rintro e w14 ⟨rfl, bw⟩
    rw [HTX.out]
    have hb14 : Below w.heap.size w (w14) := hb13.trans (bw.mono hb13.size)
    have HM14 : Hid ((w13).heap.size ≤ (w14).heap.size) := bw.size
    have HOCG_14 : Hid ((w14).ownsRow w.heap.size 74 2 (.slice oCG k pCG) k (flatF gs)) := owns_below HOCG_13.out bw (fun g hg => owns_lt HOCG_13.out hg)
    have HOSG_14 : Hid ((w14).ownsRow w.heap.size 74 2 (.slice oSG sg.length pSG) sg.length (flatF sg)) := owns_below HOSG_13.out bw (fun g hg => owns_lt HOSG_13.out hg)
    have HBv1_14 : Hid ((w14).heap[qv1]? = some (.cells #[.int .i64 ma, .string pa, .slice oa na ca, .string ba] 26)) := blk_below HBv1_13.out bw
    have HBv2_14 : Hid ((w14).heap[qv2]? = some (.cells #[.string op, .slice o1 n1 c1, .slice o2 n2 c2, .int .i64 st, .slice o3 k c3, .string d, .int .i64 t] 31)) := blk_below HBv2_13.out bw
    have HBv3_14 : Hid ((w14).heap[qv3]? = some (.cells #[.int .i64 0, .slice none 0 0, .string ⟨#[]⟩] 29)) := blk_below HBv3_13.out bw
    have HBv4_14 : Hid ((w14).heap[qv4]? = some (.cells #[.int .i64 304, .slice oSG sg.length pSG, .string ⟨#[]⟩] 29)) := blk_below HBv4_13.out bw
    have HBv5_14 : Hid ((w14).heap[qv5]? = some (.cells #[.int .i64 304, .slice oSG sg.length pSG, .string ⟨#[]⟩] 29)) := blk_below HBv5_13.out bw
    clear hb13 HOCG_13 HOSG_13 HBv1_13 HBv2_13 HBv3_13 HBv4_13 HBv5_13 bw
    have hS14 : w14.heap[qv4]? = some (.cells #[.int .i64 304, .slice oSG sg.length pSG, .string ⟨#[]⟩] 29) ∧ w14.heap[qv2]? = some (.cells #[.string op, .slice o1 n1 c1, .slice o2 n2 c2, .int .i64 st, .slice o3 k c3, .string d, .int .i64 t] 31) := ⟨HBv4_14.out, HBv2_14.out⟩
    refine hK.out _ _ hS14 (fun _ => ?_)
    clear hK K hS13
    refine wpAnyH_ready (rs := [10]) (by kernel_rfl) (by simp) ?_
    refine AllReadyH.cons rfl (fun K hK => ?_) AllReadyH.nil
    go_simp
    refine (specPut_any _ sg.length _ sg ageName tx _ (FieldsV.of_owns HOSG_14.out) (by omega)).mono ?_
    rintro e w15 ⟨vv, rfl, ownPG, bw⟩
    obtain ⟨pg, hpg⟩ : ∃ l, l = putF sg ageName tx := ⟨_, rfl⟩
    have HPG : Hid (putF sg ageName tx = pg) := hpg.symm
    rw [← hpg] at ownPG
    have HPL : Hid (pg.length ≤ sg.length + 1) := by show _ ≤ _; rw [hpg]; have := putF_le sg ageName tx; exact this
    have bpl : pg.length ≤ 1048577 := by have := HPL.out; omega
    have HPW : Hid (WalkF pg.length pg) := by show WalkF _ _; rw [hpg]; exact walk_put rfl HSW.out (by decide) (by have := HTZ.out; unfold maxLen; omega)
    clear hpg
    obtain ⟨oPG, pPG, rfl⟩ := slice_of_owns ownPG
    have hb15 : Below w.heap.size w (w15) := hb14.trans (bw.mono hb14.size)
    have HM15 : Hid ((w14).heap.size ≤ (w15).heap.size) := bw.size
    have HOCG_15 : Hid ((w15).ownsRow w.heap.size 74 2 (.slice oCG k pCG) k (flatF gs)) := owns_below HOCG_14.out bw (fun g hg => owns_lt HOCG_14.out hg)
    have HOSG_15 : Hid ((w15).ownsRow w.heap.size 74 2 (.slice oSG sg.length pSG) sg.length (flatF sg)) := owns_below HOSG_14.out bw (fun g hg => owns_lt HOSG_14.out hg)
    have HBv1_15 : Hid ((w15).heap[qv1]? = some (.cells #[.int .i64 ma, .string pa, .slice oa na ca, .string ba] 26)) := blk_below HBv1_14.out bw
    have HBv2_15 : Hid ((w15).heap[qv2]? = some (.cells #[.string op, .slice o1 n1 c1, .slice o2 n2 c2, .int .i64 st, .slice o3 k c3, .string d, .int .i64 t] 31)) := blk_below HBv2_14.out bw
    have HBv3_15 : Hid ((w15).heap[qv3]? = some (.cells #[.int .i64 0, .slice none 0 0, .string ⟨#[]⟩] 29)) := blk_below HBv3_14.out bw
    have HBv4_15 : Hid ((w15).heap[qv4]? = some (.cells #[.int .i64 304, .slice oSG sg.length pSG, .string ⟨#[]⟩] 29)) := blk_below HBv4_14.out bw
    have HBv5_15 : Hid ((w15).heap[qv5]? = some (.cells #[.int .i64 304, .slice oSG sg.length pSG, .string ⟨#[]⟩] 29)) := blk_below HBv5_14.out bw
    have HOPG_15 : Hid ((w15).ownsRow w.heap.size 74 2 (.slice oPG pg.length pPG) pg.length (flatF pg)) := owns_wide ownPG hb14.size
    have LOPG : Hid (∀ g, (Value.ownBlock (.slice oPG pg.length pPG)) = some g → (w14).heap.size ≤ g) := fun g hg => owns_ge ownPG hg
    have HIPG : Hid (∀ g, (Value.ownBlock (.slice oPG pg.length pPG)) = some g → g < (w15).heap.size) := fun g hg => owns_lt ownPG hg
    clear ownPG
    clear hb14 HOCG_14 HOSG_14 HBv1_14 HBv2_14 HBv3_14 HBv4_14 HBv5_14 bw
    have hS15 : w15.heap[qv4]? = some (.cells #[.int .i64 304, .slice oSG sg.length pSG, .string ⟨#[]⟩] 29) ∧ w15.heap[qv2]? = some (.cells #[.string op, .slice o1 n1 c1, .slice o2 n2 c2, .int .i64 st, .slice o3 k c3, .string d, .int .i64 t] 31) := ⟨HBv4_15.out, HBv2_15.out⟩
    refine hK.out _ _ hS15 (fun _ => ?_)
    clear hK K hS14
    refine wpAnyH_takeD (i := 11) (v := .pointer (some ⟨qv5, 1, none⟩)) (some 32) rfl rfl (by kernel_rfl) (by kernel_rfl) (by kernel_rfl) (fun _ _ _ h => h) (Or.inl ⟨by rfl, by intro W _; go_simp⟩) hS15 ?_
    simp only [Act.put, List.setIfInBounds_toArray, List.set_cons_zero, List.set_cons_succ]
    refine wpAnyH_ready (rs := [12]) (by kernel_rfl) (by simp) ?_
    refine AllReadyH.cons rfl (fun K hK => ?_) AllReadyH.nil
    have ce1 : (w15).cell? ⟨qv5, 1, none⟩ = some (.slice oSG sg.length pSG) := (cell_of HBv5_15.out 1).trans rfl
    have fe1 : (w15).frozen? ⟨qv5, 1, none⟩ = false := frozen_of HBv5_15.out 1
    obtain ⟨w16, hY⟩ : ∃ Y, Y = (w15.setCell ⟨qv5, 1, none⟩ (.slice oPG pg.length pPG)) := ⟨_, rfl⟩
    have HY : Hid ((w15.setCell ⟨qv5, 1, none⟩ (.slice oPG pg.length pPG)) = w16) := hY.symm
    have hb16 : Below w.heap.size w (w16) := by rw [hY]; exact (hb15.setCell (p := ⟨qv5, 1, none⟩) HGv5.out _)
    have HM16 : Hid ((w15).heap.size ≤ w16.heap.size) := by show _ ≤ _; rw [hY]; simp
    have HOCG_16 : Hid ((w16).ownsRow w.heap.size 74 2 (.slice oCG k pCG) k (flatF gs)) := by show World.ownsRow _ _ _ _ _ _ _; rw [hY]; exact owns_same HOCG_15.out (fun g hg => by have hne := own_ne HOCG_15.out HBv5_15.out (by decide) g hg; rw [heap_setCell_other _ _ g _ hne])
    have HOSG_16 : Hid ((w16).ownsRow w.heap.size 74 2 (.slice oSG sg.length pSG) sg.length (flatF sg)) := by show World.ownsRow _ _ _ _ _ _ _; rw [hY]; exact owns_same HOSG_15.out (fun g hg => by have hne := own_ne HOSG_15.out HBv5_15.out (by decide) g hg; rw [heap_setCell_other _ _ g _ hne])
    have HOPG_16 : Hid ((w16).ownsRow w.heap.size 74 2 (.slice oPG pg.length pPG) pg.length (flatF pg)) := by show World.ownsRow _ _ _ _ _ _ _; rw [hY]; exact owns_same HOPG_15.out (fun g hg => by have hne := own_ne HOPG_15.out HBv5_15.out (by decide) g hg; rw [heap_setCell_other _ _ g _ hne])
    have HBv1_16 : Hid ((w16).heap[qv1]? = some (.cells #[.int .i64 ma, .string pa, .slice oa na ca, .string ba] 26)) := by show _ = _; rw [hY, heap_setCell_other _ _ _ _ HNv1v5.out]; exact HBv1_15.out
    have HBv2_16 : Hid ((w16).heap[qv2]? = some (.cells #[.string op, .slice o1 n1 c1, .slice o2 n2 c2, .int .i64 st, .slice o3 k c3, .string d, .int .i64 t] 31)) := by show _ = _; rw [hY, heap_setCell_other _ _ _ _ HNv2v5.out]; exact HBv2_15.out
    have HBv3_16 : Hid ((w16).heap[qv3]? = some (.cells #[.int .i64 0, .slice none 0 0, .string ⟨#[]⟩] 29)) := by show _ = _; rw [hY, heap_setCell_other _ _ _ _ HNv3v5.out]; exact HBv3_15.out
    have HBv4_16 : Hid ((w16).heap[qv4]? = some (.cells #[.int .i64 304, .slice oSG sg.length pSG, .string ⟨#[]⟩] 29)) := by show _ = _; rw [hY, heap_setCell_other _ _ _ _ HNv4v5.out]; exact HBv4_15.out
    have HBv5_16 : Hid ((w16).heap[qv5]? = some (.cells #[.int .i64 304, .slice oPG pg.length pPG, .string ⟨#[]⟩] 29)) := by show _ = _; rw [hY]; have h := (heap_set _ qv5 1 _ _ _ (.slice oPG pg.length pPG) HBv5_15.out); simpa using h
    clear hY hb15 HOCG_15 HOSG_15 HOPG_15 HBv1_15 HBv2_15 HBv3_15 HBv4_15 HBv5_15
    go_simp
    rw [HY.out]
    have hS16 : w16.heap[qv4]? = some (.cells #[.int .i64 304, .slice oSG sg.length pSG, .string ⟨#[]⟩] 29) ∧ w16.heap[qv2]? = some (.cells #[.string op, .slice o1 n1 c1, .slice o2 n2 c2, .int .i64 st, .slice o3 k c3, .string d, .int .i64 t] 31) := ⟨HBv4_16.out, HBv2_16.out⟩
    refine hK.out _ _ hS16 (fun _ => ?_)
    clear hK K HY hS15 ce1 fe1
    clear hS16
    refine wpAnyH_done (by kernel_rfl) ?_ _
    have cv5_0 : (w16).cell? ⟨qv5, 0, none⟩ = some (.int .i64 304) := (cell_of HBv5_16.out 0).trans rfl
    have cv5_1 : (w16).cell? ⟨qv5, 1, none⟩ = some (.slice oPG pg.length pPG) := (cell_of HBv5_16.out 1).trans rfl
    have cv5_2 : (w16).cell? ⟨qv5, 2, none⟩ = some (.string ⟨#[]⟩) := (cell_of HBv5_16.out 2).trans rfl
    go_wp2_with fail
    refine (specRespOk_any 304 _ ⟨#[]⟩ pg.length _ pg _ (FieldsV.of_owns HOPG_16.out) (by omega) HPW.out (by decide)).mono ?_
    rintro e w17 ⟨ro, rfl, hro, bw⟩
    have hb17 : Below w.heap.size w (w17) := hb16.trans (bw.mono hb16.size)
    have HOCG_17 : Hid ((w17).ownsRow w.heap.size 74 2 (.slice oCG k pCG) k (flatF gs)) := owns_below HOCG_16.out bw (fun g hg => owns_lt HOCG_16.out hg)
    have HOSG_17 : Hid ((w17).ownsRow w.heap.size 74 2 (.slice oSG sg.length pSG) sg.length (flatF sg)) := owns_below HOSG_16.out bw (fun g hg => owns_lt HOSG_16.out hg)
    have HOPG_17 : Hid ((w17).ownsRow w.heap.size 74 2 (.slice oPG pg.length pPG) pg.length (flatF pg)) := owns_below HOPG_16.out bw (fun g hg => owns_lt HOPG_16.out hg)
    have HBv1_17 : Hid ((w17).heap[qv1]? = some (.cells #[.int .i64 ma, .string pa, .slice oa na ca, .string ba] 26)) := blk_below HBv1_16.out bw
    have HBv2_17 : Hid ((w17).heap[qv2]? = some (.cells #[.string op, .slice o1 n1 c1, .slice o2 n2 c2, .int .i64 st, .slice o3 k c3, .string d, .int .i64 t] 31)) := blk_below HBv2_16.out bw
    have HBv3_17 : Hid ((w17).heap[qv3]? = some (.cells #[.int .i64 0, .slice none 0 0, .string ⟨#[]⟩] 29)) := blk_below HBv3_16.out bw
    have HBv4_17 : Hid ((w17).heap[qv4]? = some (.cells #[.int .i64 304, .slice oSG sg.length pSG, .string ⟨#[]⟩] 29)) := blk_below HBv4_16.out bw
    have HBv5_17 : Hid ((w17).heap[qv5]? = some (.cells #[.int .i64 304, .slice oPG pg.length pPG, .string ⟨#[]⟩] 29)) := blk_below HBv5_16.out bw
    clear hb16 HOCG_16 HOSG_16 HOPG_16 HBv1_16 HBv2_16 HBv3_16 HBv4_16 HBv5_16 bw
    clear cv5_0 cv5_1 cv5_2
    cases ro with
    | false =>
      have HNro : Hid (¬ (RespP 304 pg ⟨#[]⟩)) := fun h => nomatch hro.2 h
      clear hro
      have cv3_0 : (w17).cell? ⟨qv3, 0, none⟩ = some (.int .i64 0) := (cell_of HBv3_17.out 0).trans rfl
      have fcv3_0 : (w17).frozen? ⟨qv3, 0, none⟩ = false := frozen_of HBv3_17.out 0
      have cv3_1 : (w17).cell? ⟨qv3, 1, none⟩ = some (.slice none 0 0) := (cell_of HBv3_17.out 1).trans rfl
      have fcv3_1 : (w17).frozen? ⟨qv3, 1, none⟩ = false := frozen_of HBv3_17.out 1
      have cv3_2 : (w17).cell? ⟨qv3, 2, none⟩ = some (.string ⟨#[]⟩) := (cell_of HBv3_17.out 2).trans rfl
      have fcv3_2 : (w17).frozen? ⟨qv3, 2, none⟩ = false := frozen_of HBv3_17.out 2
      have cv4_0 : (w17).cell? ⟨qv4, 0, none⟩ = some (.int .i64 304) := (cell_of HBv4_17.out 0).trans rfl
      have cv4_1 : (w17).cell? ⟨qv4, 1, none⟩ = some (.slice oSG sg.length pSG) := (cell_of HBv4_17.out 1).trans rfl
      have cv4_2 : (w17).cell? ⟨qv4, 2, none⟩ = some (.string ⟨#[]⟩) := (cell_of HBv4_17.out 2).trans rfl
      go_wp2_with fail
      obtain ⟨w18, hW18⟩ : ∃ W, W = (w17).setCell ⟨qv3, 0, none⟩ (.int .i64 304) := ⟨_, rfl⟩
      rw [← hW18]
      have hb18 : Below w.heap.size w (w18) := by rw [hW18]; exact (hb17.setCell (p := ⟨qv3, 0, none⟩) HGv3.out _)
      have HM18 : Hid ((w17).heap.size ≤ w18.heap.size) := by show _ ≤ _; rw [hW18]; simp
      have HOCG_18 : Hid ((w18).ownsRow w.heap.size 74 2 (.slice oCG k pCG) k (flatF gs)) := by show World.ownsRow _ _ _ _ _ _ _; rw [hW18]; exact owns_same HOCG_17.out (fun g hg => heap_setCell_other _ _ g _ (own_ne HOCG_17.out HBv3_17.out (by decide) g hg))
      have HOSG_18 : Hid ((w18).ownsRow w.heap.size 74 2 (.slice oSG sg.length pSG) sg.length (flatF sg)) := by show World.ownsRow _ _ _ _ _ _ _; rw [hW18]; exact owns_same HOSG_17.out (fun g hg => heap_setCell_other _ _ g _ (own_ne HOSG_17.out HBv3_17.out (by decide) g hg))
      have HOPG_18 : Hid ((w18).ownsRow w.heap.size 74 2 (.slice oPG pg.length pPG) pg.length (flatF pg)) := by show World.ownsRow _ _ _ _ _ _ _; rw [hW18]; exact owns_same HOPG_17.out (fun g hg => heap_setCell_other _ _ g _ (own_ne HOPG_17.out HBv3_17.out (by decide) g hg))
      have HBv1_18 : Hid ((w18).heap[qv1]? = some (.cells #[.int .i64 ma, .string pa, .slice oa na ca, .string ba] 26)) := by show _ = _; rw [hW18, heap_setCell_other _ _ _ _ HNv1v3.out]; exact HBv1_17.out
      have HBv2_18 : Hid ((w18).heap[qv2]? = some (.cells #[.string op, .slice o1 n1 c1, .slice o2 n2 c2, .int .i64 st, .slice o3 k c3, .string d, .int .i64 t] 31)) := by show _ = _; rw [hW18, heap_setCell_other _ _ _ _ HNv2v3.out]; exact HBv2_17.out
      have HBv4_18 : Hid ((w18).heap[qv4]? = some (.cells #[.int .i64 304, .slice oSG sg.length pSG, .string ⟨#[]⟩] 29)) := by show _ = _; rw [hW18, heap_setCell_other _ _ _ _ HNv3v4.out.symm]; exact HBv4_17.out
      have HBv5_18 : Hid ((w18).heap[qv5]? = some (.cells #[.int .i64 304, .slice oPG pg.length pPG, .string ⟨#[]⟩] 29)) := by show _ = _; rw [hW18, heap_setCell_other _ _ _ _ HNv3v5.out.symm]; exact HBv5_17.out
      have HBv3_18 : Hid ((w18).heap[qv3]? = some (.cells #[.int .i64 304, .slice none 0 0, .string ⟨#[]⟩] 29)) := by show _ = _; rw [hW18]; have h := heap_set _ _ 0 _ _ _ (.int .i64 304) HBv3_17.out; simpa using h
      clear hb17 HOCG_17 HOSG_17 HOPG_17 HBv1_17 HBv2_17 HBv3_17 HBv4_17 HBv5_17 hW18
      obtain ⟨w19, hW19⟩ : ∃ W, W = (w18).setCell ⟨qv3, 1, none⟩ (.slice oSG sg.length pSG) := ⟨_, rfl⟩
      rw [← hW19]
      have hb19 : Below w.heap.size w (w19) := by rw [hW19]; exact (hb18.setCell (p := ⟨qv3, 1, none⟩) HGv3.out _)
      have HM19 : Hid ((w18).heap.size ≤ w19.heap.size) := by show _ ≤ _; rw [hW19]; simp
      have HOCG_19 : Hid ((w19).ownsRow w.heap.size 74 2 (.slice oCG k pCG) k (flatF gs)) := by show World.ownsRow _ _ _ _ _ _ _; rw [hW19]; exact owns_same HOCG_18.out (fun g hg => heap_setCell_other _ _ g _ (own_ne HOCG_18.out HBv3_18.out (by decide) g hg))
      have HOSG_19 : Hid ((w19).ownsRow w.heap.size 74 2 (.slice oSG sg.length pSG) sg.length (flatF sg)) := by show World.ownsRow _ _ _ _ _ _ _; rw [hW19]; exact owns_same HOSG_18.out (fun g hg => heap_setCell_other _ _ g _ (own_ne HOSG_18.out HBv3_18.out (by decide) g hg))
      have HOPG_19 : Hid ((w19).ownsRow w.heap.size 74 2 (.slice oPG pg.length pPG) pg.length (flatF pg)) := by show World.ownsRow _ _ _ _ _ _ _; rw [hW19]; exact owns_same HOPG_18.out (fun g hg => heap_setCell_other _ _ g _ (own_ne HOPG_18.out HBv3_18.out (by decide) g hg))
      have HBv1_19 : Hid ((w19).heap[qv1]? = some (.cells #[.int .i64 ma, .string pa, .slice oa na ca, .string ba] 26)) := by show _ = _; rw [hW19, heap_setCell_other _ _ _ _ HNv1v3.out]; exact HBv1_18.out
      have HBv2_19 : Hid ((w19).heap[qv2]? = some (.cells #[.string op, .slice o1 n1 c1, .slice o2 n2 c2, .int .i64 st, .slice o3 k c3, .string d, .int .i64 t] 31)) := by show _ = _; rw [hW19, heap_setCell_other _ _ _ _ HNv2v3.out]; exact HBv2_18.out
      have HBv4_19 : Hid ((w19).heap[qv4]? = some (.cells #[.int .i64 304, .slice oSG sg.length pSG, .string ⟨#[]⟩] 29)) := by show _ = _; rw [hW19, heap_setCell_other _ _ _ _ HNv3v4.out.symm]; exact HBv4_18.out
      have HBv5_19 : Hid ((w19).heap[qv5]? = some (.cells #[.int .i64 304, .slice oPG pg.length pPG, .string ⟨#[]⟩] 29)) := by show _ = _; rw [hW19, heap_setCell_other _ _ _ _ HNv3v5.out.symm]; exact HBv5_18.out
      have HBv3_19 : Hid ((w19).heap[qv3]? = some (.cells #[.int .i64 304, .slice oSG sg.length pSG, .string ⟨#[]⟩] 29)) := by show _ = _; rw [hW19]; have h := heap_set _ _ 1 _ _ _ (.slice oSG sg.length pSG) HBv3_18.out; simpa using h
      clear hb18 HOCG_18 HOSG_18 HOPG_18 HBv1_18 HBv2_18 HBv3_18 HBv4_18 HBv5_18 hW19
      obtain ⟨w20, hW20⟩ : ∃ W, W = (w19).setCell ⟨qv3, 2, none⟩ (.string ⟨#[]⟩) := ⟨_, rfl⟩
      rw [← hW20]
      have hb20 : Below w.heap.size w (w20) := by rw [hW20]; exact (hb19.setCell (p := ⟨qv3, 2, none⟩) HGv3.out _)
      have HM20 : Hid ((w19).heap.size ≤ w20.heap.size) := by show _ ≤ _; rw [hW20]; simp
      have HOCG_20 : Hid ((w20).ownsRow w.heap.size 74 2 (.slice oCG k pCG) k (flatF gs)) := by show World.ownsRow _ _ _ _ _ _ _; rw [hW20]; exact owns_same HOCG_19.out (fun g hg => heap_setCell_other _ _ g _ (own_ne HOCG_19.out HBv3_19.out (by decide) g hg))
      have HOSG_20 : Hid ((w20).ownsRow w.heap.size 74 2 (.slice oSG sg.length pSG) sg.length (flatF sg)) := by show World.ownsRow _ _ _ _ _ _ _; rw [hW20]; exact owns_same HOSG_19.out (fun g hg => heap_setCell_other _ _ g _ (own_ne HOSG_19.out HBv3_19.out (by decide) g hg))
      have HOPG_20 : Hid ((w20).ownsRow w.heap.size 74 2 (.slice oPG pg.length pPG) pg.length (flatF pg)) := by show World.ownsRow _ _ _ _ _ _ _; rw [hW20]; exact owns_same HOPG_19.out (fun g hg => heap_setCell_other _ _ g _ (own_ne HOPG_19.out HBv3_19.out (by decide) g hg))
      have HBv1_20 : Hid ((w20).heap[qv1]? = some (.cells #[.int .i64 ma, .string pa, .slice oa na ca, .string ba] 26)) := by show _ = _; rw [hW20, heap_setCell_other _ _ _ _ HNv1v3.out]; exact HBv1_19.out
      have HBv2_20 : Hid ((w20).heap[qv2]? = some (.cells #[.string op, .slice o1 n1 c1, .slice o2 n2 c2, .int .i64 st, .slice o3 k c3, .string d, .int .i64 t] 31)) := by show _ = _; rw [hW20, heap_setCell_other _ _ _ _ HNv2v3.out]; exact HBv2_19.out
      have HBv4_20 : Hid ((w20).heap[qv4]? = some (.cells #[.int .i64 304, .slice oSG sg.length pSG, .string ⟨#[]⟩] 29)) := by show _ = _; rw [hW20, heap_setCell_other _ _ _ _ HNv3v4.out.symm]; exact HBv4_19.out
      have HBv5_20 : Hid ((w20).heap[qv5]? = some (.cells #[.int .i64 304, .slice oPG pg.length pPG, .string ⟨#[]⟩] 29)) := by show _ = _; rw [hW20, heap_setCell_other _ _ _ _ HNv3v5.out.symm]; exact HBv5_19.out
      have HBv3_20 : Hid ((w20).heap[qv3]? = some (.cells #[.int .i64 304, .slice oSG sg.length pSG, .string ⟨#[]⟩] 29)) := by show _ = _; rw [hW20]; have h := heap_set _ _ 2 _ _ _ (.string ⟨#[]⟩) HBv3_19.out; simpa using h
      clear hb19 HOCG_19 HOSG_19 HOPG_19 HBv1_19 HBv2_19 HBv3_19 HBv4_19 HBv5_19 hW20
      have kv3_0 : (w20).cell? ⟨qv3, 0, none⟩ = some (.int .i64 304) := (cell_of HBv3_20.out 0).trans rfl
      have kv3_1 : (w20).cell? ⟨qv3, 1, none⟩ = some (.slice oSG sg.length pSG) := (cell_of HBv3_20.out 1).trans rfl
      have kv3_2 : (w20).cell? ⟨qv3, 2, none⟩ = some (.string ⟨#[]⟩) := (cell_of HBv3_20.out 2).trans rfl
      refine bodyPost_ret (v := .agg #[.int .i64 304, .slice oSG sg.length pSG, .string ⟨#[]⟩]) (by simp [results, Tryz.results10, go_sem, kv3_0, kv3_1, kv3_2]) rfl ?_
      unfold ansF
      rw [ansS_yes HYsm.out, ansB_yes HYsm.out, ansG_yes HYsm.out, HAT.out, HSG.out]
      rw [merge_not (by rw [HPG.out]; exact HNro.out)]
      exact ⟨_, rfl, HOSG_20.out, hb20⟩
    | true =>
      have HYro : Hid (RespP 304 pg ⟨#[]⟩) := hro.1 rfl
      clear hro
      have cv3_0 : (w17).cell? ⟨qv3, 0, none⟩ = some (.int .i64 0) := (cell_of HBv3_17.out 0).trans rfl
      have fcv3_0 : (w17).frozen? ⟨qv3, 0, none⟩ = false := frozen_of HBv3_17.out 0
      have cv3_1 : (w17).cell? ⟨qv3, 1, none⟩ = some (.slice none 0 0) := (cell_of HBv3_17.out 1).trans rfl
      have fcv3_1 : (w17).frozen? ⟨qv3, 1, none⟩ = false := frozen_of HBv3_17.out 1
      have cv3_2 : (w17).cell? ⟨qv3, 2, none⟩ = some (.string ⟨#[]⟩) := (cell_of HBv3_17.out 2).trans rfl
      have fcv3_2 : (w17).frozen? ⟨qv3, 2, none⟩ = false := frozen_of HBv3_17.out 2
      have cv5_0 : (w17).cell? ⟨qv5, 0, none⟩ = some (.int .i64 304) := (cell_of HBv5_17.out 0).trans rfl
      have cv5_1 : (w17).cell? ⟨qv5, 1, none⟩ = some (.slice oPG pg.length pPG) := (cell_of HBv5_17.out 1).trans rfl
      have cv5_2 : (w17).cell? ⟨qv5, 2, none⟩ = some (.string ⟨#[]⟩) := (cell_of HBv5_17.out 2).trans rfl
      go_wp2_with fail
      obtain ⟨w18, hW18⟩ : ∃ W, W = (w17).setCell ⟨qv3, 0, none⟩ (.int .i64 304) := ⟨_, rfl⟩
      rw [← hW18]
      have hb18 : Below w.heap.size w (w18) := by rw [hW18]; exact (hb17.setCell (p := ⟨qv3, 0, none⟩) HGv3.out _)
      have HM18 : Hid ((w17).heap.size ≤ w18.heap.size) := by show _ ≤ _; rw [hW18]; simp
      have HOCG_18 : Hid ((w18).ownsRow w.heap.size 74 2 (.slice oCG k pCG) k (flatF gs)) := by show World.ownsRow _ _ _ _ _ _ _; rw [hW18]; exact owns_same HOCG_17.out (fun g hg => heap_setCell_other _ _ g _ (own_ne HOCG_17.out HBv3_17.out (by decide) g hg))
      have HOSG_18 : Hid ((w18).ownsRow w.heap.size 74 2 (.slice oSG sg.length pSG) sg.length (flatF sg)) := by show World.ownsRow _ _ _ _ _ _ _; rw [hW18]; exact owns_same HOSG_17.out (fun g hg => heap_setCell_other _ _ g _ (own_ne HOSG_17.out HBv3_17.out (by decide) g hg))
      have HOPG_18 : Hid ((w18).ownsRow w.heap.size 74 2 (.slice oPG pg.length pPG) pg.length (flatF pg)) := by show World.ownsRow _ _ _ _ _ _ _; rw [hW18]; exact owns_same HOPG_17.out (fun g hg => heap_setCell_other _ _ g _ (own_ne HOPG_17.out HBv3_17.out (by decide) g hg))
      have HBv1_18 : Hid ((w18).heap[qv1]? = some (.cells #[.int .i64 ma, .string pa, .slice oa na ca, .string ba] 26)) := by show _ = _; rw [hW18, heap_setCell_other _ _ _ _ HNv1v3.out]; exact HBv1_17.out
      have HBv2_18 : Hid ((w18).heap[qv2]? = some (.cells #[.string op, .slice o1 n1 c1, .slice o2 n2 c2, .int .i64 st, .slice o3 k c3, .string d, .int .i64 t] 31)) := by show _ = _; rw [hW18, heap_setCell_other _ _ _ _ HNv2v3.out]; exact HBv2_17.out
      have HBv4_18 : Hid ((w18).heap[qv4]? = some (.cells #[.int .i64 304, .slice oSG sg.length pSG, .string ⟨#[]⟩] 29)) := by show _ = _; rw [hW18, heap_setCell_other _ _ _ _ HNv3v4.out.symm]; exact HBv4_17.out
      have HBv5_18 : Hid ((w18).heap[qv5]? = some (.cells #[.int .i64 304, .slice oPG pg.length pPG, .string ⟨#[]⟩] 29)) := by show _ = _; rw [hW18, heap_setCell_other _ _ _ _ HNv3v5.out.symm]; exact HBv5_17.out
      have HBv3_18 : Hid ((w18).heap[qv3]? = some (.cells #[.int .i64 304, .slice none 0 0, .string ⟨#[]⟩] 29)) := by show _ = _; rw [hW18]; have h := heap_set _ _ 0 _ _ _ (.int .i64 304) HBv3_17.out; simpa using h
      clear hb17 HOCG_17 HOSG_17 HOPG_17 HBv1_17 HBv2_17 HBv3_17 HBv4_17 HBv5_17 hW18
      obtain ⟨w19, hW19⟩ : ∃ W, W = (w18).setCell ⟨qv3, 1, none⟩ (.slice oPG pg.length pPG) := ⟨_, rfl⟩
      rw [← hW19]
      have hb19 : Below w.heap.size w (w19) := by rw [hW19]; exact (hb18.setCell (p := ⟨qv3, 1, none⟩) HGv3.out _)
      have HM19 : Hid ((w18).heap.size ≤ w19.heap.size) := by show _ ≤ _; rw [hW19]; simp
      have HOCG_19 : Hid ((w19).ownsRow w.heap.size 74 2 (.slice oCG k pCG) k (flatF gs)) := by show World.ownsRow _ _ _ _ _ _ _; rw [hW19]; exact owns_same HOCG_18.out (fun g hg => heap_setCell_other _ _ g _ (own_ne HOCG_18.out HBv3_18.out (by decide) g hg))
      have HOSG_19 : Hid ((w19).ownsRow w.heap.size 74 2 (.slice oSG sg.length pSG) sg.length (flatF sg)) := by show World.ownsRow _ _ _ _ _ _ _; rw [hW19]; exact owns_same HOSG_18.out (fun g hg => heap_setCell_other _ _ g _ (own_ne HOSG_18.out HBv3_18.out (by decide) g hg))
      have HOPG_19 : Hid ((w19).ownsRow w.heap.size 74 2 (.slice oPG pg.length pPG) pg.length (flatF pg)) := by show World.ownsRow _ _ _ _ _ _ _; rw [hW19]; exact owns_same HOPG_18.out (fun g hg => heap_setCell_other _ _ g _ (own_ne HOPG_18.out HBv3_18.out (by decide) g hg))
      have HBv1_19 : Hid ((w19).heap[qv1]? = some (.cells #[.int .i64 ma, .string pa, .slice oa na ca, .string ba] 26)) := by show _ = _; rw [hW19, heap_setCell_other _ _ _ _ HNv1v3.out]; exact HBv1_18.out
      have HBv2_19 : Hid ((w19).heap[qv2]? = some (.cells #[.string op, .slice o1 n1 c1, .slice o2 n2 c2, .int .i64 st, .slice o3 k c3, .string d, .int .i64 t] 31)) := by show _ = _; rw [hW19, heap_setCell_other _ _ _ _ HNv2v3.out]; exact HBv2_18.out
      have HBv4_19 : Hid ((w19).heap[qv4]? = some (.cells #[.int .i64 304, .slice oSG sg.length pSG, .string ⟨#[]⟩] 29)) := by show _ = _; rw [hW19, heap_setCell_other _ _ _ _ HNv3v4.out.symm]; exact HBv4_18.out
      have HBv5_19 : Hid ((w19).heap[qv5]? = some (.cells #[.int .i64 304, .slice oPG pg.length pPG, .string ⟨#[]⟩] 29)) := by show _ = _; rw [hW19, heap_setCell_other _ _ _ _ HNv3v5.out.symm]; exact HBv5_18.out
      have HBv3_19 : Hid ((w19).heap[qv3]? = some (.cells #[.int .i64 304, .slice oPG pg.length pPG, .string ⟨#[]⟩] 29)) := by show _ = _; rw [hW19]; have h := heap_set _ _ 1 _ _ _ (.slice oPG pg.length pPG) HBv3_18.out; simpa using h
      clear hb18 HOCG_18 HOSG_18 HOPG_18 HBv1_18 HBv2_18 HBv3_18 HBv4_18 HBv5_18 hW19
      obtain ⟨w20, hW20⟩ : ∃ W, W = (w19).setCell ⟨qv3, 2, none⟩ (.string ⟨#[]⟩) := ⟨_, rfl⟩
      rw [← hW20]
      have hb20 : Below w.heap.size w (w20) := by rw [hW20]; exact (hb19.setCell (p := ⟨qv3, 2, none⟩) HGv3.out _)
      have HM20 : Hid ((w19).heap.size ≤ w20.heap.size) := by show _ ≤ _; rw [hW20]; simp
      have HOCG_20 : Hid ((w20).ownsRow w.heap.size 74 2 (.slice oCG k pCG) k (flatF gs)) := by show World.ownsRow _ _ _ _ _ _ _; rw [hW20]; exact owns_same HOCG_19.out (fun g hg => heap_setCell_other _ _ g _ (own_ne HOCG_19.out HBv3_19.out (by decide) g hg))
      have HOSG_20 : Hid ((w20).ownsRow w.heap.size 74 2 (.slice oSG sg.length pSG) sg.length (flatF sg)) := by show World.ownsRow _ _ _ _ _ _ _; rw [hW20]; exact owns_same HOSG_19.out (fun g hg => heap_setCell_other _ _ g _ (own_ne HOSG_19.out HBv3_19.out (by decide) g hg))
      have HOPG_20 : Hid ((w20).ownsRow w.heap.size 74 2 (.slice oPG pg.length pPG) pg.length (flatF pg)) := by show World.ownsRow _ _ _ _ _ _ _; rw [hW20]; exact owns_same HOPG_19.out (fun g hg => heap_setCell_other _ _ g _ (own_ne HOPG_19.out HBv3_19.out (by decide) g hg))
      have HBv1_20 : Hid ((w20).heap[qv1]? = some (.cells #[.int .i64 ma, .string pa, .slice oa na ca, .string ba] 26)) := by show _ = _; rw [hW20, heap_setCell_other _ _ _ _ HNv1v3.out]; exact HBv1_19.out
      have HBv2_20 : Hid ((w20).heap[qv2]? = some (.cells #[.string op, .slice o1 n1 c1, .slice o2 n2 c2, .int .i64 st, .slice o3 k c3, .string d, .int .i64 t] 31)) := by show _ = _; rw [hW20, heap_setCell_other _ _ _ _ HNv2v3.out]; exact HBv2_19.out
      have HBv4_20 : Hid ((w20).heap[qv4]? = some (.cells #[.int .i64 304, .slice oSG sg.length pSG, .string ⟨#[]⟩] 29)) := by show _ = _; rw [hW20, heap_setCell_other _ _ _ _ HNv3v4.out.symm]; exact HBv4_19.out
      have HBv5_20 : Hid ((w20).heap[qv5]? = some (.cells #[.int .i64 304, .slice oPG pg.length pPG, .string ⟨#[]⟩] 29)) := by show _ = _; rw [hW20, heap_setCell_other _ _ _ _ HNv3v5.out.symm]; exact HBv5_19.out
      have HBv3_20 : Hid ((w20).heap[qv3]? = some (.cells #[.int .i64 304, .slice oPG pg.length pPG, .string ⟨#[]⟩] 29)) := by show _ = _; rw [hW20]; have h := heap_set _ _ 2 _ _ _ (.string ⟨#[]⟩) HBv3_19.out; simpa using h
      clear hb19 HOCG_19 HOSG_19 HOPG_19 HBv1_19 HBv2_19 HBv3_19 HBv4_19 HBv5_19 hW20
      have kv3_0 : (w20).cell? ⟨qv3, 0, none⟩ = some (.int .i64 304) := (cell_of HBv3_20.out 0).trans rfl
      have kv3_1 : (w20).cell? ⟨qv3, 1, none⟩ = some (.slice oPG pg.length pPG) := (cell_of HBv3_20.out 1).trans rfl
      have kv3_2 : (w20).cell? ⟨qv3, 2, none⟩ = some (.string ⟨#[]⟩) := (cell_of HBv3_20.out 2).trans rfl
      refine bodyPost_ret (v := .agg #[.int .i64 304, .slice oPG pg.length pPG, .string ⟨#[]⟩]) (by simp [results, Tryz.results10, go_sem, kv3_0, kv3_1, kv3_2]) rfl ?_
      unfold ansF
      rw [ansS_yes HYsm.out, ansB_yes HYsm.out, ansG_yes HYsm.out, HAT.out, HSG.out]
      rw [merge_put (by rw [HPG.out]; exact HYro.out), HPG.out]
      exact ⟨_, rfl, HOPG_20.out, hb20⟩

end Go.Proofs.YtmcmeeibogkpaaaGreatDoorR

namespace Go.Proofs.YtmcmeeibogkpaaaGreatDoorR
open Go.RowKit
open Go.Lib hiding intOf

theorem putF_eq (fs : List (ByteArray × ByteArray)) (name value : ByteArray) (h : atF fs name < fs.length) : putF fs name value = fs.set (atF fs name) (name, value) := by
  unfold putF
  rw [if_pos h, atF_here fs name h]

end Go.Proofs.YtmcmeeibogkpaaaGreatDoorR

namespace Go.Proofs.YtmcmeeibogkpaaaGreatDoorR
open Go.RowKit
open Go.Lib hiding intOf

attribute [local go_sem] Oper.semAt_some

open Classical in
theorem contains_any (oa : Option Addr) (m cm : Nat) (xs : List ByteArray) (x : ByteArray) (w : World) (hx : TextsA w oa m xs) (hm : m ≤ 2000000) :
    Calls Tryz.prog 125 #[.slice oa m cm, .string x] w fun e w' => e = .returned (.bool (decide (x ∈ xs))) ∧ w' = w := by
  by_cases h0 : m = 0
  · subst h0
    refine (Tryz.slices_Contains_string_empty oa cm x w).mono ?_
    rintro e w1 ⟨rfl, rfl⟩
    refine ⟨?_, rfl⟩
    rw [List.length_eq_zero_iff.1 hx.1]
    simp
  · obtain ⟨g, rfl, _, _⟩ := hx.2 0 (by omega)
    refine (Tryz.slices_Contains_string g 0 m cm xs x w (by rw [hx.1]; exact Nat.le_refl _) (by omega) (fun j hj => ?_)).mono ?_
    · obtain ⟨g2, e2, _, h3⟩ := hx.2 j (by rw [← hx.1]; exact hj)
      cases e2
      rw [Nat.zero_add]
      exact h3
    · rintro e w1 ⟨rfl, rfl⟩
      refine ⟨?_, rfl⟩
      rw [List.take_of_length_le (by rw [hx.1]; exact Nat.le_refl _)]
      by_cases h : x ∈ xs
      · rw [(Go.Lib.containsS_iff xs x).2 h, decide_eq_true h]
      · rw [decide_eq_false h, Bool.eq_false_iff.2 (fun hc => h ((Go.Lib.containsS_iff xs x).1 hc))]

end Go.Proofs.YtmcmeeibogkpaaaGreatDoorR

namespace Go.Proofs.YtmcmeeibogkpaaaGreatDoorR
open Go.RowKit
open Go.Lib hiding intOf

theorem two_facts {W : World} {R : Nat} {a b : Value} {t : TypeId} (h : W.heap[R]? = some (.cells #[a, b] t)) : W.cell? ⟨R, 0, none⟩ = some a ∧ W.cell? ⟨R, 1, none⟩ = some b := by
  simp [World.cell?, h]

set_option maxHeartbeats 2000000 in
set_option maxRecDepth 100000 in
theorem putTogether_any (v : Value) (n base : Nat) (fs : List (ByteArray × ByteArray)) (u : Value) (k base2 : Nat) (gs : List (ByteArray × ByteArray)) (w : World) (hv : FieldsV w base v n fs) (hu : FieldsV w base2 u k gs) (hnk : n + k ≤ 1999999) (hsz : CopyF fs) (hsz2 : CopyF gs) :
    Calls Tryz.prog 91 #[v, u] w fun e w' => RowF (putAll fs gs) w e w' := by
  obtain ⟨i0, hi, hz0, hz1, hz2⟩ := info_parts info33
  have HLA : Hid (fs.length = n) := hv.len
  have HLB : Hid (gs.length = k) := hu.len
  obtain ⟨oa, cap, rfl, _⟩ := hv.slice
  obtain ⟨ob, cb, rfl, hrow⟩ := hu.slice
  have HROW : Hid (∀ j, j < k → ∃ g, ob = some ⟨g, 0, none⟩ ∧ FieldRow base2 w g k cb gs) := hrow
  have HSZ : Hid (CopyF gs) := hsz2
  clear hu hrow hsz2
  go_enter Tryz.func91, Tryz.ntmps91
  go_wp2_with fail
  refine (copied_any _ n base fs _ hv (by omega) hsz).mono ?_
  rintro e w1 ⟨out, rfl, hown, hb1⟩
  obtain ⟨o1, c1, rfl⟩ := slice_of_owns hown
  have HO1 : Hid (w1.ownsRow w.heap.size 74 2 (.slice o1 fs.length c1) fs.length (flatF fs)) := hown
  have HB1 : Hid (Below w.heap.size w w1) := hb1
  clear hv hsz hown hb1
  go_wp2_with fail
  go_loopw [5, 13] (fun s i wr => ∃ (j : Nat) (o : Option Addr) (c np : Nat) (P : List (ByteArray × ByteArray)), j ≤ k ∧ i = .int .i64 (j : Int) ∧ s = .slice o np c ∧ Hid (P = putAll fs (gs.take j) ∧ P.length = np ∧ np ≤ n + j) ∧ Hid (wr.ownsRow w.heap.size 74 2 (.slice o np c) np (flatF P)) ∧ Hid (Below w.heap.size w wr)) (fun _ i _ => k - (intOf i).toNat)
  case atStart => exact ⟨0, o1, c1, fs.length, fs, Nat.zero_le _, rfl, rfl, ⟨by simp [putAll], rfl, by rw [HLA.out]; omega⟩, HO1, HB1⟩
  case round =>
    obtain ⟨j, o, c, np, P, hj, rfl, rfl, HP, HO, HB⟩ := hrel
    by_cases hlt : j < k
    · have hlt2 : (j : Int) < (k : Int) := by omega
      obtain ⟨g, rfl, row⟩ := HROW.out j hlt
      have hgr : g < w.heap.size := row.lt
      have row1 := row.below HB.out row.lt
      have hc1 := row1.name j hlt
      have hc2 := row1.val j hlt
      obtain ⟨z1, z2⟩ := HSZ.out j (by rw [HLB.out]; exact hlt)
      have HTK : Hid (gs.take (j + 1) = gs.take j ++ [(nameAt gs j, valAt gs j)]) := take_field gs j (by rw [HLB.out]; exact hlt)
      obtain ⟨nm, hnm⟩ : ∃ y, y = nameAt gs j := ⟨_, rfl⟩
      obtain ⟨vl, hvl⟩ : ∃ y, y = valAt gs j := ⟨_, rfl⟩
      rw [← hnm] at hc1 z1 HTK
      rw [← hvl] at hc2 z2 HTK
      clear hnm hvl row row1
      go_upto_region 5 with fail
      obtain ⟨q, hq⟩ : ∃ q, q = wr.heap.size := ⟨_, rfl⟩
      obtain ⟨W2, hW2⟩ : ∃ W, W = wr.alloc (.cells #[.string nm, .string vl] 74) := ⟨_, rfl⟩
      rw [← hW2, ← hq]
      have HQ2 : Hid (W2.heap[q]? = some (.cells #[.string nm, .string vl] 74)) := by show _ = _; rw [hW2, hq]; exact heap_alloc_new wr _
      have HB2 : Hid (Below w.heap.size w W2) := by show Below _ _ _; rw [hW2]; exact HB.out.alloc HB.out.size _
      have HO2 : Hid (W2.ownsRow w.heap.size 74 2 (.slice o np c) np (flatF P)) := by show World.ownsRow _ _ _ _ _ _ _; rw [hW2]; exact HO.out.alloc _
      have HNE : Hid (∀ x, (Value.slice o np c).ownBlock = some x → x ≠ q) := fun x hx => by have := owns_lt HO.out hx; omega
      obtain ⟨hq0, hq1⟩ := two_facts HQ2.out
      have hvp := FieldsV.of_owns HO2.out
      have hnp : np ≤ 1999999 := by have := HP.out.2.2; omega
      clear hW2 hq HO HB hc1 hc2
      go_wp2_with fail
      refine (place_any _ np _ P nm _ hvp (by omega)).mono ?_
      rintro e w3 ⟨rfl, rfl⟩
      clear hvp hq0 hq1
      have hle := atF_le P nm
      have HL2 := HP.out.2.1
      obtain ⟨a, ha⟩ : ∃ a, a = atF P nm := ⟨_, rfl⟩
      rw [← ha] at hle ⊢
      by_cases hin : a < P.length
      · have HPE : Hid (putF P nm vl = P.set a (nm, vl)) := by show _ = _; rw [putF_eq P nm vl (by rw [← ha]; exact hin), ha]
        have hlt3 : a < np := by omega
        have hne : ((a : Int) == (np : Int)) = false := by rw [beq_eq_false_iff_ne]; omega
        have HL3 : Hid (P.length = np) := HL2
        clear ha hle hin HL2 HNE
        have HO3 := HO2
        have HQ3 := HQ2
        have HB3 := HB2
        clear HO2 HQ2 HB2
        rcases frow_form HO3.out with ⟨_, _, _, _, h0, _⟩ | ⟨g1, cc, he, _, row3⟩
        · exact absurd h0 (by omega)
        cases he
        have HROW3 : Hid (FieldRow w.heap.size w3 g1 np c P) := row3
        have hat : ((a : Nat) : Int) < ((np : Nat) : Int) := by omega
        clear row3 HO3
        obtain ⟨hq0, hq1⟩ := two_facts HQ3.out
        go_wp2_with fail
        refine (newField_any nm vl _ z1 z2).mono ?_
        rintro e w5 ⟨rfl, hb5⟩
        have row5 := HROW3.out.below hb5 HROW3.out.lt
        have hb6 : Below w.heap.size w w5 := HB3.out.trans (hb5.mono HB3.out.size)
        have hset := row5.set a (by omega) nm vl _ rfl (by simp)
        have k0 := row5.name a (by omega)
        have k1 := row5.val a (by omega)
        have hf0 := row5.frozen (a * 2)
        have hf1 := row5.frozen (a * 2 + 1)
        have HSET : Hid (((w5.setCell ⟨g1, a * 2, none⟩ (.string nm)).setCell ⟨g1, a * 2 + 1, none⟩ (.string vl)).ownsRow w.heap.size 74 2 (.slice (some ⟨g1, 0, none⟩) (np) c) (np) (flatF (P.set a (nm, vl)))) := hset.owns
        have HB6 : Hid (Below w.heap.size w ((w5.setCell ⟨g1, a * 2, none⟩ (.string nm)).setCell ⟨g1, a * 2 + 1, none⟩ (.string vl))) := (hb6.setCell (p := ⟨g1, a * 2, none⟩) row5.base _).setCell (p := ⟨g1, a * 2 + 1, none⟩) row5.base _
        have HE : Hid (P.set a (nm, vl) = putAll fs (gs.take (j + 1)) ∧ (P.set a (nm, vl)).length = np ∧ np ≤ n + (j + 1)) := by
          show _ ∧ _ ∧ _
          rw [HTK.out, putAll_snoc, ← HP.out.1]
          exact ⟨HPE.out.symm, by rw [List.length_set]; exact HL3.out, by have := HP.out.2.2; omega⟩
        clear hb5 hb6 row5 hset HROW3 HB3 HQ3 hq0 hq1 HP HTK
        go_wp2_with fail
        go_roundw
        case rel => exact ⟨j + 1, _, _, _, _, by omega, by go_num, rfl, HE, HSET, HB6⟩
        case measure => simp [intOf]; omega
      · have han : a = np := by omega
        have HPE : Hid (putF P nm vl = P ++ [(nm, vl)]) := by show _ = _; unfold putF; rw [if_neg (by rw [← ha]; exact hin)]
        have HL4 : Hid (P.length = np) := HL2
        clear ha hle hin HL2
        subst han
        have h63 : a + 1 ≤ maxLen := by unfold maxLen; omega
        have h47 : (a + 1) * 32 ≤ 140737488355328 := by omega
        have HBS : ∀ o, w.heap.size ≤ (w3.alloc o).heap.size := fun o => by have := HB2.out.size; simp; omega
        go_wp2_with (at_builtin; refine wpList_append_own _ rfl _ _ 75 rfl w.heap.size 74 i0 (.agg #[.string ⟨#[]⟩, .string ⟨#[]⟩]) 2 32 Tryz.underlying75 hi hz0 hz1 hz2 rfl (by decide) _ _ _ rfl (HO2.out.alloc _) ⟨w3.heap.size, 0, none⟩ 1 1 [.string ⟨#[]⟩, .string ⟨#[]⟩] rfl rfl (cell_two_new _ _ _ _) (two_text _ _) h63 h47 (HBS _) ?_)
        intro v4 w4 hown4 hgrow4 _
        have HB3 : Hid (Below w.heap.size w w4) := (HB2.out.alloc HB2.out.size _).grown hgrow4 (HBS _) (fun g hg => owns_ge HO2.out hg)
        have HO3 : Hid (w4.ownsRow w.heap.size 74 2 v4 (a + 1) (flatF (P ++ [((⟨#[]⟩ : ByteArray), (⟨#[]⟩ : ByteArray))]))) := by
          show World.ownsRow _ _ _ _ _ _ _
          rw [flatF_append, flatF_one]
          exact hown4
        have HQ3 : Hid (w4.heap[q]? = some (.cells #[.string nm, .string vl] 74)) := by
          show _ = _
          have hlt := (Array.getElem?_eq_some_iff.1 HQ2.out).1
          rw [hgrow4.block q (by simp; omega) (fun e => HNE.out q e.symm rfl), Below.heap_alloc _ _ _ hlt]
          exact HQ2.out
        obtain ⟨o4, c4, rfl⟩ := slice_of_owns HO3.out
        have HL3 : Hid ((P ++ [((⟨#[]⟩ : ByteArray), (⟨#[]⟩ : ByteArray))]).length = a + 1) := by show _ = _; rw [List.length_append, HL4.out]; rfl
        have HSE : Hid ((P ++ [((⟨#[]⟩ : ByteArray), (⟨#[]⟩ : ByteArray))]).set a (nm, vl) = putF P nm vl) := by
          show _ = _
          rw [HPE.out, List.set_append_right _ _ (by rw [HL4.out]; exact Nat.le_refl _), HL4.out, Nat.sub_self, List.set_cons_zero]
        obtain ⟨P1, hP1⟩ : ∃ x, x = P ++ [((⟨#[]⟩ : ByteArray), (⟨#[]⟩ : ByteArray))] := ⟨_, rfl⟩
        rw [← hP1] at HO3 HL3 HSE
        clear hgrow4 hown4 HBS HO2 HQ2 HB2 HNE hP1 h63 h47
        rcases frow_form HO3.out with ⟨_, _, _, _, h0, _⟩ | ⟨g1, cc, he, _, row3⟩
        · exact absurd h0 (by omega)
        cases he
        have HROW3 : Hid (FieldRow w.heap.size w4 g1 (a + 1) c4 P1) := row3
        have hat : ((a : Nat) : Int) < (((a + 1) : Nat) : Int) := by omega
        clear row3 HO3
        obtain ⟨hq0, hq1⟩ := two_facts HQ3.out
        go_wp2_with fail
        refine (newField_any nm vl _ z1 z2).mono ?_
        rintro e w5 ⟨rfl, hb5⟩
        have row5 := HROW3.out.below hb5 HROW3.out.lt
        have hb6 : Below w.heap.size w w5 := HB3.out.trans (hb5.mono HB3.out.size)
        have hset := row5.set a (by omega) nm vl _ rfl (by simp)
        have k0 := row5.name a (by omega)
        have k1 := row5.val a (by omega)
        have hf0 := row5.frozen (a * 2)
        have hf1 := row5.frozen (a * 2 + 1)
        have HSET : Hid (((w5.setCell ⟨g1, a * 2, none⟩ (.string nm)).setCell ⟨g1, a * 2 + 1, none⟩ (.string vl)).ownsRow w.heap.size 74 2 (.slice (some ⟨g1, 0, none⟩) ((a + 1)) c4) ((a + 1)) (flatF (P1.set a (nm, vl)))) := hset.owns
        have HB6 : Hid (Below w.heap.size w ((w5.setCell ⟨g1, a * 2, none⟩ (.string nm)).setCell ⟨g1, a * 2 + 1, none⟩ (.string vl))) := (hb6.setCell (p := ⟨g1, a * 2, none⟩) row5.base _).setCell (p := ⟨g1, a * 2 + 1, none⟩) row5.base _
        have HE : Hid (P1.set a (nm, vl) = putAll fs (gs.take (j + 1)) ∧ (P1.set a (nm, vl)).length = (a + 1) ∧ (a + 1) ≤ n + (j + 1)) := by
          show _ ∧ _ ∧ _
          rw [HTK.out, putAll_snoc, ← HP.out.1]
          exact ⟨HSE.out, by rw [List.length_set]; exact HL3.out, by have := HP.out.2.2; omega⟩
        clear hb5 hb6 row5 hset HROW3 HB3 HQ3 hq0 hq1 HP HTK
        go_wp2_with fail
        go_roundw
        case rel => exact ⟨j + 1, _, _, _, _, by omega, by go_num, rfl, HE, HSET, HB6⟩
        case measure => simp [intOf]; omega
    · have hjk : j = k := by omega
      have HE : Hid (P = putAll fs gs ∧ P.length = np) := ⟨by rw [HP.out.1, List.take_of_length_le (by rw [HLB.out]; omega)], HP.out.2.1⟩
      clear HP
      go_wp2_with fail
      go_ret
      exact ⟨_, rfl, by rw [← HE.out.1, HE.out.2]; exact HO.out, HB.out⟩

open Classical in
/-- The fields whose name is one of these. -/
noncomputable def namedF (xs : List ByteArray) (gs : List (ByteArray × ByteArray)) : List (ByteArray × ByteArray) := gs.filter fun f => decide (f.1 ∈ xs)
open Classical in
theorem namedF_snoc (xs : List ByteArray) (gs : List (ByteArray × ByteArray)) (f : ByteArray × ByteArray) : namedF xs (gs ++ [f]) = if f.1 ∈ xs then namedF xs gs ++ [f] else namedF xs gs := by
  unfold namedF
  rw [List.filter_append]
  by_cases h : f.1 ∈ xs
  · rw [if_pos h]; simp [h]
  · rw [if_neg h]; simp [h]
set_option maxHeartbeats 2000000 in
set_option maxRecDepth 100000 in
theorem onlyNamed_any (v : Value) (n base : Nat) (gs : List (ByteArray × ByteArray)) (oa : Option Addr) (m cm : Nat) (xs : List ByteArray) (w : World) (hv : FieldsV w base v n gs) (hn : n ≤ 1999999) (hsz : CopyF gs) (hx : TextsA w oa m xs) (hm : m ≤ 2000000) :
    Calls Tryz.prog 89 #[v, .slice oa m cm] w fun e w' => RowF (namedF xs gs) w e w' := by
  classical
  obtain ⟨i0, hi, hz0, hz1, hz2⟩ := info_parts info33
  have HLB : Hid (gs.length = n) := hv.len
  obtain ⟨ob, cb, rfl, hrow⟩ := hv.slice
  have HROW : Hid (∀ j, j < n → ∃ g, ob = some ⟨g, 0, none⟩ ∧ FieldRow base w g n cb gs) := hrow
  have HSZ : Hid (CopyF gs) := hsz
  have HX : Hid (∀ W, Below w.heap.size w W → TextsA W oa m xs) := fun W h => hx.below h
  clear hv hrow hsz hx
  go_enter Tryz.func89, Tryz.ntmps89
  go_wp2_with fail
  go_loopw [5, 10] (fun s i wr => ∃ (j : Nat) (o : Option Addr) (c np : Nat) (P : List (ByteArray × ByteArray)), j ≤ n ∧ i = .int .i64 (j : Int) ∧ s = .slice o np c ∧ Hid (P = namedF xs (gs.take j) ∧ P.length = np ∧ np ≤ j) ∧ Hid (wr.ownsRow w.heap.size 74 2 (.slice o np c) np (flatF P)) ∧ Hid (Below w.heap.size w wr)) (fun _ i _ => n - (intOf i).toNat)
  case atStart => exact ⟨0, none, 0, 0, [], Nat.zero_le _, rfl, rfl, ⟨by simp [namedF], rfl, Nat.le_refl _⟩, ⟨rfl, .inl ⟨rfl, rfl⟩⟩, Below.refl _ _⟩
  case round =>
    obtain ⟨j, o, c, np, P, hj, rfl, rfl, HP, HO, HB⟩ := hrel
    by_cases hlt : j < n
    · have hlt2 : (j : Int) < (n : Int) := by omega
      obtain ⟨g, rfl, row⟩ := HROW.out j hlt
      have hgr : g < w.heap.size := row.lt
      have row1 := row.below HB.out row.lt
      have hc1 := row1.name j hlt
      have hc2 := row1.val j hlt
      obtain ⟨z1, z2⟩ := HSZ.out j (by rw [HLB.out]; exact hlt)
      have HTK : Hid (gs.take (j + 1) = gs.take j ++ [(nameAt gs j, valAt gs j)]) := take_field gs j (by rw [HLB.out]; exact hlt)
      obtain ⟨nm, hnm⟩ : ∃ y, y = nameAt gs j := ⟨_, rfl⟩
      obtain ⟨vl, hvl⟩ : ∃ y, y = valAt gs j := ⟨_, rfl⟩
      rw [← hnm] at hc1 z1 HTK
      rw [← hvl] at hc2 z2 HTK
      clear hnm hvl row row1
      go_upto_region 5 with fail
      obtain ⟨q, hq⟩ : ∃ q, q = wr.heap.size := ⟨_, rfl⟩
      obtain ⟨W2, hW2⟩ : ∃ W, W = wr.alloc (.cells #[.string nm, .string vl] 74) := ⟨_, rfl⟩
      rw [← hW2, ← hq]
      have HQ2 : Hid (W2.heap[q]? = some (.cells #[.string nm, .string vl] 74)) := by show _ = _; rw [hW2, hq]; exact heap_alloc_new wr _
      have HB2 : Hid (Below w.heap.size w W2) := by show Below _ _ _; rw [hW2]; exact HB.out.alloc HB.out.size _
      have HO2 : Hid (W2.ownsRow w.heap.size 74 2 (.slice o np c) np (flatF P)) := by show World.ownsRow _ _ _ _ _ _ _; rw [hW2]; exact HO.out.alloc _
      obtain ⟨hq0, hq1⟩ := two_facts HQ2.out
      have hx2 := HX.out _ HB2.out
      clear hW2 hq HO HB hc1 hc2
      go_wp2_with fail
      refine (contains_any oa m cm xs nm _ hx2 hm).mono ?_
      rintro e w3 ⟨rfl, rfl⟩
      clear hx2
      by_cases hin : nm ∈ xs
      · rw [decide_eq_true hin]
        have HE : Hid (P ++ [(nm, vl)] = namedF xs (gs.take (j + 1)) ∧ (P ++ [(nm, vl)]).length = np + 1 ∧ np + 1 ≤ j + 1) := by
          show _ ∧ _ ∧ _
          rw [HTK.out, namedF_snoc, if_pos (by exact hin), ← HP.out.1]
          exact ⟨rfl, by rw [List.length_append, HP.out.2.1]; rfl, by have := HP.out.2.2; omega⟩
        have hnp : np ≤ j := HP.out.2.2
        clear HP HTK hin
        go_wp2_with fail
        refine (newField_any nm vl _ z1 z2).mono ?_
        rintro e w5 ⟨rfl, hb5⟩
        have HB5 : Hid (Below w.heap.size w w5) := HB2.out.trans (hb5.mono HB2.out.size)
        have HO5 : Hid (w5.ownsRow w.heap.size 74 2 (.slice o np c) np (flatF P)) := owns_below HO2.out hb5 (fun g hg => owns_lt HO2.out hg)
        have h63 : np + 1 ≤ maxLen := by unfold maxLen; omega
        have h47 : (np + 1) * 32 ≤ 140737488355328 := by omega
        have HBS : ∀ o, w.heap.size ≤ (w5.alloc o).heap.size := fun o => by have := HB5.out.size; simp; omega
        clear hb5 HO2 HB2 HQ2 hq0 hq1
        go_wp2_with (at_builtin; refine wpList_append_own _ rfl _ _ 24 rfl w.heap.size 74 i0 (.agg #[.string ⟨#[]⟩, .string ⟨#[]⟩]) 2 32 Tryz.underlying24 hi hz0 hz1 hz2 rfl (by decide) _ _ _ rfl (HO5.out.alloc _) ⟨w5.heap.size, 0, none⟩ 1 1 [.string nm, .string vl] rfl rfl (cell_two_new _ _ _ _) (two_text _ _) h63 h47 (HBS _) ?_)
        intro v6 w6 hown6 hgrow6 _
        have HB6 : Hid (Below w.heap.size w w6) := (HB5.out.alloc HB5.out.size _).grown hgrow6 (HBS _) (fun g hg => owns_ge HO5.out hg)
        have HO6 : Hid (w6.ownsRow w.heap.size 74 2 v6 (np + 1) (flatF (P ++ [(nm, vl)]))) := by
          show World.ownsRow _ _ _ _ _ _ _
          rw [flatF_append, flatF_one]
          exact hown6
        obtain ⟨o6, c6, rfl⟩ := slice_of_owns HO6.out
        clear hown6 hgrow6 HBS HO5 HB5 h63 h47
        go_wp2_with fail
        go_roundw
        case rel => exact ⟨j + 1, _, _, _, _, by omega, by go_num, rfl, HE, HO6, HB6⟩
        case measure => simp [intOf]; omega
      · rw [decide_eq_false hin]
        have HE : Hid (P = namedF xs (gs.take (j + 1)) ∧ P.length = np ∧ np ≤ j + 1) := by
          show _ ∧ _ ∧ _
          rw [HTK.out, namedF_snoc, if_neg (by exact hin), ← HP.out.1]
          exact ⟨rfl, HP.out.2.1, by have := HP.out.2.2; omega⟩
        clear HP HTK hin hq0 hq1
        go_wp2_with fail
        go_roundw
        case rel => exact ⟨j + 1, _, _, _, _, by omega, by go_num, rfl, HE, HO2, HB2⟩
        case measure => simp [intOf]; omega
    · have hjk : j = n := by omega
      have HE : Hid (P = namedF xs gs ∧ P.length = np) := ⟨by rw [HP.out.1, List.take_of_length_le (by rw [HLB.out]; omega)], HP.out.2.1⟩
      clear HP
      go_wp2_with fail
      go_ret
      exact ⟨_, rfl, by rw [← HE.out.1, HE.out.2]; exact HO.out, HB.out⟩

end Go.Proofs.YtmcmeeibogkpaaaGreatDoorR
