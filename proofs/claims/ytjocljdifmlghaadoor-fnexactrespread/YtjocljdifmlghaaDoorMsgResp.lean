/- 'RespRead' of the specification: contract over the translation. -/
import Derived.Test.YtjocljdifmlghaaDoorMsgLaw
namespace Go.Proofs.YtjocljdifmlghaaDoor
open Go.RowKit
open Go.Lib hiding intOf

theorem num_ok (n : Nat) (h : n ≤ 1000000) : NumOk (numText n) := by
  have hd := numL_dig n h
  have hv := numL_val n h
  have hl : (numL n).length ≤ 7 := by
    unfold numL at *
    rw [if_neg (by omega)] at *
    by_cases h0 : n = 0
    · rw [if_pos h0]; simp
    · rw [if_neg h0] at *
      have hh := (dg_facts 8 n (by omega)).1
      have h3 := val_ge (dgF 8 n) hd.2 hh hd.1
      rw [hv] at h3
      rcases Nat.lt_or_ge 7 (dgF 8 n).length with h4 | h4
      · have := Nat.pow_le_pow_right (show 0 < 10 by omega) (show 7 ≤ (dgF 8 n).length - 1 by omega)
        omega
      · exact h4
  have hs : (numText n).size = (numL n).length := by simp [numText, ByteArray.size]
  have h1 : 1 ≤ (numText n).size := by
    rw [hs]
    exact List.length_pos_iff.2 hd.1
  refine (num_iff (numText n) h1 (by omega) hd.2).1 ?_
  show numText (valL (numL n)) = numText n
  rw [hv]
/-- An answer's text is read as the answer. -/
theorem IsResp.parts {s : ByteArray} {st : Int} {fs : List (ByteArray × ByteArray)} {b : ByteArray} (h : IsResp s st fs b) {xs : List ByteArray} {k : Nat} {ws : List ByteArray} {l : List (ByteArray × ByteArray)} (hp : Parts s xs k ws l) :
    ∃ x y, ws = [x, numText st.toNat, y] ∧ l = fs ∧ s.extract k s.size = b := by
  have e := hp.head.symm.trans (resp_head h)
  simp only [Prod.mk.injEq, Option.some.injEq] at e
  obtain ⟨e1, e2⟩ := e
  obtain ⟨x0, xr, rfl⟩ : ∃ x0 xr, xs = x0 :: xr := by
    cases xs with
    | nil => exact absurd rfl hp.ne
    | cons a r => exact ⟨a, r, rfl⟩
  simp only [List.map_cons, List.cons.injEq] at e1
  have hw := hp.words
  simp only [List.headD_cons] at hw
  rw [e1.1, resp_words h.1.1] at hw
  have hf := hp.fields
  simp only [List.tail_cons] at hf
  rw [e1.2, resp_fields h.1.2.1] at hf
  refine ⟨⟨httpL.toArray⟩, ⟨#[46]⟩, map_bs_inj (by rw [← hw]; rfl), (pairs_inj hf).symm, bs_inj ?_⟩
  rw [bs_extract, List.take_of_length_le (i := s.size) (l := bs s) (by rw [bs_len]; omega)]
  exact e2
/-- What 'RespRead' answers: the one answer whose text this is, or nothing. -/
def RespIs (s : ByteArray) (w : World) (e : Ending) (w' : World) : Prop :=
  (∃ (m : Int) (fs : List (ByteArray × ByteArray)) (b : ByteArray) (v : Value), e = .returned (.tuple #[.agg #[.int .i64 m, v, .string b], .bool true]) ∧ IsResp s m fs b ∧ w'.ownsRow w.heap.size 87 2 v fs.length (flatF fs) ∧ Below w.heap.size w w') ∨
  (e = .returned (.tuple #[.agg #[.int .i64 0, .slice none 0 0, .string ⟨#[]⟩], .bool false]) ∧ (∀ m fs b, ¬ IsResp s m fs b) ∧ Below w.heap.size w w')

set_option maxHeartbeats 400000 in
set_option maxRecDepth 100000 in
theorem specRespRead_any (s : ByteArray) (w : World) (hs : s.size ≤ 1048576) :
    Calls Tryd.prog 21 #[.string s] w fun e w' => RespIs s w e w' := by
  obtain ⟨R, hR⟩ : ∃ R, R = w.heap.size := ⟨_, rfl⟩
  have hRw : w.heap.size ≤ R := by omega
  have HZ : Hid (∀ W, Below (w.alloc (.cells #[.int .i64 0, .slice none 0 0, .string ⟨#[]⟩] 38)).heap.size (w.alloc (.cells #[.int .i64 0, .slice none 0 0, .string ⟨#[]⟩] 38)) W → W.heap[R]? = some (.cells #[.int .i64 0, .slice none 0 0, .string ⟨#[]⟩] 38) ∧ Below w.heap.size w W) := fun W h => ⟨by rw [hR]; exact kept_new h, below_new h⟩
  have hZs : w.heap.size ≤ (w.alloc (.cells #[.int .i64 0, .slice none 0 0, .string ⟨#[]⟩] 38)).heap.size := by simp
  go_enter Tryd.func21, Tryd.ntmps21
  go_wp2_with fail
  refine (l3Head_any s _ (by omega)).mono ?_
  rintro e w1 ⟨v, xs, at0, rfl, hown1, hxl, bb1, hd⟩
  rw [← hR]
  clear hR
  rcases hd with ⟨rfl, hh⟩ | ⟨k, rfl, hk, hh⟩
  · obtain ⟨z, hbz⟩ := HZ.out w1 bb1
    obtain ⟨⟨c0, c1, c2⟩, f0, f1, f2⟩ := three_facts z
    obtain ⟨⟨k0, k1, k2⟩, _⟩ := three_facts (three_set z (.int .i64 0) (.slice none 0 0) (.string ⟨#[]⟩))
    have HB4 : Hid (Below w.heap.size w (threeSet w1 R (.int .i64 0) (.slice none 0 0) (.string ⟨#[]⟩))) := below_three hbz hRw
    have HNO : Hid (∀ m fs b, ¬ IsResp s m fs b) := fun m fs b h => by
          have e := hh.symm.trans (resp_head h)
          simp at e
    unfold threeSet at k0 k1 k2
    clear z hbz HZ hh hown1 bb1
    go_wp2_with fail
    exact bodyPost_ret (v := .tuple #[.agg #[.int .i64 0, .slice none 0 0, .string ⟨#[]⟩], .bool false]) (by simp [results, Tryd.results21, go_sem, k0, k1, k2]) rfl (.inr ⟨rfl, HNO.out, HB4.out⟩)
  · by_cases hx0 : xs = []
    · subst hx0
      obtain ⟨oa, cp, rfl, _, _⟩ | ⟨g, cp, _, h0, _⟩ := row_form hown1
      · obtain ⟨z, hbz⟩ := HZ.out w1 bb1
        obtain ⟨⟨c0, c1, c2⟩, f0, f1, f2⟩ := three_facts z
        obtain ⟨⟨k0, k1, k2⟩, _⟩ := three_facts (three_set z (.int .i64 0) (.slice none 0 0) (.string ⟨#[]⟩))
        have HB4 : Hid (Below w.heap.size w (threeSet w1 R (.int .i64 0) (.slice none 0 0) (.string ⟨#[]⟩))) := below_three hbz hRw
        have HNO : Hid (∀ m fs b, ¬ IsResp s m fs b) := fun m fs b h => by
                  have e := hh.symm.trans (resp_head h)
                  simp at e
        unfold threeSet at k0 k1 k2
        clear z hbz HZ hh hown1 bb1
        go_wp2_with fail
        exact bodyPost_ret (v := .tuple #[.agg #[.int .i64 0, .slice none 0 0, .string ⟨#[]⟩], .bool false]) (by simp [results, Tryd.results21, go_sem, k0, k1, k2]) rfl (.inr ⟨rfl, HNO.out, HB4.out⟩)
      · simp at h0
    · have hxn : 0 < xs.length := List.length_pos_iff.2 hx0
      obtain ⟨_, _, _, h0, _⟩ | ⟨g, cp, rfl, _, row1⟩ := row_form hown1
      · omega
      obtain ⟨x0, hx⟩ : ∃ y, y = textAt xs 0 := ⟨_, rfl⟩
      have hc0 := row1.cell 0 hxn
      rw [← hx] at hc0
      have hxb : bs x0 ∈ (headL [] [] (bs s)).1 := by
        rw [hh, hx]
        cases xs with
        | nil => exact absurd rfl hx0
        | cons y r => simp [textAt]
      have hx0s : x0.size ≤ s.size := by
        rcases headL_len _ (bs s) [] [] (Nat.le_refl _) _ hxb with h1 | h1
        · simp at h1
        · rw [bs_len, bs_len] at h1; simpa using h1
      have HB1 : Hid (Below (w.alloc (.cells #[.int .i64 0, .slice none 0 0, .string ⟨#[]⟩] 38)).heap.size (w.alloc (.cells #[.int .i64 0, .slice none 0 0, .string ⟨#[]⟩] 38)) w1) := bb1
      have HROW1 : Hid (TextRow (w.alloc (.cells #[.int .i64 0, .slice none 0 0, .string ⟨#[]⟩] 38)).heap.size w1 g xs.length cp xs) := row1
      have HX : Hid (x0 = textAt xs 0) := hx
      have HH : Hid (headL [] [] (bs s) = (xs.map bs, some ((bs s).drop k))) := hh
      have HN0 : Hid (xs ≠ []) := hx0
      clear hx hh hx0
      obtain ⟨nx, hnx⟩ : ∃ y, y = xs.length := ⟨_, rfl⟩
      have HNX : Hid (nx = xs.length) := hnx
      rw [← hnx] at hxn hxl HROW1 ⊢
      clear hnx
      have hxn2 : (0 : Int) < (nx : Int) := by omega
      have hxne : ((nx : Int) == 0) = false := by rw [beq_eq_false_iff_ne]; omega
      have hk2 : ¬ (k : Int) < 0 := by omega
      clear bb1 row1 hown1 hxb
      go_wp2_with fail
      refine (l3Words_any x0 _ (by omega)).mono ?_
      rintro e w2 ⟨wv, ws, rfl, hownw, hwl, bb2, hwd⟩
      have HWD : Hid (wordsL [] [] (bs x0) = ws.map bs) := hwd
      clear hwd
      have hb2 : Below (w.alloc (.cells #[.int .i64 0, .slice none 0 0, .string ⟨#[]⟩] 38)).heap.size (w.alloc (.cells #[.int .i64 0, .slice none 0 0, .string ⟨#[]⟩] 38)) w2 := HB1.out.trans (bb2.mono HB1.out.size)
      by_cases h3 : ws.length = 3
      · obtain ⟨wa, wp, wc, rfl⟩ : ∃ a b c, ws = [a, b, c] := by
          match ws, h3 with
          | [a, b, c], _ => exact ⟨a, b, c, rfl⟩
        clear h3
        obtain ⟨_, _, _, h0, _⟩ | ⟨g2, cp2, rfl, _, row2⟩ := row_form hownw
        · simp at h0
        have hpw : wp.size ≤ s.size := by
          have hm : bs wp ∈ wordsL [] [] (bs x0) := by rw [HWD.out]; simp
          rcases wordsL_len (bs x0) [] [] _ hm with h1 | h1
          · simp at h1
          · rw [bs_len, bs_len] at h1; simp at h1; omega
        have ha := row2.cell 0 (by simp)
        have hpc := row2.cell 1 (by simp)
        have ha : w2.cell? ⟨g2, 0, none⟩ = some (.string wa) := ha
        have hpc : w2.cell? ⟨g2, 1, none⟩ = some (.string wp) := hpc
        have HROW2 : Hid (TextRow w1.heap.size w2 g2 3 cp2 [wa, wp, wc]) := row2
        have HB2 : Hid (Below (w.alloc (.cells #[.int .i64 0, .slice none 0 0, .string ⟨#[]⟩] 38)).heap.size (w.alloc (.cells #[.int .i64 0, .slice none 0 0, .string ⟨#[]⟩] 38)) w2) := hb2
        have HBB2 : Hid (Below w1.heap.size w1 w2) := bb2
        have hki : (k : Int) ≤ (s.size : Int) := by omega
        have h1n : (1 : Int) ≤ (nx : Int) := by omega
        clear hownw row2 bb2 hb2 hwl hc0
        have hrow2 : TextRow (w.alloc (.cells #[.int .i64 0, .slice none 0 0, .string ⟨#[]⟩] 38)).heap.size w2 g nx cp xs := HROW1.out.below HBB2.out HROW1.out.lt
        have hxlen := hrow2.len
        obtain ⟨aT, hA, HTX⟩ : ∃ aT : Addr, (if cp = 1 then some (⟨g, 0, none⟩ : Addr) else some ⟨g, 1, none⟩) = some aT ∧ Hid (∀ W, Below w2.heap.size w2 W → TextsV W W.heap.size (some aT) (nx - 1) xs.tail) := by
          have hle := hrow2.le
          by_cases h : cp = 1
          · refine ⟨⟨g, 0, none⟩, by simp [h], fun W hW => ⟨by simp; omega, fun i hi => ?_⟩⟩
            simp at hi; omega
          · refine ⟨⟨g, 1, none⟩, by simp [h], fun W hW => ⟨by simp; omega, fun i hi => ?_⟩⟩
            have hi2 : i + 1 < nx := by simp at hi; omega
            have hcc := (hrow2.below hW hrow2.lt).cell (i + 1) hi2
            refine ⟨g, 1, rfl, by have := hW.size; have := hrow2.lt; omega, ?_⟩
            rw [show 1 + i = i + 1 by omega, hcc]
            simp [textAt, List.getD_eq_getElem?_getD, show i + 1 < xs.length by omega]
        have HSZ : Hid (∀ x ∈ xs.tail, x.size ≤ 2000000) := fun x hx => by
          have hm : bs x ∈ (headL [] [] (bs s)).1 := by rw [HH.out]; exact List.mem_map_of_mem (List.mem_of_mem_tail hx)
          rcases headL_len _ (bs s) [] [] (Nat.le_refl _) _ hm with h1 | h1
          · simp at h1
          · rw [bs_len, bs_len] at h1; simp at h1; omega
        clear hrow2
        go_wp2_with fail
        refine (specNumRead_any wp _ (by unfold maxLen; omega)).mono ?_
        rintro e wN ⟨nb, nn, rfl, hn1, hn2, hn3, bbN'⟩
        have bbN : Below w2.heap.size w2 wN := bbN'
        have HN1 : Hid ((nb = true ↔ NumOk wp) ∧ (nb = true → nn = valL wp.data.toList)) := ⟨hn1, hn2⟩
        clear hn1 hn2 hn3 ha hpc bbN'
        go_wp2_with fail
        refine wp_region_held_drew (S := fun _ => True) (by kernel_rfl) trivial (fun hHeld => ?_)
        refine wpAnyH_take (i := 0) (v := .int .i64 nn) rfl (by kernel_rfl) (by kernel_rfl) (by kernel_rfl) (fun _ _ _ h => h) (Or.inl ⟨by rfl, by intro W hSW; (try dsimp only at hSW); go_simp⟩) (by assumption) ?_
        refine wpAnyH_take (i := 1) (v := .slice (some ⟨g, 0, none⟩) nx cp) rfl (by kernel_rfl) (by kernel_rfl) (by kernel_rfl) (fun _ _ _ h => h) (Or.inl ⟨by rfl, by intro W hSW; (try dsimp only at hSW); go_simp⟩) (by assumption) ?_
        refine wpAnyH_take (i := 2) (v := .slice (some aT) (nx - 1) (cp - 1)) rfl (by kernel_rfl) (by kernel_rfl) (by kernel_rfl) (fun _ _ _ h => h) (Or.inl ⟨by rfl, by intro W hSW; (try dsimp only at hSW); go_simp⟩) (by assumption) ?_
        refine wpAnyH_take (i := 4) (v := .string s) rfl (by kernel_rfl) (by kernel_rfl) (by kernel_rfl) (fun _ _ _ h => h) (Or.inl ⟨by rfl, by intro W hSW; (try dsimp only at hSW); go_simp⟩) (by assumption) ?_
        refine wpAnyH_take (i := 5) (v := .int .i64 (k : Int)) rfl (by kernel_rfl) (by kernel_rfl) (by kernel_rfl) (fun _ _ _ h => h) (Or.inl ⟨by rfl, by intro W hSW; (try dsimp only at hSW); go_simp⟩) (by assumption) ?_
        refine wpAnyH_take (i := 6) (v := .string (s.extract k s.size)) rfl (by kernel_rfl) (by kernel_rfl) (by kernel_rfl) (fun _ _ _ h => h) (Or.inl ⟨by rfl, by intro W hSW; (try dsimp only at hSW); go_simp⟩) (by assumption) ?_
        refine wpAnyH_ready (rs := [3, 8]) (by kernel_rfl) (by simp) ?_
        refine AllReadyH.cons rfl (fun K hK => ?_) (AllReadyH.cons rfl (fun K hK => ?_) AllReadyH.nil)
        · go_simp
          refine (l3Fields_any (some aT) (nx - 1) (cp - 1) xs.tail _ (HTX.out _ (bbN.trans ((Below.refl wN.heap.size wN).drew.mono bbN.size))) (by omega) HSZ.out).mono ?_
          rintro e w3 ⟨fv, l, rfl, hownf, hll, bb3, hfl⟩
          obtain ⟨fo, fc, rfl⟩ := slice_of_owns hownf
          have hb3 : Below wN.heap.size wN w3 := (Below.refl wN.heap.size wN).drew.trans (bb3.mono (Below.refl wN.heap.size wN).drew.size)
          refine hK.out _ _ trivial (fun hHeld3 => ?_)
          clear hK K hHeld
          refine wpAnyH_take (i := 7) (v := .agg #[.int .i64 nn, .slice fo l.length fc, .string (s.extract k s.size)]) rfl (by kernel_rfl) (by kernel_rfl) (by kernel_rfl) (fun _ _ _ h => h) (Or.inl ⟨by rfl, by intro W hSW; (try dsimp only at hSW); go_simp⟩) (by assumption) ?_
          refine wpAnyH_ready (rs := [8]) (by kernel_rfl) (by simp) ?_
          refine AllReadyH.cons rfl (fun K hK => ?_) AllReadyH.nil
          go_simp
          refine hK.out _ _ trivial (fun hHeld4 => ?_)
          clear hK K hHeld3
          refine wpAnyH_ready (rs := [9]) (by kernel_rfl) (by simp) ?_
          refine AllReadyH.cons rfl (fun K hK => ?_) AllReadyH.nil
          go_simp
          refine hK.out _ _ trivial (fun hHeld5 => ?_)
          clear hK K hHeld4
          refine wpAnyH_done (by kernel_rfl) ?_ _
          clear hHeld5
          obtain ⟨r, hr⟩ : ∃ r, r = w3.heap.size := ⟨_, rfl⟩
          obtain ⟨w4, hw4⟩ : ∃ W, W = w3.alloc (.cells #[.int .i64 nn, .slice fo l.length fc, .string (s.extract k s.size)] 38) := ⟨_, rfl⟩
          have hz4 : w4.heap[r]? = some (.cells #[.int .i64 nn, .slice fo l.length fc, .string (s.extract k s.size)] 38) := by rw [hw4, hr]; exact heap_alloc_new w3 _
          have hb34 : Below w3.heap.size w3 w4 := by rw [hw4]; exact (Below.refl _ w3).alloc (Nat.le_refl _) _
          have hb4 : Below wN.heap.size wN w4 := hb3.trans (hb34.mono hb3.size)
          have hr4 : r < w4.heap.size := by rw [hw4, hr]; simp
          have hown4 : w4.ownsRow wN.heap.size 87 2 (.slice fo l.length fc) l.length (flatF l) := owns_below hownf hb34 (fun g hg => owns_lt hownf hg)
          rw [← hr, ← hw4]
          clear hr hw4 hb34 hownf bb3 hb3 HTX HSZ hA
          obtain ⟨body, hbody⟩ : ∃ y, y = s.extract k s.size := ⟨_, rfl⟩
          rw [← hbody] at hz4 ⊢
          have HBODY : Hid (body = s.extract k s.size) := hbody
          have HL4 : Hid (fieldsL (xs.tail.map bs) = l.map bsP) := hfl
          have HOW : Hid (w4.ownsRow wN.heap.size 87 2 (.slice fo l.length fc) l.length (flatF l)) := hown4
          have HWF : Hid (WalkF l.length l) := walk_fields HH.out HL4.out (by unfold maxLen; omega)
          have hbs : body.size ≤ s.size := by rw [HBODY.out]; simp
          have HBr : Hid (Below (w.alloc (.cells #[.int .i64 0, .slice none 0 0, .string ⟨#[]⟩] 38)).heap.size (w.alloc (.cells #[.int .i64 0, .slice none 0 0, .string ⟨#[]⟩] 38)) w4) := (HB2.out.trans (bbN.mono HB2.out.size)).trans (hb4.mono (Nat.le_trans HB2.out.size bbN.size))
          have hll2 : l.length ≤ 1048576 := by simp at hll; omega
          have HZ4 : Hid (w4.heap[r]? = some (.cells #[.int .i64 nn, .slice fo l.length fc, .string body] 38)) := hz4
          obtain ⟨⟨c0, c1, c2⟩, f0, f1, f2⟩ := three_facts hz4
          clear hbody hfl hown4 hz4
          go_wp2_with fail
          refine (specRespText_any nn _ body l.length _ l _ (FieldsV.of_owns HOW.out) (by omega) HWF.out (by unfold maxLen; omega)).mono ?_
          rintro e w7 ⟨t, rfl, ht1, ht2, bb7⟩
          have hz7 : w7.heap[r]? = some (.cells #[.int .i64 nn, .slice fo l.length fc, .string body] 38) := by rw [bb7.block r hr4]; exact HZ4.out
          have hb7 : Below (w.alloc (.cells #[.int .i64 0, .slice none 0 0, .string ⟨#[]⟩] 38)).heap.size (w.alloc (.cells #[.int .i64 0, .slice none 0 0, .string ⟨#[]⟩] 38)) w7 := HBr.out.trans (bb7.mono HBr.out.size)
          clear c0 c1 c2 f0 f1 f2
          obtain ⟨⟨c0, c1, c2⟩, f0, f1, f2⟩ := three_facts hz7
          by_cases hts : t = s
          · have ht := (text_beq _ _).2 hts
            have HRP : Hid (RespP nn l body) := Classical.byContradiction (fun hn => by
              have h0 := ht2 hn
              rw [hts] at h0
              have hh := HH.out
              rw [h0] at hh
              simp [bs, headL] at hh)
            have HIS : Hid (IsResp s nn l body) := ⟨HRP.out, by rw [← ht1 HRP.out]; exact hts⟩
            have hR2 : R < wN.heap.size := (Array.getElem?_eq_some_iff.1 (HZ.out wN (HB2.out.trans (bbN.mono HB2.out.size))).1).1
            obtain ⟨z, hbz⟩ := HZ.out w7 hb7
            obtain ⟨⟨e0, e1, e2⟩, g0, g1, g2'⟩ := three_facts z
            obtain ⟨⟨k0, k1, k2⟩, _⟩ := three_facts (three_set z (.int .i64 nn) (.slice fo l.length fc) (.string body))
            have HB4 : Hid (Below w.heap.size w (threeSet w7 R (.int .i64 nn) (.slice fo l.length fc) (.string body))) := below_three hbz hRw
            have hgR : w7.grownBy (threeSet w7 R (.int .i64 nn) (.slice fo l.length fc) (.string body)) (some R) := by
              unfold threeSet
              exact grown_then (grown_then (grown_set _ _ _ _) (grown_set _ _ _ _)) (grown_set _ _ _ _)
            have how7 := owns_below HOW.out bb7 (fun g hg => owns_lt HOW.out hg)
            have hww : w.heap.size ≤ wN.heap.size := Nat.le_trans hZs (Nat.le_trans HB2.out.size bbN.size)
            have HOWF : Hid ((threeSet w7 R (.int .i64 nn) (.slice fo l.length fc) (.string body)).ownsRow w.heap.size 87 2 (.slice fo l.length fc) l.length (flatF l)) := by
              have h6 := how7.kept hgR (by cases h : (Value.slice fo l.length fc).ownBlock <;> simp; exact fun e => by have h7 := owns_ge how7 h; omega)
              refine ⟨h6.1, ?_⟩
              rcases h6.2 with h9 | ⟨g6, cap6, cur6, h7, h8, h9⟩
              · exact .inl h9
              · exact .inr ⟨g6, cap6, cur6, h7, by omega, h9⟩
            unfold threeSet at k0 k1 k2
            clear z hbz HZ hgR how7 ht1 ht2 hts bb7 hb7 hz7
            go_wp2_with fail
            exact bodyPost_ret (v := .tuple #[.agg #[.int .i64 nn, .slice fo l.length fc, .string body], .bool true]) (by simp [results, Tryd.results21, go_sem, k0, k1, k2]) rfl (.inl ⟨nn, l, body, _, rfl, HIS.out, HOWF.out, HB4.out⟩)
          · have ht := text_beq_no hts
            have HNO : Hid (∀ m fs b, ¬ IsResp s m fs b) := fun m fs b h => by
              have hpt : Parts s xs k [wa, wp, wc] l := ⟨HH.out, HN0.out, by
                have : xs.headD ⟨#[]⟩ = x0 := by
                  rw [HX.out]
                  cases xs with
                  | nil => exact absurd rfl HN0.out
                  | cons y q => rfl
                rw [this]; exact HWD.out, HL4.out⟩
              obtain ⟨x8, x9, e1, e2, e3⟩ := h.parts hpt
              simp only [List.cons.injEq] at e1
              obtain ⟨_, e5, _⟩ := e1
              have hm := h.1.1
              have hok : NumOk wp := by rw [e5]; exact num_ok _ (by omega)
              have hmm : nn = m := by
                rw [HN1.out.2 (HN1.out.1.2 hok), e5]
                show ((valL (numL m.toNat) : Nat) : Int) = m
                rw [numL_val _ (by omega)]; omega
              have hbb : body = b := by rw [HBODY.out]; exact e3
              subst hmm hbb e2
              exact hts ((ht1 h.1).trans h.2)
            obtain ⟨z, hbz⟩ := HZ.out w7 hb7
            obtain ⟨⟨e0, e1, e2⟩, g0, g1, g2'⟩ := three_facts z
            obtain ⟨⟨k0, k1, k2⟩, _⟩ := three_facts (three_set z (.int .i64 0) (.slice none 0 0) (.string ⟨#[]⟩))
            have HB4 : Hid (Below w.heap.size w (threeSet w7 R (.int .i64 0) (.slice none 0 0) (.string ⟨#[]⟩))) := below_three hbz hRw
            unfold threeSet at k0 k1 k2
            clear z hbz HZ ht1 ht2 hts bb7 hb7 hz7
            go_wp2_with fail
            exact bodyPost_ret (v := .tuple #[.agg #[.int .i64 0, .slice none 0 0, .string ⟨#[]⟩], .bool false]) (by simp [results, Tryd.results21, go_sem, k0, k1, k2]) rfl (.inr ⟨rfl, HNO.out, HB4.out⟩)
        · go_simp
          refine hK.out _ _ trivial (fun hHeld3 => ?_)
          clear hK K hHeld
          refine wpAnyH_ready (rs := [3]) (by kernel_rfl) (by simp) ?_
          refine AllReadyH.cons rfl (fun K hK => ?_) AllReadyH.nil
          go_simp
          refine (l3Fields_any (some aT) (nx - 1) (cp - 1) xs.tail _ (HTX.out _ (bbN.trans ((((Below.refl wN.heap.size wN).alloc (Nat.le_refl _) (.cells #[.int .i64 0, .slice none 0 0, .string ⟨#[]⟩] 38)).drew).mono bbN.size))) (by omega) HSZ.out).mono ?_
          rintro e w3 ⟨fv, l, rfl, hownf, hll, bb3, hfl⟩
          obtain ⟨fo, fc, rfl⟩ := slice_of_owns hownf
          have hb3 : Below wN.heap.size wN w3 := (((Below.refl wN.heap.size wN).alloc (Nat.le_refl _) (.cells #[.int .i64 0, .slice none 0 0, .string ⟨#[]⟩] 38)).drew).trans (bb3.mono (((Below.refl wN.heap.size wN).alloc (Nat.le_refl _) (.cells #[.int .i64 0, .slice none 0 0, .string ⟨#[]⟩] 38)).drew).size)
          refine hK.out _ _ trivial (fun hHeld4 => ?_)
          clear hK K hHeld3
          refine wpAnyH_take (i := 7) (v := .agg #[.int .i64 nn, .slice fo l.length fc, .string (s.extract k s.size)]) rfl (by kernel_rfl) (by kernel_rfl) (by kernel_rfl) (fun _ _ _ h => h) (Or.inl ⟨by rfl, by intro W hSW; (try dsimp only at hSW); go_simp⟩) (by assumption) ?_
          have z3 : w3.heap[wN.heap.size]? = some (.cells #[.int .i64 0, .slice none 0 0, .string ⟨#[]⟩] 38) := by
            rw [bb3.block _ (by simp)]; exact heap_alloc_new wN _
          obtain ⟨⟨y0, y1, y2⟩, v0, v1, v2⟩ := three_facts z3
          refine wpAnyH_ready (rs := [9]) (by kernel_rfl) (by simp) ?_
          refine AllReadyH.cons rfl (fun K hK => ?_) AllReadyH.nil
          clear z3
          go_simp
          have z3 : w3.heap[wN.heap.size]? = some (.cells #[.int .i64 0, .slice none 0 0, .string ⟨#[]⟩] 38) := by
            rw [bb3.block _ (by simp)]; exact heap_alloc_new wN _
          refine hK.out _ _ trivial (fun hHeld5 => ?_)
          clear hK K hHeld4
          refine wpAnyH_done (by kernel_rfl) ?_ _
          clear hHeld5
          obtain ⟨r, hr⟩ : ∃ r, r = wN.heap.size := ⟨_, rfl⟩
          rw [← hr] at z3 ⊢
          have hz4 := three_set z3 (.int .i64 nn) (.slice fo l.length fc) (.string (s.extract k s.size))
          obtain ⟨w4, hw4⟩ : ∃ W, W = threeSet w3 r (.int .i64 nn) (.slice fo l.length fc) (.string (s.extract k s.size)) := ⟨_, rfl⟩
          rw [← hw4] at hz4
          have hg34 : w3.grownBy w4 (some r) := by
            rw [hw4]; unfold threeSet
            exact grown_then (grown_then (grown_set _ _ _ _) (grown_set _ _ _ _)) (grown_set _ _ _ _)
          have hb4 : Below wN.heap.size wN w4 := by rw [hw4]; exact below_three hb3 (by omega)
          have hr4 : r < w4.heap.size := (Array.getElem?_eq_some_iff.1 hz4).1
          have hown4 : w4.ownsRow wN.heap.size 87 2 (.slice fo l.length fc) l.length (flatF l) := by
            have h5 : w3.ownsRow wN.heap.size 87 2 (.slice fo l.length fc) l.length (flatF l) := by
              refine ⟨hownf.1, ?_⟩
              rcases hownf.2 with h6 | ⟨g6, cap6, cur6, h7, h8, h9⟩
              · exact .inl h6
              · exact .inr ⟨g6, cap6, cur6, h7, by simp at h8; omega, h9⟩
            exact h5.kept hg34 (by cases h : (Value.slice fo l.length fc).ownBlock <;> simp; exact fun e => by have h7 := owns_ge hownf h; simp at h7; omega)
          unfold threeSet at hw4
          rw [← hw4]
          clear hr hw4 hg34 hownf bb3 hb3 HTX HSZ hA z3 y0 y1 y2 v0 v1 v2
          obtain ⟨body, hbody⟩ : ∃ y, y = s.extract k s.size := ⟨_, rfl⟩
          rw [← hbody] at hz4 ⊢
          have HBODY : Hid (body = s.extract k s.size) := hbody
          have HL4 : Hid (fieldsL (xs.tail.map bs) = l.map bsP) := hfl
          have HOW : Hid (w4.ownsRow wN.heap.size 87 2 (.slice fo l.length fc) l.length (flatF l)) := hown4
          have HWF : Hid (WalkF l.length l) := walk_fields HH.out HL4.out (by unfold maxLen; omega)
          have hbs : body.size ≤ s.size := by rw [HBODY.out]; simp
          have HBr : Hid (Below (w.alloc (.cells #[.int .i64 0, .slice none 0 0, .string ⟨#[]⟩] 38)).heap.size (w.alloc (.cells #[.int .i64 0, .slice none 0 0, .string ⟨#[]⟩] 38)) w4) := (HB2.out.trans (bbN.mono HB2.out.size)).trans (hb4.mono (Nat.le_trans HB2.out.size bbN.size))
          have hll2 : l.length ≤ 1048576 := by simp at hll; omega
          have HZ4 : Hid (w4.heap[r]? = some (.cells #[.int .i64 nn, .slice fo l.length fc, .string body] 38)) := hz4
          obtain ⟨⟨c0, c1, c2⟩, f0, f1, f2⟩ := three_facts hz4
          clear hbody hfl hown4 hz4
          go_wp2_with fail
          refine (specRespText_any nn _ body l.length _ l _ (FieldsV.of_owns HOW.out) (by omega) HWF.out (by unfold maxLen; omega)).mono ?_
          rintro e w7 ⟨t, rfl, ht1, ht2, bb7⟩
          have hz7 : w7.heap[r]? = some (.cells #[.int .i64 nn, .slice fo l.length fc, .string body] 38) := by rw [bb7.block r hr4]; exact HZ4.out
          have hb7 : Below (w.alloc (.cells #[.int .i64 0, .slice none 0 0, .string ⟨#[]⟩] 38)).heap.size (w.alloc (.cells #[.int .i64 0, .slice none 0 0, .string ⟨#[]⟩] 38)) w7 := HBr.out.trans (bb7.mono HBr.out.size)
          clear c0 c1 c2 f0 f1 f2
          obtain ⟨⟨c0, c1, c2⟩, f0, f1, f2⟩ := three_facts hz7
          by_cases hts : t = s
          · have ht := (text_beq _ _).2 hts
            have HRP : Hid (RespP nn l body) := Classical.byContradiction (fun hn => by
              have h0 := ht2 hn
              rw [hts] at h0
              have hh := HH.out
              rw [h0] at hh
              simp [bs, headL] at hh)
            have HIS : Hid (IsResp s nn l body) := ⟨HRP.out, by rw [← ht1 HRP.out]; exact hts⟩
            have hR2 : R < wN.heap.size := (Array.getElem?_eq_some_iff.1 (HZ.out wN (HB2.out.trans (bbN.mono HB2.out.size))).1).1
            obtain ⟨z, hbz⟩ := HZ.out w7 hb7
            obtain ⟨⟨e0, e1, e2⟩, g0, g1, g2'⟩ := three_facts z
            obtain ⟨⟨k0, k1, k2⟩, _⟩ := three_facts (three_set z (.int .i64 nn) (.slice fo l.length fc) (.string body))
            have HB4 : Hid (Below w.heap.size w (threeSet w7 R (.int .i64 nn) (.slice fo l.length fc) (.string body))) := below_three hbz hRw
            have hgR : w7.grownBy (threeSet w7 R (.int .i64 nn) (.slice fo l.length fc) (.string body)) (some R) := by
              unfold threeSet
              exact grown_then (grown_then (grown_set _ _ _ _) (grown_set _ _ _ _)) (grown_set _ _ _ _)
            have how7 := owns_below HOW.out bb7 (fun g hg => owns_lt HOW.out hg)
            have hww : w.heap.size ≤ wN.heap.size := Nat.le_trans hZs (Nat.le_trans HB2.out.size bbN.size)
            have HOWF : Hid ((threeSet w7 R (.int .i64 nn) (.slice fo l.length fc) (.string body)).ownsRow w.heap.size 87 2 (.slice fo l.length fc) l.length (flatF l)) := by
              have h6 := how7.kept hgR (by cases h : (Value.slice fo l.length fc).ownBlock <;> simp; exact fun e => by have h7 := owns_ge how7 h; omega)
              refine ⟨h6.1, ?_⟩
              rcases h6.2 with h9 | ⟨g6, cap6, cur6, h7, h8, h9⟩
              · exact .inl h9
              · exact .inr ⟨g6, cap6, cur6, h7, by omega, h9⟩
            unfold threeSet at k0 k1 k2
            clear z hbz HZ hgR how7 ht1 ht2 hts bb7 hb7 hz7
            go_wp2_with fail
            exact bodyPost_ret (v := .tuple #[.agg #[.int .i64 nn, .slice fo l.length fc, .string body], .bool true]) (by simp [results, Tryd.results21, go_sem, k0, k1, k2]) rfl (.inl ⟨nn, l, body, _, rfl, HIS.out, HOWF.out, HB4.out⟩)
          · have ht := text_beq_no hts
            have HNO : Hid (∀ m fs b, ¬ IsResp s m fs b) := fun m fs b h => by
              have hpt : Parts s xs k [wa, wp, wc] l := ⟨HH.out, HN0.out, by
                have : xs.headD ⟨#[]⟩ = x0 := by
                  rw [HX.out]
                  cases xs with
                  | nil => exact absurd rfl HN0.out
                  | cons y q => rfl
                rw [this]; exact HWD.out, HL4.out⟩
              obtain ⟨x8, x9, e1, e2, e3⟩ := h.parts hpt
              simp only [List.cons.injEq] at e1
              obtain ⟨_, e5, _⟩ := e1
              have hm := h.1.1
              have hok : NumOk wp := by rw [e5]; exact num_ok _ (by omega)
              have hmm : nn = m := by
                rw [HN1.out.2 (HN1.out.1.2 hok), e5]
                show ((valL (numL m.toNat) : Nat) : Int) = m
                rw [numL_val _ (by omega)]; omega
              have hbb : body = b := by rw [HBODY.out]; exact e3
              subst hmm hbb e2
              exact hts ((ht1 h.1).trans h.2)
            obtain ⟨z, hbz⟩ := HZ.out w7 hb7
            obtain ⟨⟨e0, e1, e2⟩, g0, g1, g2'⟩ := three_facts z
            obtain ⟨⟨k0, k1, k2⟩, _⟩ := three_facts (three_set z (.int .i64 0) (.slice none 0 0) (.string ⟨#[]⟩))
            have HB4 : Hid (Below w.heap.size w (threeSet w7 R (.int .i64 0) (.slice none 0 0) (.string ⟨#[]⟩))) := below_three hbz hRw
            unfold threeSet at k0 k1 k2
            clear z hbz HZ ht1 ht2 hts bb7 hb7 hz7
            go_wp2_with fail
            exact bodyPost_ret (v := .tuple #[.agg #[.int .i64 0, .slice none 0 0, .string ⟨#[]⟩], .bool false]) (by simp [results, Tryd.results21, go_sem, k0, k1, k2]) rfl (.inr ⟨rfl, HNO.out, HB4.out⟩)
      · have hne3 : ((ws.length : Int) != 3) = true := by rw [bne_iff_ne]; omega
        obtain ⟨oa, cp2, rfl⟩ : ∃ oa cp, wv = .slice oa ws.length cp := by
          obtain ⟨oa, cp, h1, h2, _⟩ | ⟨g, cp, h1, _⟩ := row_form hownw
          · exact ⟨oa, cp, by rw [h1, h2]⟩
          · exact ⟨_, cp, h1⟩
        obtain ⟨z, hbz⟩ := HZ.out w2 hb2
        obtain ⟨⟨c0, c1, c2⟩, f0, f1, f2⟩ := three_facts z
        obtain ⟨⟨k0, k1, k2⟩, _⟩ := three_facts (three_set z (.int .i64 0) (.slice none 0 0) (.string ⟨#[]⟩))
        have HB4 : Hid (Below w.heap.size w (threeSet w2 R (.int .i64 0) (.slice none 0 0) (.string ⟨#[]⟩))) := below_three hbz hRw
        have HNO : Hid (∀ m fs b, ¬ IsResp s m fs b) := fun m fs b h => by
                  have e := HH.out.symm.trans (resp_head h)
                  have hwd := HWD.out
                  have hx := HX.out
                  have hx0 := HN0.out
                  cases xs with
                  | nil => exact absurd rfl hx0
                  | cons y r =>
                    simp only [List.map_cons, Prod.mk.injEq, List.cons.injEq] at e
                    have : x0 = y := hx
                    rw [this, e.1.1, resp_words h.1.1] at hwd
                    have := congrArg List.length hwd
                    simp at this; omega
        unfold threeSet at k0 k1 k2
        clear z hbz HZ HH hownw bb2 HB1 HROW1 HWD HX HN0 HNX
        go_wp2_with fail
        exact bodyPost_ret (v := .tuple #[.agg #[.int .i64 0, .slice none 0 0, .string ⟨#[]⟩], .bool false]) (by simp [results, Tryd.results21, go_sem, k0, k1, k2]) rfl (.inr ⟨rfl, HNO.out, HB4.out⟩)

end Go.Proofs.YtjocljdifmlghaaDoor
