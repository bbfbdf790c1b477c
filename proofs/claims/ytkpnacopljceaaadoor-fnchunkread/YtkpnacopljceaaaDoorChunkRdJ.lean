/- 'length', 'part', 'parts' of the program's reader of parts: contracts over the translation. -/
import Derived.Test.YtkpnacopljceaaaDoorChunkRdI
import Derived.Lib.BufferOwn
namespace Go.Proofs.YtkpnacopljceaaaDoor
open Go.RowKit
open Go.Lib hiding intOf

theorem DbOk.grown {w w' : World} {b : Nat} (h : DbOk w) (hg : w.grownBy w' (some b)) (hb : 3 ≠ b) : DbOk w' := by
  unfold DbOk at h ⊢
  rw [World.cell?_of_block (hg.block _ (DbOk.lt h) (fun e => hb (Option.some.inj e)))]
  exact h
theorem CRd.later {w w' : World} {b : Nat} {left : ByteArray} {v : Value} (h : CRd w b left v) (hb : Below w.heap.size w w') : CRd w' b left v := by
  have := h.lt
  unfold CRd at h ⊢
  rw [hb.block b this]
  exact h
theorem empty_is (s : ByteArray) (h : s.size = 0) : s.toList.isEmpty = true := by
  rw [ByteArray.toList_eq, List.isEmpty_iff, ← List.length_eq_zero_iff]
  exact h
theorem empty_no (s : ByteArray) (h : s.size ≠ 0) : s.toList.isEmpty = false := by
  rw [ByteArray.toList_eq, List.isEmpty_eq_false_iff]
  intro e
  exact h (List.length_eq_zero_iff.2 e)
theorem digs_bs (left : ByteArray) (k : Nat) : bs (left.extract 0 k) = (bs left).take k := by
  rw [bs_extract, List.drop_zero]
theorem hexT_bs (n : Nat) : bs (hexT n) = hexL n := rfl

set_option maxHeartbeats 4000000 in
set_option maxRecDepth 100000 in
theorem clen_any (b : Nat) (left : ByteArray) (v : Value) (w : World) (h : CRd w b left v) (hs : left.size ≤ 2000000) (hd : DbOk w) (hb3 : 3 ≠ b) :
    Calls Tryd.prog 50 #[.pointer (some ⟨b, 0, none⟩)] w fun e w' =>
      (lenC (bs left) = 0 ∧ e = .returned (.int .i64 (lenN (bs left) : Int)) ∧ CRd w' b (left.extract (lenK (bs left) + 2) left.size) v ∧ w.grownBy w' (some b)) ∨ (lenC (bs left) ≠ 0 ∧ RefIs (lenC (bs left)) e ∧ w.grownBy w' (some b)) := by
  have hc := h.cell
  by_cases h0 : left.size = 0
  · have he := empty_is left h0
    have HE : Hid (lenC (bs left) = 1) := by
      show _ = _
      have : bs left = [] := List.length_eq_zero_iff.1 (by rw [bs_len]; exact h0)
      rw [this]
      decide
    clear h h0 hs hd
    go_enter Tryd.func50, Tryd.ntmps50
    go_wp2_with fail
    refine ⟨rfl, .inr ⟨by rw [HE.out]; decide, by rw [HE.out]; rfl, ⟨rfl, rfl, rfl, Nat.le_refl _, fun _ _ _ => rfl⟩⟩⟩
  · have he := empty_no left h0
    have hne : bs left ≠ [] := fun e => h0 (by rw [← bs_len, e]; rfl)
    obtain ⟨k, hk⟩ : ∃ k, k = digN 4 (bs left) := ⟨_, rfl⟩
    have hk4 := digN_le 4 (bs left)
    rw [← hk, bs_len] at hk4
    have hhx := digN_hex 4 (bs left)
    have hfour := lenC_four (bs left) hne
    rw [← hk] at hhx hfour
    have HC1 : Hid (Calls Tryd.prog 57 #[.pointer (some ⟨b, 0, none⟩)] w fun e w' => e = .returned (.string (left.extract 0 k)) ∧ w' = w.setCell ⟨b, 0, none⟩ (.string (left.extract k left.size))) := by
      have := cdigits_any b left v w h hs
      rw [← hk] at this
      exact this
    have HR1 : Hid (CRd (w.setCell ⟨b, 0, none⟩ (.string (left.extract k left.size))) b (left.extract k left.size) v) := h.put _
    have HG1 : Hid (w.grownBy (w.setCell ⟨b, 0, none⟩ (.string (left.extract k left.size))) (some b)) := grown_set _ _ _ _
    have HD1 : Hid (DbOk (w.setCell ⟨b, 0, none⟩ (.string (left.extract k left.size)))) := hd.grown (grown_set _ _ _ _) hb3
    have HF : Hid ((hexL (hexVal ((bs left).take k)) ≠ (bs left).take k → lenC (bs left) = 2) ∧ (hexL (hexVal ((bs left).take k)) = (bs left).take k → lenC (bs left) = lineC ((bs left).drop k) ∧ (lenC (bs left) = 0 → lenN (bs left) = hexVal ((bs left).take k) ∧ lenK (bs left) = k))) := hfour
    have HX : Hid (∀ c ∈ (bs left).take k, HexB c) := hhx
    obtain ⟨ds, hds⟩ : ∃ ds, ds = left.extract 0 k := ⟨_, rfl⟩
    have HDS : Hid (bs ds = (bs left).take k) := by show _ = _; rw [hds, digs_bs]
    have hdz : ds.size = k := by rw [hds, ByteArray.size_extract]; omega
    rw [← hds] at HC1
    clear hfour hhx hk hne h0 hds
    go_enter Tryd.func50, Tryd.ntmps50
    go_wp2_with fail
    refine HC1.out.mono ?_
    rintro e w1 ⟨rfl, hw1⟩
    rw [← hw1] at HR1 HG1 HD1
    clear hw1 HC1 hc h hd
    go_wp2_with fail
    go_loopw [4] (fun a wr => ∃ x pos : Nat, pos ≤ ds.size ∧ a = .int .i64 (x : Int) ∧ x < 65536 ∧ wr.heap[w1.heap.size]? = some (.stringIter ds pos) ∧ Below w1.heap.size w1 wr ∧ Hid (x = hexVal ((bs ds).take pos))) (fun _ wr => ds.size - wr.iterPos w1.heap.size)
    case atStart => exact ⟨0, 0, Nat.zero_le _, rfl, by omega, World.iter_heap _ _ _, (Below.refl _ _).alloc (Nat.le_refl _) _, by show 0 = hexVal _; simp [hexVal]⟩
    case round =>
      obtain ⟨x, pos, hpos, rfl, hx, hh, hbw, HV⟩ := hrel
      by_cases hlt : pos < ds.size
      · have hhex : HexB (ds[pos]'hlt) := HX.out _ (by
          have h2 : pos < (bs ds).length := by rw [bs_len]; exact hlt
          have h3 := List.getElem_mem h2
          rw [bs_at ds pos hlt] at h3
          rw [← HDS.out]
          exact h3)
        have hnx := fun ty => run_next_ascii_at (P := Tryd.prog) wr w1.heap.size ds pos ty hh hlt (by unfold HexB at hhex; omega)
        have HC : Hid (∀ W, Calls Tryd.prog 58 #[.string ⟨#[48, 49, 50, 51, 52, 53, 54, 55, 56, 57, 97, 98, 99, 100, 101, 102]⟩, .int .i32 ((ds[pos]'hlt).toNat : Int)] W fun e w' => e = .returned (.int .i64 (hexV (ds[pos]'hlt) : Int)) ∧ w' = W) := fun W => hexRune_yes _ W hhex
        have hv16 := hexV_lt hhex
        have HN : Hid (x * 16 + hexV (ds[pos]'hlt) = hexVal ((bs ds).take (pos + 1))) := by
          show _ = _
          rw [List.take_succ_eq_append_getElem (by rw [bs_len]; exact hlt), hexVal_snoc, ← HV.out, bs_at ds pos hlt]
          omega
        have hxn : x * 16 + hexV (ds[pos]'hlt) < 65536 := by
          rw [HN.out]
          have := hexVal_lt 4 ((bs ds).take (pos + 1)) (by rw [List.length_take, bs_len]; omega) (fun c hc => HX.out c (by rw [← HDS.out]; exact List.mem_of_mem_take hc))
          omega
        have HXN : Hid (x * 16 + hexV (ds[pos]'hlt) < 65536) := hxn
        have HH : Hid (∀ W, W = wr.iterAt w1.heap.size ds (pos + 1) → W.heap[w1.heap.size]? = some (.stringIter ds (pos + 1)) ∧ Below w1.heap.size w1 W) := fun W e => by
          subst e
          exact iter_step hh hbw (Below.refl _ _)
        have HH0 : Hid (wr.heap[w1.heap.size]? = some (.stringIter ds pos)) := hh
        clear hhex hxn HR1 HG1 HD1
        go_wp2_with (go_at_call 58; refine (HC.out _).mono ?_; rintro e w2 ⟨rfl, hw2⟩)
        obtain ⟨p1, p2⟩ := HH.out _ rfl
        exact ⟨⟨x * 16 + hexV (ds[pos]'hlt), pos + 1, by omega, by go_num, HXN.out, p1, p2, HN⟩, by rw [iterPos_of p1, iterPos_of HH0.out]; omega⟩
      · have hnx := fun ty => run_next_end_at (P := Tryd.prog) wr w1.heap.size ds pos ty hh hlt
        have hpe : pos = ds.size := by omega
        have HX2 : Hid (x = hexVal ((bs left).take k)) := by
          show _ = _
          rw [HV.out, List.take_of_length_le (by rw [bs_len]; omega), HDS.out]
        have HG2 : Hid (w.grownBy wr (some b)) := grownBy_below HG1.out hbw
        have HR2 : Hid (CRd wr b (left.extract k left.size) v) := HR1.out.later hbw
        have hd2 : DbOk wr := HD1.out.below hbw HD1.out.lt
        clear hh hbw HV HR1 HG1 HD1 hpe hpos
        go_wp2_with fail
        refine (implHex_any (x : Int) _ hd2).mono ?_
        rintro e w2 ⟨rfl, b2⟩
        have HHT : Hid (hexTI (x : Int) = hexT x) := by show _ = _; unfold hexTI; rw [if_neg (by omega)]; rfl
        rw [HHT.out]
        have HG3 : Hid (w.grownBy w2 (some b)) := grownBy_below HG2.out b2
        have HR3 : Hid (CRd w2 b (left.extract k left.size) v) := HR2.out.later b2
        clear b2 hd2 HG2 HR2 HHT
        by_cases heq : hexT x = ds
        · have HEQ : Hid (lenC (bs left) = lineC ((bs left).drop k) ∧ (lenC (bs left) = 0 → lenN (bs left) = hexVal ((bs left).take k) ∧ lenK (bs left) = k)) := HF.out.2 (by rw [← HX2.out, ← HDS.out, ← hexT_bs, heq])
          have ht : ((hexT x).toList == ds.toList) = true := by rw [heq]; simp
          have HLB : Hid (bs (left.extract k left.size) = (bs left).drop k) := by
            show _ = _
            rw [bs_extract, List.take_of_length_le (by rw [bs_len]; exact Nat.le_refl _)]
          clear heq HF HX
          by_cases hl : lineC (bs (left.extract k left.size)) = 0
          · have HCC : Hid (Calls Tryd.prog 52 #[.pointer (some ⟨b, 0, none⟩), .string ⟨#[13, 10]⟩] w2 fun e w' => e = .returned (.tuple #[]) ∧ w' = w2.setCell ⟨b, 0, none⟩ (.string ((left.extract k left.size).extract 2 (left.extract k left.size).size))) := cpass_ok b _ v w2 HR3.out hl
            have HFIN : Hid (CRd (w2.setCell ⟨b, 0, none⟩ (.string ((left.extract k left.size).extract 2 (left.extract k left.size).size))) b ((left.extract k left.size).extract 2 (left.extract k left.size).size) v ∧ w.grownBy (w2.setCell ⟨b, 0, none⟩ (.string ((left.extract k left.size).extract 2 (left.extract k left.size).size))) (some b)) := ⟨HR3.out.put _, grown_then HG3.out (grown_set _ _ _ _)⟩
            have HC0 : Hid (lenC (bs left) = 0) := by show _ = _; rw [HEQ.out.1, ← HLB.out]; exact hl
            have HLL : Hid ((left.extract k left.size).extract 2 (left.extract k left.size).size = left.extract (lenK (bs left) + 2) left.size) := by
              show _ = _
              apply bs_inj
              rw [(HEQ.out.2 HC0.out).2]
              rw [bs_extract, List.take_of_length_le (by rw [bs_len]; exact Nat.le_refl _), bs_extract, bs_extract, List.take_of_length_le (by rw [bs_len]; exact Nat.le_refl _), List.drop_drop]
            rw [HLL.out] at HCC HFIN
            clear hl HR3 HG3 hnx
            go_wp2_with (go_at_call 52; refine HCC.out.mono ?_; rintro e w3 ⟨rfl, hw3⟩)
            go_ret
            refine .inl ⟨HC0.out, by rw [(HEQ.out.2 HC0.out).1, ← HX2.out]; rfl, ?_⟩
            exact HFIN.out
          · have HCC : Hid (Calls Tryd.prog 52 #[.pointer (some ⟨b, 0, none⟩), .string ⟨#[13, 10]⟩] w2 fun e w' => RefIs (lineC (bs (left.extract k left.size))) e ∧ w' = w2) := cpass_no b _ v w2 HR3.out hl
            have HCN : Hid (lenC (bs left) = lineC (bs (left.extract k left.size))) := by show _ = _; rw [HEQ.out.1, HLB.out]
            rw [← HCN.out] at HCC
            have HCL : Hid (lenC (bs left) ≠ 0) := by show _ ≠ _; rw [HCN.out]; exact hl
            clear hl HR3 hnx
            obtain ⟨c, hc⟩ : ∃ c, c = lenC (bs left) := ⟨_, rfl⟩
            rw [← hc] at HCC HCL
            have HCE : Hid (lenC (bs left) = c) := hc.symm
            clear hc
            go_wp2_with (go_at_call 52; refine HCC.out.mono ?_; rintro e w3 ⟨hr3, rfl⟩; unfold RefIs at hr3; subst hr3)
            exact ⟨rfl, .inr ⟨by rw [HCE.out]; exact HCL.out, by rw [HCE.out]; rfl, HG3.out⟩⟩
        · have HE : Hid (lenC (bs left) = 2) := HF.out.1 (fun e => heq (bs_inj (by rw [hexT_bs, HDS.out, HX2.out, e])))
          have ht : ((hexT x).toList == ds.toList) = false := by
            rw [beq_eq_false_iff_ne]
            intro e
            apply heq
            rw [ByteArray.toList_eq, ByteArray.toList_eq] at e
            exact bs_inj e
          clear heq HF HX hnx
          go_wp2_with fail
          exact ⟨rfl, .inr ⟨by rw [HE.out]; decide, by rw [HE.out]; rfl, HG3.out⟩⟩

theorem bs_from (s : ByteArray) (k : Nat) : bs (s.extract k s.size) = (bs s).drop k := by
  rw [bs_extract, List.take_of_length_le (by rw [bs_len]; exact Nat.le_refl _)]
/-- What a part's reading does: it panics with its code, or tells how many bytes the part has. -/
def PartIs (B b : Nat) (left body : ByteArray) (w : World) (e : Ending) (w' : World) : Prop :=
  Below B w w' ∧ ((∃ c, RefIs c e ∧ ∀ pos, Rd (bs left) (bs body) pos (bs ⟨#[]⟩, 0, c)) ∨
    (∃ (N K : Nat) (v' : Value) (left' body' : ByteArray), e = .returned (.int .i64 (N : Int)) ∧ CRs w' B b left' body' v' ∧ body'.size ≤ 120 ∧ left'.size + (K + N + 4) = left.size ∧
      (N ≠ 0 → ∀ pos x, Rd (bs left') (bs body') (pos + K + N + 4) x → Rd (bs left) (bs body) pos x) ∧ (N = 0 → ∀ pos, Rd (bs left) (bs body) pos (bs body', pos + K + 4, 0))))
set_option maxHeartbeats 4000000 in
set_option maxRecDepth 100000 in
theorem cpart_any (B b : Nat) (left body : ByteArray) (v : Value) (w : World) (h : CRs w B b left body v) (hs : left.size ≤ 2000000) (hb : body.size ≤ 120) (hd : DbOk w) (hB3 : 3 < B) :
    Calls Tryd.prog 44 #[.pointer (some ⟨b, 0, none⟩)] w fun e w' => PartIs B b left body w e w' := by
  have hlen := clen_any b left v w h.rd hs hd (by have := h.hB; omega)
  obtain ⟨oa, cp, hv⟩ := own_form h.own
  by_cases hc0 : lenC (bs left) = 0
  · have HC1 : Hid (Calls Tryd.prog 50 #[.pointer (some ⟨b, 0, none⟩)] w fun e w' => e = .returned (.int .i64 (lenN (bs left) : Int)) ∧ CRd w' b (left.extract (lenK (bs left) + 2) left.size) v ∧ w.grownBy w' (some b)) := hlen.mono (by
      rintro e w' (⟨-, h1, h2, h3⟩ | ⟨h1, -⟩)
      · exact ⟨h1, h2, h3⟩
      · exact absurd hc0 h1)
    have HC0 : Hid (lenC (bs left) = 0) := hc0
    have hA := rdA_len hc0
    rw [bs_len] at hA
    obtain ⟨K, hK⟩ : ∃ K, K = lenK (bs left) := ⟨_, rfl⟩
    obtain ⟨N, hN⟩ : ∃ N, N = lenN (bs left) := ⟨_, rfl⟩
    have HK : Hid (lenK (bs left) = K) := hK.symm
    have HN : Hid (lenN (bs left) = N) := hN.symm
    have hN16 : N < 65536 := by
      have h4 := (lenC_zero hc0).2.1
      have hh := digN_hex 5 (bs left)
      have := hexVal_lt 4 ((bs left).take (lenK (bs left))) (by rw [List.length_take]; omega) hh
      rw [hN]
      unfold lenN
      omega
    rw [← hK] at HC1 hA
    rw [← hN] at HC1
    obtain ⟨l1, hl1⟩ : ∃ l, l = left.extract (K + 2) left.size := ⟨_, rfl⟩
    have HA : Hid (rdA (bs left) = bs l1) := by show _ = _; rw [hl1, bs_from]; unfold rdA; rw [HK.out]
    have hl1s : l1.size = left.size - (K + 2) := by rw [hl1, ByteArray.size_extract]; omega
    have HL1S : Hid (l1.size = left.size - (K + 2)) := hl1s
    have hl1b : l1.size ≤ 2000000 := by omega
    rw [← hl1] at HC1
    have HH : Hid (CRs w B b left body v) := h
    clear hlen hc0 hK hN hl1 hl1s h hd hB3
    go_enter Tryd.func44, Tryd.ntmps44
    go_wp2_with fail
    refine HC1.out.mono ?_
    rintro e w1 ⟨rfl, hr1, hg1⟩
    have HB1 : Hid (Below B w w1) := below_grown hg1 HH.out.le HH.out.hB
    have HS1 : Hid (CRs w1 B b l1 body v) := HH.out.took hr1 hg1
    have c1 := hr1.body
    subst hv
    clear hr1 hg1 HC1
    by_cases hlong : (120 : Int) < (body.size : Int) + (N : Int)
    · have HRD : Hid (∀ pos, Rd (bs left) (bs body) pos (bs ⟨#[]⟩, 0, 3)) := fun pos => Rd.long HC0.out (by rw [HN.out, bs_len]; omega)
      go_wp2_with fail
      exact ⟨rfl, HB1.out, .inl ⟨3, rfl, HRD.out⟩⟩
    · by_cases hsh : l1.size < N
      · have HRD : Hid (∀ pos, Rd (bs left) (bs body) pos (bs ⟨#[]⟩, 0, 1)) := fun pos => Rd.short HC0.out (by rw [HN.out, bs_len]; omega) (by rw [HN.out, HA.out, bs_len]; omega)
        have HC2 : Hid (∀ W, W = w1 → Calls Tryd.prog 51 #[.pointer (some ⟨b, 0, none⟩), .int .i64 (N : Int)] W fun e w' => RefIs 1 e ∧ w' = w1) := fun W e => by
          subst e
          refine (ctake_any B b l1 body _ N _ HS1.out hl1b (by omega)).mono ?_
          rintro e w' (⟨-, h1, h2⟩ | ⟨h1, -⟩)
          · exact ⟨h1, h2⟩
          · omega
        go_wp2_with (go_at_call 51; refine (HC2.out _ rfl).mono ?_; rintro e w2 ⟨hr2, rfl⟩; unfold RefIs at hr2; subst hr2)
        exact ⟨rfl, HB1.out, .inl ⟨1, rfl, HRD.out⟩⟩
      · have HC2 : Hid (∀ W, W = w1 → Calls Tryd.prog 51 #[.pointer (some ⟨b, 0, none⟩), .int .i64 (N : Int)] W fun e w' => e = .returned (.tuple #[]) ∧ Below B w1 w' ∧ ∃ v', CRs w' B b (l1.extract N l1.size) (body ++ l1.extract 0 N) v') := fun W e => by
          subst e
          refine (ctake_any B b l1 body _ N _ HS1.out hl1b (by omega)).mono ?_
          rintro e w' (⟨h1, -⟩ | ⟨-, h1, h2, h3⟩)
          · omega
          · exact ⟨h1, h2, h3⟩
        obtain ⟨l2, hl2⟩ : ∃ l, l = l1.extract N l1.size := ⟨_, rfl⟩
        obtain ⟨b2, hb2⟩ : ∃ l, l = body ++ l1.extract 0 N := ⟨_, rfl⟩
        have HBB : Hid (rdB (bs left) = bs l2) := by show _ = _; rw [hl2, bs_from]; unfold rdB; rw [HA.out, HN.out]
        have HB2 : Hid (bs b2 = bs body ++ (rdA (bs left)).take N) := by show _ = _; rw [hb2, bs_append, digs_bs, HA.out]
        have hl2s : l2.size = l1.size - N := by rw [hl2, ByteArray.size_extract]; omega
        have hb2s : b2.size = body.size + N := by rw [hb2, ByteArray.size_append, ByteArray.size_extract]; omega
        rw [← hl2, ← hb2] at HC2
        have HL2S : Hid (l2.size = l1.size - N) := hl2s
        have HB2S : Hid (b2.size = body.size + N) := hb2s
        clear hl2 hb2 hl2s hb2s HS1
        go_wp2_with (go_at_call 51; refine (HC2.out _ rfl).mono ?_; rintro e w2 ⟨rfl, hbw2, v2, hs2⟩)
        have HS2 : Hid (CRs w2 B b l2 b2 v2) := hs2
        have HBW2 : Hid (Below B w w2) := HB1.out.trans hbw2
        clear hs2 hbw2 HC2 HB1 c1
        by_cases hl : lineC (bs l2) = 0
        · refine (cpass_ok b l2 v2 w2 HS2.out.rd hl).mono ?_
          rintro e w3 ⟨rfl, hw3⟩
          have HS3 : Hid (CRs w3 B b (l2.extract 2 l2.size) b2 v2) := by
            show CRs _ _ _ _ _ _
            rw [hw3]
            exact HS2.out.took (HS2.out.rd.put _) (grown_set _ _ _ _)
          have HBW3 : Hid (Below B w w3) := by
            show Below _ _ _
            rw [hw3]
            exact HBW2.out.setCell (p := ⟨b, 0, none⟩) HH.out.hB _
          have HLZ : Hid (lineC (rdB (bs left)) = 0) := by show _ = _; rw [HBB.out]; exact hl
          have hl2 : 2 ≤ l2.size := by
            obtain ⟨t, ht⟩ := lineC_zero hl
            have := congrArg List.length ht
            rw [bs_len] at this
            simp at this
            omega
          have q2 : ¬ 120 < (bs body).length + lenN (bs left) := by rw [HN.out, bs_len]; omega
          have q3 : ¬ (rdA (bs left)).length < lenN (bs left) := by rw [HN.out, HA.out, bs_len]; omega
          have HQ : Hid ((N ≠ 0 → ∀ pos x, Rd (bs (l2.extract 2 l2.size)) (bs b2) (pos + K + N + 4) x → Rd (bs left) (bs body) pos x) ∧ (N = 0 → ∀ pos, Rd (bs left) (bs body) pos (bs b2, pos + K + 4, 0))) := by
            refine ⟨fun hN0 pos x hx => ?_, fun hN0 pos => ?_⟩
            · refine Rd.part HC0.out q2 q3 HLZ.out (by rw [HN.out]; exact hN0) ?_
              rw [HBB.out, HK.out, HN.out, ← HB2.out, ← bs_from]
              exact hx
            · have := Rd.fin (body := bs body) (pos := pos) HC0.out q2 q3 HLZ.out (by rw [HN.out]; exact hN0)
              rw [HK.out] at this
              rw [HB2.out, hN0]
              simpa using this
          clear hw3 hl q2 q3
          go_wp2_with fail
          go_ret
          refine ⟨HBW3.out, .inr ⟨N, K, v2, l2.extract 2 l2.size, b2, rfl, HS3.out, ?_, ?_, HQ.out.1, HQ.out.2⟩⟩
          · have := HB2S.out
            omega
          · have h1 := HL1S.out
            have h2 := HL2S.out
            rw [ByteArray.size_extract]
            omega
        · refine (cpass_no b l2 v2 w2 HS2.out.rd hl).mono ?_
          rintro e w3 ⟨hr3, rfl⟩
          have HRD : Hid (∀ pos, Rd (bs left) (bs body) pos (bs ⟨#[]⟩, 0, lineC (bs l2))) := fun pos => by
            have := Rd.line (body := bs body) (pos := pos) HC0.out (by rw [HN.out, bs_len]; omega) (by rw [HN.out, HA.out, bs_len]; omega) (by rw [HBB.out]; exact hl)
            rw [HBB.out] at this
            exact this
          unfold RefIs at hr3
          subst hr3
          exact ⟨rfl, HBW2.out, .inl ⟨_, rfl, HRD.out⟩⟩
  · have HC1 : Hid (Calls Tryd.prog 50 #[.pointer (some ⟨b, 0, none⟩)] w fun e w' => RefIs (lenC (bs left)) e ∧ w.grownBy w' (some b)) := hlen.mono (by
      rintro e w' (⟨h1, -⟩ | ⟨-, h1, h2⟩)
      · exact absurd h1 hc0
      · exact ⟨h1, h2⟩)
    have HRD : Hid (∀ pos, Rd (bs left) (bs body) pos (bs ⟨#[]⟩, 0, lenC (bs left))) := fun pos => Rd.len hc0
    have HH : Hid (CRs w B b left body v) := h
    clear hlen hc0 hv h hd
    go_enter Tryd.func44, Tryd.ntmps44
    go_wp2_with (go_at_call 50; refine HC1.out.mono ?_; rintro e w1 ⟨hr1, hg1⟩; unfold RefIs at hr1; subst hr1)
    exact ⟨rfl, below_grown hg1 HH.out.le HH.out.hB, .inl ⟨_, rfl, HRD.out⟩⟩

/-- What the parts' reading does: it panics with its code, or leaves the body read, and what is behind. -/
def PartsIs (B b : Nat) (s : ByteArray) (w : World) (e : Ending) (w' : World) : Prop :=
  Below B w w' ∧ ((∃ c, RefIs c e ∧ Rd (bs s) [] 0 (bs ⟨#[]⟩, 0, c)) ∨ (e = .returned (.tuple #[]) ∧ ∃ (left body : ByteArray) (v : Value), CRs w' B b left body v ∧ body.size ≤ 120 ∧ left.size ≤ s.size ∧ Rd (bs s) [] 0 (bs body, s.size - left.size, 0)))
def leftOf (W : World) (b : Nat) : Nat := match W.cell? ⟨b, 0, none⟩ with | some (.string x) => x.size | _ => 0
theorem CRd.leftOf {w : World} {b : Nat} {left : ByteArray} {v : Value} (h : CRd w b left v) : leftOf w b = left.size := by
  unfold Go.Proofs.YtkpnacopljceaaaDoor.leftOf
  rw [h.cell]
set_option maxHeartbeats 4000000 in
set_option maxRecDepth 100000 in
theorem cparts_any (B b : Nat) (s : ByteArray) (v : Value) (w : World) (h : CRs w B b s ⟨#[]⟩ v) (hs : s.size ≤ 2000000) (hd : DbOk w) (hB3 : 3 < B) :
    Calls Tryd.prog 31 #[.pointer (some ⟨b, 0, none⟩)] w fun e w' => PartsIs B b s w e w' := by
  have HD : Hid (∀ W, Below B w W → DbOk W) := fun W hb => hd.below hb hB3
  have H0 : Hid (CRs w B b s ⟨#[]⟩ v) := h
  clear h hd
  go_enter Tryd.func31, Tryd.ntmps31
  go_wp2_with fail
  go_loopw [3] (fun _ wr => ∃ (left body : ByteArray) (v : Value), Hid (CRs wr B b left body v) ∧ body.size ≤ 120 ∧ left.size ≤ s.size ∧ Hid (Below B w wr) ∧ Hid (∀ x, Rd (bs left) (bs body) (s.size - left.size) x → Rd (bs s) [] 0 x)) (fun _ wr => leftOf wr b)
  case atStart => exact ⟨s, ⟨#[]⟩, v, H0, by decide, Nat.le_refl _, Below.refl _ _, fun x hx => by rw [Nat.sub_self] at hx; exact hx⟩
  case round =>
    obtain ⟨left, body, v0, HS, hb, hls, HB, HU⟩ := hrel
    have HDW : Hid (DbOk wr) := HD.out wr HB.out
    have HLO : Hid (leftOf wr b = left.size) := HS.out.rd.leftOf
    go_wp2_with fail
    refine (cpart_any B b left body v0 _ HS.out (by omega) hb HDW.out hB3).mono ?_
    rintro e w1 ⟨hbw, ⟨c, hr, hrd⟩ | ⟨N, K, v1, l1, b1, rfl, hs1, hb1, hz1, hq1, hq2⟩⟩
    · unfold RefIs at hr
      subst hr
      exact ⟨rfl, HB.out.trans hbw, .inl ⟨c, rfl, HU.out _ (hrd _)⟩⟩
    · have HB1 : Hid (Below B w w1) := HB.out.trans hbw
      have HS1 : Hid (CRs w1 B b l1 b1 v1) := hs1
      have HQ : Hid ((N ≠ 0 → ∀ pos x, Rd (bs l1) (bs b1) (pos + K + N + 4) x → Rd (bs left) (bs body) pos x) ∧ (N = 0 → ∀ pos, Rd (bs left) (bs body) pos (bs b1, pos + K + 4, 0))) := ⟨hq1, hq2⟩
      have HLO1 : Hid (leftOf w1 b = l1.size) := hs1.rd.leftOf
      clear hbw hs1 hq1 hq2 HB HS HDW
      by_cases hN : (0 : Int) < (N : Int)
      · have HU1 : Hid (∀ x, Rd (bs l1) (bs b1) (s.size - l1.size) x → Rd (bs s) [] 0 x) := fun x hx => by
          refine HU.out x (HQ.out.1 (by omega) _ x ?_)
          rw [show s.size - left.size + K + N + 4 = s.size - l1.size by omega]
          exact hx
        go_wp2_with fail
        go_roundw
        case rel => exact ⟨l1, b1, v1, HS1, hb1, by omega, HB1, HU1⟩
        case measure => rw [HLO.out, HLO1.out]; omega
      · have HE : Hid (Rd (bs s) [] 0 (bs b1, s.size - l1.size, 0)) := by
          have := HU.out _ (HQ.out.2 (by omega) (s.size - left.size))
          rw [show s.size - left.size + K + 4 = s.size - l1.size by omega] at this
          exact this
        go_wp2_with fail
        exact bodyPost_end (v := .tuple #[]) (by simp [results, Tryd.results31, go_sem]) rfl ⟨HB1.out, .inr ⟨rfl, l1, b1, v1, HS1.out, hb1, by omega, HE.out⟩⟩

end Go.Proofs.YtkpnacopljceaaaDoor
