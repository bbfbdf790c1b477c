/- A drawn number is read from its digits as it was; what is trimmed has no blanks about it; what is split has no commas (the law answers true), and the code reads as it did: for every code; the three tables that strconv.Itoa's text names hold what the program's text lays (the card ties them). -/
import Derived.Test.YtpkmdeigifeodaaDoorTab
import Derived.Test.YtpkmdeigifeodaaDoorWordsDraw
import Derived.Below
import Derived.ChangeOld
import Derived.Deep.RegionHeld3
import Derived.Deep.DrawnRows
namespace Go.Proofs.YtpkmdeigifeodaaDoor
namespace fnWords
open Go.ChangeShapes Go.WideShapes Go.ChangeAt Go.RowKit

theorem own : ownKnob Tryd.prog.godebug = none := by kernel_rfl
theorem laidOut : laidOutB Tryd.prog = true := by kernel_rfl

attribute [local go_sem ↓] Go.wp_at_zero Go.wp_at_succ

theorem extract_size (s : ByteArray) (a e : Nat) : (s.extract a e).size ≤ s.size := by rw [ByteArray.size_extract]; omega
theorem addPart_size {l : List ByteArray} {t : ByteArray} {m : Nat} (hl : ∀ p ∈ l, p.size ≤ m) (ht : t.size ≤ m) : ∀ p ∈ addPart l t, p.size ≤ m := by
  unfold addPart
  split
  · exact hl
  · intro p hp
    rcases List.mem_append.1 hp with h1 | h1
    · exact hl p h1
    · simp at h1; subst h1; exact ht
theorem splitTo_size (s : ByteArray) : ∀ k, ∀ p ∈ (splitTo s k).1, p.size ≤ s.size := by
  intro k
  induction k with
  | zero => simp [splitTo]
  | succ k ih =>
    have hp := addPart_size ih (Nat.le_trans (trimOf_size (s.extract (splitTo s k).2 k)) (extract_size s (splitTo s k).2 k))
    have e : splitTo s (k + 1) = if (s.data.toList.getD k 0).toNat = 44 then (addPart (splitTo s k).1 (trimOf (s.extract (splitTo s k).2 k)), k + 1) else splitTo s k := by rw [splitTo]
    by_cases hc : (s.data.toList.getD k 0).toNat = 44
    · rw [if_pos hc] at e
      generalize addPart (splitTo s k).1 (trimOf (s.extract (splitTo s k).2 k)) = L at e hp
      generalize splitTo s (k + 1) = st at e ⊢
      subst e
      exact hp
    · rw [if_neg hc] at e
      generalize splitTo s (k + 1) = st at e ⊢
      subst e
      exact ih
theorem splitL_size (s : ByteArray) (i : Nat) : (textAt (splitL s) i).size ≤ s.size := by
  by_cases h : i < (splitL s).length
  · have hall : ∀ p ∈ splitL s, p.size ≤ s.size := addPart_size (splitTo_size s s.size) (Nat.le_trans (trimOf_size _) (extract_size _ _ _))
    apply hall
    unfold textAt
    rw [List.getD_eq_getElem?_getD, List.getElem?_eq_getElem h]
    exact List.getElem_mem _
  · unfold textAt
    rw [List.getD_eq_getElem?_getD, List.getElem?_eq_none (by omega)]
    exact Nat.zero_le _
theorem splitL_len (s : ByteArray) : (splitL s).length ≤ s.size + 1 := by
  have h1 := (splitTo_le s s.size).2
  have h2 := addPart_len (splitTo s s.size).1 (trimOf (s.extract (splitTo s s.size).2 s.size))
  unfold splitL
  omega
theorem one_row {w : World} {base : Nat} {v : Value} {p : ByteArray} (h : w.ownsRow base 9 1 v 1 ([p].map Value.string)) : ∃ g cap, v = .slice (some ⟨g, 0, none⟩) 1 cap := by
  rcases row_form h with ⟨_, _, _, h0, _⟩ | ⟨g, cap, hv, _, _⟩
  · omega
  · exact ⟨g, cap, hv⟩
theorem below_chain {w w1 w2 : World} (h : Below w.heap.size w w1) (k : Below w1.heap.size w1 w2) : Below w.heap.size w w2 := h.trans (k.mono h.size)
/-- What the walk is told of a slice of bytes that came in. -/
def IsRow (k : IntKind) (w : World) (a : Option Addr) (len cap : Nat) (zs : List Int) : Prop :=
  (a = none ∧ len = 0 ∧ cap = 0 ∧ zs = []) ∨
  ∃ x, a = some x ∧ len ≤ cap ∧ cap ≤ maxLen ∧ zs.length = cap ∧ (∀ i, i < zs.length → w.cell? (x.add i) = some (.int k (zs.getD i 0))) ∧ ∀ n ∈ zs, (Lit.int k n).wf = true
theorem IsRow.code {w : World} {a : Option Addr} {len cap : Nat} {zs : List Int} (h : IsRow .u8 w a len cap zs) (hl : len ≤ 1048576) : CodeAt w w.heap.size a len zs := by
  refine ⟨hl, fun j hj => ?_⟩
  rcases h with ⟨rfl, rfl, _, _⟩ | ⟨x, rfl, h1, _, h3, h4, h5⟩
  · omega
  · obtain ⟨b, off, spot⟩ := x
    have hc := h4 j (by omega)
    have hspot : spot = none := by
      have := World.cell?_spot (h4 0 (by omega))
      simpa [Addr.add] using this
    subst hspot
    have hc2 : w.cell? ⟨b, off + j, none⟩ = some (.int .u8 (zs.getD j 0)) := by
      by_cases e : j = 0
      · subst e; simpa [Addr.add] using hc
      · simpa [Addr.add, e] using hc
    have hm : zs.getD j 0 ∈ zs := by
      rw [List.getD_eq_getElem?_getD, List.getElem?_eq_getElem (by omega)]
      exact List.getElem_mem _
    have hw := h5 _ hm
    have hr := bounds_u8 hw
    exact ⟨b, off, rfl, World.block_lt_of_cell? _ _ hc2, hc2, hr.1, by omega⟩

set_option maxRecDepth 100000 in
set_option maxHeartbeats 16000000 in
theorem walk (a0 : Option Addr) (len0 cap0 : Nat) (z0 : List Int) (w : World) (w0 : IsRow .u8 w a0 len0 cap0 z0) (hT : TabOk w) :
    Calls Tryd.prog 3 #[.slice a0 len0 cap0] w fun e w' => e = .returned (.bool true) ∧ Below w.heap.size w w' := by
  by_cases hbig : (1048576 : Int) < (len0 : Int)
  · go_enter Tryd.func3, Tryd.ntmps3
    go_wp2
    go_ret
    exact ⟨rfl, Below.refl _ _⟩
  · have hcode := w0.code (by omega)
    have HT : Hid (TabOk w) := hT
    clear w0 hT
    go_enter Tryd.func3, Tryd.ntmps3
    go_wp2_with (go_at_call 5; go_in)
    refine (drawNumText_any a0 len0 cap0 z0 _ hcode).mono ?_
    rintro e w1 ⟨n, rfl, n0, n1, hB⟩
    go_wp2_with fail
    refine (implNumText_any n _ n0 n1 (HT.out.below hB)).mono ?_
    rintro e w2 ⟨rfl, b2⟩
    have hB := below_chain hB b2
    go_wp2_with fail
    refine (specNumText_int n _ n0 n1).mono ?_
    rintro e w3 ⟨rfl, b3⟩
    have hB := below_chain hB b3
    clear b2 b3
    by_cases hin : 0 ≤ n ∧ n ≤ 1000000
    · obtain ⟨hok, hvl⟩ := numTextI_in n hin.1 hin.2
      have he : (numTextI n).toList.isEmpty = false := isEmpty_no hok.1
      have hsm : (numTextI n).size ≤ maxLen := by have := num_seven hok; unfold maxLen; omega
      have HO : Hid (NumOk (numTextI n)) := hok
      have HV : Hid (((valL (numTextI n).data.toList : Nat) : Int) = n) := hvl
      clear hin hok hvl
      go_wp2_with fail
      refine (implNumRead_any _ _ hsm).mono ?_
      rintro e w4 ⟨c1, y1, rfl, k1, k2, k3, b4⟩
      obtain rfl : c1 = true := k1.2 HO.out
      obtain rfl : y1 = n := (k2 rfl).trans HV.out
      have hnn : (y1 != y1) = false := by simp
      have hB := below_chain hB b4
      clear k1 k2 k3 b4
      go_wp2_with fail
      refine (drawNumRead_any a0 len0 cap0 z0 _ ((hcode.below hB).upTo hB.size)).mono ?_
      rintro e w5 ⟨raw, rfl, hraw, b5⟩
      have hB := below_chain hB b5
      clear b5
      have hrm : raw.size ≤ maxLen := by unfold maxLen; omega
      go_wp2_with fail
      refine (implNumRead_any raw _ hrm).mono ?_
      rintro e w6 ⟨c2, x1, rfl, k4, k5, k6, b6⟩
      have hB := below_chain hB b6
      clear b6
      go_wp2_with fail
      refine (specNumRead_any raw _ hrm).mono ?_
      rintro e w7 ⟨c3, x2, rfl, k7, k8, k9, b7⟩
      have hB := below_chain hB b7
      clear b7
      obtain rfl : c3 = c2 := Bool.eq_iff_iff.2 (k7.trans k4.symm)
      clear k7 k8 k9
      go_wp2_with fail
      refine (drawTrim_any a0 len0 cap0 z0 _ ((hcode.below hB).upTo hB.size)).mono ?_
      rintro e wt ⟨t, rfl, htz, bt⟩
      have hB := below_chain hB bt
      clear bt
      have htm : t.size ≤ maxLen := by unfold maxLen; omega
      go_wp2_with fail
      refine (implTrim_any t _ (by omega)).mono ?_
      rintro e wu ⟨rfl, bu⟩
      have hB := below_chain hB bu
      clear bu
      have hts := trimOf_size t
      have hid : Hid (trimOf (trimOf t) = trimOf t) := trimOf_idem t
      have hnl : ¬ (t.size : Int) < ((trimOf t).size : Int) := by omega
      have hcc : (c3 != c3) = false := by simp
      cases c3
      · clear k4 k5 k6
        go_wp2_with fail
        refine (specTrim_any t _ htm).mono ?_
        rintro e w9 ⟨rfl, b9⟩
        have hB := below_chain hB b9
        clear b9
        go_wp2_with fail
        refine (implTrim_any (trimOf t) _ (by omega)).mono ?_
        rintro e w10 ⟨rfl, b10⟩
        rw [hid.out]
        have hB := below_chain hB b10
        clear b10
        go_wp2_with fail
        refine (drawSplit_any a0 len0 cap0 z0 _ ((hcode.below hB).upTo hB.size)).mono ?_
        rintro e w11 ⟨line, rfl, hln, b11⟩
        have hB := below_chain hB b11
        clear b11
        obtain ⟨L, hL⟩ : ∃ L, L = splitL line := ⟨_, rfl⟩
        obtain ⟨n2, hn2⟩ : ∃ n2, n2 = L.length := ⟨_, rfl⟩
        have hlen := splitL_len line
        rw [← hL, ← hn2] at hlen
        have hPs : Hid (∀ i, i < n2 → ∀ p, p = textAt L i → p.size ≤ 1048576) := fun i hi p hp => by
          rw [hp, hL]; exact Nat.le_trans (splitL_size line i) (by omega)
        have hP : Hid (∀ i, i < n2 → Part (textAt L i)) := fun i hi => by rw [hL]; exact splitL_at line i (by rw [← hL, ← hn2]; exact hi)
        have C16 : Hid (∀ W, Calls Tryd.prog 16 #[.string line] W fun e w' => ∃ v, e = .returned v ∧ w'.ownsRow W.heap.size 9 1 v n2 (L.map Value.string) ∧ Below W.heap.size W w') := fun W => by
          rw [hn2, hL]; exact implSplit_any line W (by omega)
        have C18 : Hid (∀ W, Calls Tryd.prog 18 #[.string line] W fun e w' => ∃ v, e = .returned v ∧ w'.ownsRow W.heap.size 9 1 v n2 (L.map Value.string) ∧ Below W.heap.size W w') := fun W => by
          rw [hn2, hL]; exact specSplit_any line W (by omega)
        clear hL hn2
        go_wp2_with fail
        refine (C16.out _).mono ?_
        rintro e w12 ⟨v0, rfl, r0, b12⟩
        go_wp2_with fail
        refine (C18.out _).mono ?_
        rintro e w13 ⟨v1, rfl, r1, b13⟩
        have r0a := owns_below r0 b13 (fun g hg => owns_lt r0 hg)
        go_wp2_with fail
        refine (sameTexts_any v0 v1 n2 _ _ L _ r0a r1 (by omega)).mono ?_
        rintro e w14 ⟨rfl, b14⟩
        have r0b := owns_below r0a b14 (fun g hg => owns_lt r0a hg)
        have hB := below_chain (below_chain (below_chain hB b12) b13) b14
        clear b12 b13 b14 r0 r0a r1 C16 C18 hcode HT
        go_wp2_with fail
        rcases row_form r0b with ⟨oa, ca, rfl, rfl, rfl⟩ | ⟨g, cap, rfl, hp, row⟩
        · refine wp_loop_rounds 1 ?_
          rw [rounds_succ]
          go_wp2
          go_ret
          exact ⟨rfl, hB⟩
        · clear r0b
          go_loopw [16] (fun i wr => ∃ k : Nat, k ≤ n2 ∧ i = .int .i64 (k : Int) ∧ Below w14.heap.size w14 wr) (fun i _ => n2 - (intOf i).toNat)
          case atStart => exact ⟨0, Nat.zero_le _, rfl, Below.refl _ _⟩
          case round =>
            obtain ⟨k, hk, rfl, hbw⟩ := hrel
            by_cases hlt : k < n2
            · have hlt2 : (k : Int) < (n2 : Int) := by omega
              obtain ⟨p, hpd⟩ : ∃ p, p = textAt L k := ⟨_, rfl⟩
              have hPk := hP.out k hlt
              rw [← hpd] at hPk
              have hc : wr.cell? ⟨g, k, none⟩ = some (.string p) := by rw [hpd]; exact (row.below hbw row.lt).cell k hlt
              have HA : Hid (∀ w0 w1, Below wr.heap.size wr w0 → Below w0.heap.size w0 w1 → w1.cell? ⟨g, k, none⟩ = some (.string p) ∧ Below wr.heap.size wr w1) := fun w0 w1 h h' => by
                have hb := below_chain h h'
                refine ⟨?_, hb⟩
                rw [hb.cell (p := ⟨g, k, none⟩) (by have := hbw.size; have := row.lt; show g < _; omega)]; exact hc
              have he : p.toList.isEmpty = false := isEmpty_no (by have := hPk.1; omega)
              have HPT : Hid (trimOf p = p) := hPk.2.1
              have hps : p.size ≤ 1048576 := hPs.out k hlt p hpd
              have hz : p.size ≤ 281474976710656 := by omega
              have C16p : Hid (∀ W, Calls Tryd.prog 16 #[.string p] W fun e w' => ∃ v, e = .returned v ∧ w'.ownsRow W.heap.size 9 1 v 1 ([p].map Value.string) ∧ Below W.heap.size W w') := fun W => by
                have := implSplit_any p W hps
                rw [split_part hPk] at this; exact this
              clear hPk hpd
              go_wp2
              go_region_held3 (fun w' => w'.cell? ⟨g, k, none⟩ = some (.string p)) (first | assumption | go_keep) (first | (go_at_call 13; refine (implTrim_any _ _ hz).mono ?_; rintro e w1 ⟨rfl, hb1⟩; rw [HPT.out]; obtain ⟨hc1, hbx⟩ := HA.out _ w1 ((Below.refl _ wr).drew) hb1) | (go_at_call 16; refine (C16p.out _).mono ?_; rintro e w2 ⟨v, rfl, hr, hb2⟩; obtain ⟨hc2, hby⟩ := HA.out _ w2 hbx hb2; obtain ⟨g2, cap2, rfl⟩ := one_row hr))
              go_wp2
              go_roundw
              case rel => exact ⟨k + 1, by omega, by go_num, below_chain hbw hby⟩
              case measure => simp [intOf]; omega
            · go_wp2
              go_ret
              exact ⟨rfl, below_chain hB hbw⟩
      · have HR : NumOk raw := k4.1 rfl
        have hx1 := k5 rfl
        have xb : -9223372036854775808 ≤ x1 ∧ x1 ≤ 9223372036854775807 := by have := HR.2.2.2; omega
        have hxr : Hid (numTextI x1 = raw) := by show _ = _; rw [hx1]; exact numTextI_val HR
        clear k4 k5 k6 HR hx1
        go_wp2_with fail
        refine (implNumText_any x1 _ xb.1 xb.2 (HT.out.below hB)).mono ?_
        rintro e w8 ⟨rfl, b8⟩
        rw [hxr.out]
        have hB := below_chain hB b8
        clear b8
        go_wp2_with fail
        refine (specTrim_any t _ htm).mono ?_
        rintro e w9 ⟨rfl, b9⟩
        have hB := below_chain hB b9
        clear b9
        go_wp2_with fail
        refine (implTrim_any (trimOf t) _ (by omega)).mono ?_
        rintro e w10 ⟨rfl, b10⟩
        rw [hid.out]
        have hB := below_chain hB b10
        clear b10
        go_wp2_with fail
        refine (drawSplit_any a0 len0 cap0 z0 _ ((hcode.below hB).upTo hB.size)).mono ?_
        rintro e w11 ⟨line, rfl, hln, b11⟩
        have hB := below_chain hB b11
        clear b11
        obtain ⟨L, hL⟩ : ∃ L, L = splitL line := ⟨_, rfl⟩
        obtain ⟨n2, hn2⟩ : ∃ n2, n2 = L.length := ⟨_, rfl⟩
        have hlen := splitL_len line
        rw [← hL, ← hn2] at hlen
        have hPs : Hid (∀ i, i < n2 → ∀ p, p = textAt L i → p.size ≤ 1048576) := fun i hi p hp => by
          rw [hp, hL]; exact Nat.le_trans (splitL_size line i) (by omega)
        have hP : Hid (∀ i, i < n2 → Part (textAt L i)) := fun i hi => by rw [hL]; exact splitL_at line i (by rw [← hL, ← hn2]; exact hi)
        have C16 : Hid (∀ W, Calls Tryd.prog 16 #[.string line] W fun e w' => ∃ v, e = .returned v ∧ w'.ownsRow W.heap.size 9 1 v n2 (L.map Value.string) ∧ Below W.heap.size W w') := fun W => by
          rw [hn2, hL]; exact implSplit_any line W (by omega)
        have C18 : Hid (∀ W, Calls Tryd.prog 18 #[.string line] W fun e w' => ∃ v, e = .returned v ∧ w'.ownsRow W.heap.size 9 1 v n2 (L.map Value.string) ∧ Below W.heap.size W w') := fun W => by
          rw [hn2, hL]; exact specSplit_any line W (by omega)
        clear hL hn2
        go_wp2_with fail
        refine (C16.out _).mono ?_
        rintro e w12 ⟨v0, rfl, r0, b12⟩
        go_wp2_with fail
        refine (C18.out _).mono ?_
        rintro e w13 ⟨v1, rfl, r1, b13⟩
        have r0a := owns_below r0 b13 (fun g hg => owns_lt r0 hg)
        go_wp2_with fail
        refine (sameTexts_any v0 v1 n2 _ _ L _ r0a r1 (by omega)).mono ?_
        rintro e w14 ⟨rfl, b14⟩
        have r0b := owns_below r0a b14 (fun g hg => owns_lt r0a hg)
        have hB := below_chain (below_chain (below_chain hB b12) b13) b14
        clear b12 b13 b14 r0 r0a r1 C16 C18 hcode HT
        go_wp2_with fail
        rcases row_form r0b with ⟨oa, ca, rfl, rfl, rfl⟩ | ⟨g, cap, rfl, hp, row⟩
        · refine wp_loop_rounds 1 ?_
          rw [rounds_succ]
          go_wp2
          go_ret
          exact ⟨rfl, hB⟩
        · clear r0b
          go_loopw [16] (fun i wr => ∃ k : Nat, k ≤ n2 ∧ i = .int .i64 (k : Int) ∧ Below w14.heap.size w14 wr) (fun i _ => n2 - (intOf i).toNat)
          case atStart => exact ⟨0, Nat.zero_le _, rfl, Below.refl _ _⟩
          case round =>
            obtain ⟨k, hk, rfl, hbw⟩ := hrel
            by_cases hlt : k < n2
            · have hlt2 : (k : Int) < (n2 : Int) := by omega
              obtain ⟨p, hpd⟩ : ∃ p, p = textAt L k := ⟨_, rfl⟩
              have hPk := hP.out k hlt
              rw [← hpd] at hPk
              have hc : wr.cell? ⟨g, k, none⟩ = some (.string p) := by rw [hpd]; exact (row.below hbw row.lt).cell k hlt
              have HA : Hid (∀ w0 w1, Below wr.heap.size wr w0 → Below w0.heap.size w0 w1 → w1.cell? ⟨g, k, none⟩ = some (.string p) ∧ Below wr.heap.size wr w1) := fun w0 w1 h h' => by
                have hb := below_chain h h'
                refine ⟨?_, hb⟩
                rw [hb.cell (p := ⟨g, k, none⟩) (by have := hbw.size; have := row.lt; show g < _; omega)]; exact hc
              have he : p.toList.isEmpty = false := isEmpty_no (by have := hPk.1; omega)
              have HPT : Hid (trimOf p = p) := hPk.2.1
              have hps : p.size ≤ 1048576 := hPs.out k hlt p hpd
              have hz : p.size ≤ 281474976710656 := by omega
              have C16p : Hid (∀ W, Calls Tryd.prog 16 #[.string p] W fun e w' => ∃ v, e = .returned v ∧ w'.ownsRow W.heap.size 9 1 v 1 ([p].map Value.string) ∧ Below W.heap.size W w') := fun W => by
                have := implSplit_any p W hps
                rw [split_part hPk] at this; exact this
              clear hPk hpd
              go_wp2
              go_region_held3 (fun w' => w'.cell? ⟨g, k, none⟩ = some (.string p)) (first | assumption | go_keep) (first | (go_at_call 13; refine (implTrim_any _ _ hz).mono ?_; rintro e w1 ⟨rfl, hb1⟩; rw [HPT.out]; obtain ⟨hc1, hbx⟩ := HA.out _ w1 ((Below.refl _ wr).drew) hb1) | (go_at_call 16; refine (C16p.out _).mono ?_; rintro e w2 ⟨v, rfl, hr, hb2⟩; obtain ⟨hc2, hby⟩ := HA.out _ w2 hbx hb2; obtain ⟨g2, cap2, rfl⟩ := one_row hr))
              go_wp2
              go_roundw
              case rel => exact ⟨k + 1, by omega, by go_num, below_chain hbw hby⟩
              case measure => simp [intOf]; omega
            · go_wp2
              go_ret
              exact ⟨rfl, below_chain hB hbw⟩
    · have hE := numTextI_out n hin
      rw [hE]
      clear hin hE
      go_wp2_with fail
      refine (drawNumRead_any a0 len0 cap0 z0 _ ((hcode.below hB).upTo hB.size)).mono ?_
      rintro e w5 ⟨raw, rfl, hraw, b5⟩
      have hB := below_chain hB b5
      clear b5
      have hrm : raw.size ≤ maxLen := by unfold maxLen; omega
      go_wp2_with fail
      refine (implNumRead_any raw _ hrm).mono ?_
      rintro e w6 ⟨c2, x1, rfl, k4, k5, k6, b6⟩
      have hB := below_chain hB b6
      clear b6
      go_wp2_with fail
      refine (specNumRead_any raw _ hrm).mono ?_
      rintro e w7 ⟨c3, x2, rfl, k7, k8, k9, b7⟩
      have hB := below_chain hB b7
      clear b7
      obtain rfl : c3 = c2 := Bool.eq_iff_iff.2 (k7.trans k4.symm)
      clear k7 k8 k9
      go_wp2_with fail
      refine (drawTrim_any a0 len0 cap0 z0 _ ((hcode.below hB).upTo hB.size)).mono ?_
      rintro e wt ⟨t, rfl, htz, bt⟩
      have hB := below_chain hB bt
      clear bt
      have htm : t.size ≤ maxLen := by unfold maxLen; omega
      go_wp2_with fail
      refine (implTrim_any t _ (by omega)).mono ?_
      rintro e wu ⟨rfl, bu⟩
      have hB := below_chain hB bu
      clear bu
      have hts := trimOf_size t
      have hid : Hid (trimOf (trimOf t) = trimOf t) := trimOf_idem t
      have hnl : ¬ (t.size : Int) < ((trimOf t).size : Int) := by omega
      have hcc : (c3 != c3) = false := by simp
      cases c3
      · clear k4 k5 k6
        go_wp2_with fail
        refine (specTrim_any t _ htm).mono ?_
        rintro e w9 ⟨rfl, b9⟩
        have hB := below_chain hB b9
        clear b9
        go_wp2_with fail
        refine (implTrim_any (trimOf t) _ (by omega)).mono ?_
        rintro e w10 ⟨rfl, b10⟩
        rw [hid.out]
        have hB := below_chain hB b10
        clear b10
        go_wp2_with fail
        refine (drawSplit_any a0 len0 cap0 z0 _ ((hcode.below hB).upTo hB.size)).mono ?_
        rintro e w11 ⟨line, rfl, hln, b11⟩
        have hB := below_chain hB b11
        clear b11
        obtain ⟨L, hL⟩ : ∃ L, L = splitL line := ⟨_, rfl⟩
        obtain ⟨n2, hn2⟩ : ∃ n2, n2 = L.length := ⟨_, rfl⟩
        have hlen := splitL_len line
        rw [← hL, ← hn2] at hlen
        have hPs : Hid (∀ i, i < n2 → ∀ p, p = textAt L i → p.size ≤ 1048576) := fun i hi p hp => by
          rw [hp, hL]; exact Nat.le_trans (splitL_size line i) (by omega)
        have hP : Hid (∀ i, i < n2 → Part (textAt L i)) := fun i hi => by rw [hL]; exact splitL_at line i (by rw [← hL, ← hn2]; exact hi)
        have C16 : Hid (∀ W, Calls Tryd.prog 16 #[.string line] W fun e w' => ∃ v, e = .returned v ∧ w'.ownsRow W.heap.size 9 1 v n2 (L.map Value.string) ∧ Below W.heap.size W w') := fun W => by
          rw [hn2, hL]; exact implSplit_any line W (by omega)
        have C18 : Hid (∀ W, Calls Tryd.prog 18 #[.string line] W fun e w' => ∃ v, e = .returned v ∧ w'.ownsRow W.heap.size 9 1 v n2 (L.map Value.string) ∧ Below W.heap.size W w') := fun W => by
          rw [hn2, hL]; exact specSplit_any line W (by omega)
        clear hL hn2
        go_wp2_with fail
        refine (C16.out _).mono ?_
        rintro e w12 ⟨v0, rfl, r0, b12⟩
        go_wp2_with fail
        refine (C18.out _).mono ?_
        rintro e w13 ⟨v1, rfl, r1, b13⟩
        have r0a := owns_below r0 b13 (fun g hg => owns_lt r0 hg)
        go_wp2_with fail
        refine (sameTexts_any v0 v1 n2 _ _ L _ r0a r1 (by omega)).mono ?_
        rintro e w14 ⟨rfl, b14⟩
        have r0b := owns_below r0a b14 (fun g hg => owns_lt r0a hg)
        have hB := below_chain (below_chain (below_chain hB b12) b13) b14
        clear b12 b13 b14 r0 r0a r1 C16 C18 hcode HT
        go_wp2_with fail
        rcases row_form r0b with ⟨oa, ca, rfl, rfl, rfl⟩ | ⟨g, cap, rfl, hp, row⟩
        · refine wp_loop_rounds 1 ?_
          rw [rounds_succ]
          go_wp2
          go_ret
          exact ⟨rfl, hB⟩
        · clear r0b
          go_loopw [16] (fun i wr => ∃ k : Nat, k ≤ n2 ∧ i = .int .i64 (k : Int) ∧ Below w14.heap.size w14 wr) (fun i _ => n2 - (intOf i).toNat)
          case atStart => exact ⟨0, Nat.zero_le _, rfl, Below.refl _ _⟩
          case round =>
            obtain ⟨k, hk, rfl, hbw⟩ := hrel
            by_cases hlt : k < n2
            · have hlt2 : (k : Int) < (n2 : Int) := by omega
              obtain ⟨p, hpd⟩ : ∃ p, p = textAt L k := ⟨_, rfl⟩
              have hPk := hP.out k hlt
              rw [← hpd] at hPk
              have hc : wr.cell? ⟨g, k, none⟩ = some (.string p) := by rw [hpd]; exact (row.below hbw row.lt).cell k hlt
              have HA : Hid (∀ w0 w1, Below wr.heap.size wr w0 → Below w0.heap.size w0 w1 → w1.cell? ⟨g, k, none⟩ = some (.string p) ∧ Below wr.heap.size wr w1) := fun w0 w1 h h' => by
                have hb := below_chain h h'
                refine ⟨?_, hb⟩
                rw [hb.cell (p := ⟨g, k, none⟩) (by have := hbw.size; have := row.lt; show g < _; omega)]; exact hc
              have he : p.toList.isEmpty = false := isEmpty_no (by have := hPk.1; omega)
              have HPT : Hid (trimOf p = p) := hPk.2.1
              have hps : p.size ≤ 1048576 := hPs.out k hlt p hpd
              have hz : p.size ≤ 281474976710656 := by omega
              have C16p : Hid (∀ W, Calls Tryd.prog 16 #[.string p] W fun e w' => ∃ v, e = .returned v ∧ w'.ownsRow W.heap.size 9 1 v 1 ([p].map Value.string) ∧ Below W.heap.size W w') := fun W => by
                have := implSplit_any p W hps
                rw [split_part hPk] at this; exact this
              clear hPk hpd
              go_wp2
              go_region_held3 (fun w' => w'.cell? ⟨g, k, none⟩ = some (.string p)) (first | assumption | go_keep) (first | (go_at_call 13; refine (implTrim_any _ _ hz).mono ?_; rintro e w1 ⟨rfl, hb1⟩; rw [HPT.out]; obtain ⟨hc1, hbx⟩ := HA.out _ w1 ((Below.refl _ wr).drew) hb1) | (go_at_call 16; refine (C16p.out _).mono ?_; rintro e w2 ⟨v, rfl, hr, hb2⟩; obtain ⟨hc2, hby⟩ := HA.out _ w2 hbx hb2; obtain ⟨g2, cap2, rfl⟩ := one_row hr))
              go_wp2
              go_roundw
              case rel => exact ⟨k + 1, by omega, by go_num, below_chain hbw hby⟩
              case measure => simp [intOf]; omega
            · go_wp2
              go_ret
              exact ⟨rfl, below_chain hB hbw⟩
      · have HR : NumOk raw := k4.1 rfl
        have hx1 := k5 rfl
        have xb : -9223372036854775808 ≤ x1 ∧ x1 ≤ 9223372036854775807 := by have := HR.2.2.2; omega
        have hxr : Hid (numTextI x1 = raw) := by show _ = _; rw [hx1]; exact numTextI_val HR
        clear k4 k5 k6 HR hx1
        go_wp2_with fail
        refine (implNumText_any x1 _ xb.1 xb.2 (HT.out.below hB)).mono ?_
        rintro e w8 ⟨rfl, b8⟩
        rw [hxr.out]
        have hB := below_chain hB b8
        clear b8
        go_wp2_with fail
        refine (specTrim_any t _ htm).mono ?_
        rintro e w9 ⟨rfl, b9⟩
        have hB := below_chain hB b9
        clear b9
        go_wp2_with fail
        refine (implTrim_any (trimOf t) _ (by omega)).mono ?_
        rintro e w10 ⟨rfl, b10⟩
        rw [hid.out]
        have hB := below_chain hB b10
        clear b10
        go_wp2_with fail
        refine (drawSplit_any a0 len0 cap0 z0 _ ((hcode.below hB).upTo hB.size)).mono ?_
        rintro e w11 ⟨line, rfl, hln, b11⟩
        have hB := below_chain hB b11
        clear b11
        obtain ⟨L, hL⟩ : ∃ L, L = splitL line := ⟨_, rfl⟩
        obtain ⟨n2, hn2⟩ : ∃ n2, n2 = L.length := ⟨_, rfl⟩
        have hlen := splitL_len line
        rw [← hL, ← hn2] at hlen
        have hPs : Hid (∀ i, i < n2 → ∀ p, p = textAt L i → p.size ≤ 1048576) := fun i hi p hp => by
          rw [hp, hL]; exact Nat.le_trans (splitL_size line i) (by omega)
        have hP : Hid (∀ i, i < n2 → Part (textAt L i)) := fun i hi => by rw [hL]; exact splitL_at line i (by rw [← hL, ← hn2]; exact hi)
        have C16 : Hid (∀ W, Calls Tryd.prog 16 #[.string line] W fun e w' => ∃ v, e = .returned v ∧ w'.ownsRow W.heap.size 9 1 v n2 (L.map Value.string) ∧ Below W.heap.size W w') := fun W => by
          rw [hn2, hL]; exact implSplit_any line W (by omega)
        have C18 : Hid (∀ W, Calls Tryd.prog 18 #[.string line] W fun e w' => ∃ v, e = .returned v ∧ w'.ownsRow W.heap.size 9 1 v n2 (L.map Value.string) ∧ Below W.heap.size W w') := fun W => by
          rw [hn2, hL]; exact specSplit_any line W (by omega)
        clear hL hn2
        go_wp2_with fail
        refine (C16.out _).mono ?_
        rintro e w12 ⟨v0, rfl, r0, b12⟩
        go_wp2_with fail
        refine (C18.out _).mono ?_
        rintro e w13 ⟨v1, rfl, r1, b13⟩
        have r0a := owns_below r0 b13 (fun g hg => owns_lt r0 hg)
        go_wp2_with fail
        refine (sameTexts_any v0 v1 n2 _ _ L _ r0a r1 (by omega)).mono ?_
        rintro e w14 ⟨rfl, b14⟩
        have r0b := owns_below r0a b14 (fun g hg => owns_lt r0a hg)
        have hB := below_chain (below_chain (below_chain hB b12) b13) b14
        clear b12 b13 b14 r0 r0a r1 C16 C18 hcode HT
        go_wp2_with fail
        rcases row_form r0b with ⟨oa, ca, rfl, rfl, rfl⟩ | ⟨g, cap, rfl, hp, row⟩
        · refine wp_loop_rounds 1 ?_
          rw [rounds_succ]
          go_wp2
          go_ret
          exact ⟨rfl, hB⟩
        · clear r0b
          go_loopw [16] (fun i wr => ∃ k : Nat, k ≤ n2 ∧ i = .int .i64 (k : Int) ∧ Below w14.heap.size w14 wr) (fun i _ => n2 - (intOf i).toNat)
          case atStart => exact ⟨0, Nat.zero_le _, rfl, Below.refl _ _⟩
          case round =>
            obtain ⟨k, hk, rfl, hbw⟩ := hrel
            by_cases hlt : k < n2
            · have hlt2 : (k : Int) < (n2 : Int) := by omega
              obtain ⟨p, hpd⟩ : ∃ p, p = textAt L k := ⟨_, rfl⟩
              have hPk := hP.out k hlt
              rw [← hpd] at hPk
              have hc : wr.cell? ⟨g, k, none⟩ = some (.string p) := by rw [hpd]; exact (row.below hbw row.lt).cell k hlt
              have HA : Hid (∀ w0 w1, Below wr.heap.size wr w0 → Below w0.heap.size w0 w1 → w1.cell? ⟨g, k, none⟩ = some (.string p) ∧ Below wr.heap.size wr w1) := fun w0 w1 h h' => by
                have hb := below_chain h h'
                refine ⟨?_, hb⟩
                rw [hb.cell (p := ⟨g, k, none⟩) (by have := hbw.size; have := row.lt; show g < _; omega)]; exact hc
              have he : p.toList.isEmpty = false := isEmpty_no (by have := hPk.1; omega)
              have HPT : Hid (trimOf p = p) := hPk.2.1
              have hps : p.size ≤ 1048576 := hPs.out k hlt p hpd
              have hz : p.size ≤ 281474976710656 := by omega
              have C16p : Hid (∀ W, Calls Tryd.prog 16 #[.string p] W fun e w' => ∃ v, e = .returned v ∧ w'.ownsRow W.heap.size 9 1 v 1 ([p].map Value.string) ∧ Below W.heap.size W w') := fun W => by
                have := implSplit_any p W hps
                rw [split_part hPk] at this; exact this
              clear hPk hpd
              go_wp2
              go_region_held3 (fun w' => w'.cell? ⟨g, k, none⟩ = some (.string p)) (first | assumption | go_keep) (first | (go_at_call 13; refine (implTrim_any _ _ hz).mono ?_; rintro e w1 ⟨rfl, hb1⟩; rw [HPT.out]; obtain ⟨hc1, hbx⟩ := HA.out _ w1 ((Below.refl _ wr).drew) hb1) | (go_at_call 16; refine (C16p.out _).mono ?_; rintro e w2 ⟨v, rfl, hr, hb2⟩; obtain ⟨hc2, hby⟩ := HA.out _ w2 hbx hb2; obtain ⟨g2, cap2, rfl⟩ := one_row hr))
              go_wp2
              go_roundw
              case rel => exact ⟨k + 1, by omega, by go_num, below_chain hbw hby⟩
              case measure => simp [intOf]; omega
            · go_wp2
              go_ret
              exact ⟨rfl, below_chain hB hbw⟩

theorem contract (H : Type) (enc : TypeId × Value → H) (W : World) (base : Nat) (args : Array Value) (ds gs : List (DataW H)) (before : List MemPlace)
    (hval : ∀ (j : Nat) t v, Tryd.f3.params[j]? = some t → args[j]? = some v → Value.okWide Tryd.prog W .any base t v)
    (hW : DataW.Whole enc Tryd.prog Tryd.f3.params.toList Rows.fnWordsSpec.vars false W args.toList ds gs before) (hL : laidMetH Tryd.prog Rows.fnWordsRow.laid W) :
    Calls Tryd.prog 3 args W fun e W' => ∃ v, e = .returned v ∧ Rows.fnWordsSpec.post enc Tryd.prog Tryd.f3 false true false false W args v W' := by
  have hT : TabOk W := table hL
  have hW' := hW
  obtain ⟨p, q, hA0, hV, rfl, hfz, hnd⟩ := hW
  have hA : DataW.TrodAll enc Tryd.prog W 0 (fun _ => true) true Tryd.f3.params.toList args.toList ds p := hA0
  rw [Tryd.params3] at hA hval
  obtain ⟨v0, vs0, d0, ds0, p0, q0, hargs, rfl, rfl, h0, r0⟩ := trodAll_cons hA
  obtain ⟨rfl, rfl, rfl⟩ := trodAll_nil r0
  obtain rfl : args = #[v0] := by cases args; simp_all
  obtain ⟨rfl, rfl⟩ := trodVars_none hV
  obtain ⟨a0, len0, cap0, rfl⟩ := okWide_slice Tryd.underlying22 (hval 0 22 v0 rfl rfl)
  have k0 := h0
  have lt0 : ∀ x ∈ p0, x.block < W.heap.size := by obtain ⟨m, hm⟩ := k0; exact DataW.trod_lt m _ _ _ hm
  obtain ⟨z0, w0⟩ : ∃ zs, IsRow .u8 W a0 len0 cap0 zs := by
    obtain ⟨fuel, hf⟩ := h0
    rcases open_ints Tryd.underlying22 Tryd.underlying5 (by kernel_rfl) hf with ⟨hcs, _⟩ | ⟨x, l, c, zs, hcs, _, hl, hm, hz, _, hcell, hwz⟩
    · simp [Value.cells] at hcs
      obtain ⟨rfl, rfl, rfl⟩ := hcs
      exact ⟨[], .inl ⟨rfl, rfl, rfl, rfl⟩⟩
    · simp [Value.cells] at hcs
      obtain ⟨rfl, rfl, rfl⟩ := hcs
      exact ⟨zs, .inr ⟨_, rfl, hl, hm, by simpa using hz, hcell, hwz⟩⟩
  clear hA0
  refine (walk a0 len0 cap0 z0 W w0 hT).mono fun e W' ⟨he, bel⟩ => ?_
  subst he
  exact ⟨_, rfl, _, _, _, [], _, [], hW', trodAll_mk1 (shut_bool Tryd.underlying4 _), (trodAll_cons_mk (Below.trod laidOut (by kernel_rfl) (of_decide_eq_true (by kernel_rfl)) k0 bel lt0) trodAll_mk0), rfl, bel.frame _, fun h => by cases h⟩

theorem laid_met (os : Os) : laidMet Tryd.prog Rows.fnWordsRow.laid ((withTables (World.holding Tryd.prog os ⟨#[], #[], []⟩)).forCall (fun _ _ => 0) ⟨#[], #[.slice none 0 0], []⟩).memory :=
  laidMet_of_run' 80 (by kernel_rfl) (by kernel_rfl)
theorem reads (os : Os) {H : Type} (enc : TypeId × Value → H) : ∃ places, DataW.whole enc Tryd.prog ((withTables (World.holding Tryd.prog os ⟨#[], #[], []⟩)).forCall (fun _ _ => 0) ⟨#[], #[.slice none 0 0], []⟩).memory Tryd.f3.params.toList Rows.fnWordsSpec.vars false #[(.slice none 0 0 : Value)].toList 8 = some ([.nil], [], places) :=
  ⟨[], by kernel_rfl⟩

set_option maxRecDepth 100000 in
theorem lifted (os : Os) (started : os.Started) (H : Type) (enc : TypeId × Value → H) (F : Stop.Interp) :
    ReturnsInHanded {} Tryd.checked os 3 .any ((OpenSpec.ofChange Rows.fnWordsSpec).preRow enc Tryd.prog Tryd.f3 Rows.fnWordsRow.domain false Rows.fnWordsRow.laid) (((OpenSpec.ofChange Rows.fnWordsSpec).at F).post enc Tryd.prog Tryd.f3 false true false false) := by
  obtain ⟨places, hx⟩ := reads os enc
  refine returnsInHanded_of_row (C := Tryd.checked) (s := OpenSpec.ofChange Rows.fnWordsSpec) own started (by kernel_rfl) Tryd.func3
    (witness_row_at (enc := enc) (C := Tryd.checked) false (withTables (World.holding Tryd.prog os ⟨#[], #[], []⟩)) #[.slice none 0 0] rfl (by kernel_rfl) (by kernel_rfl) (by kernel_rfl)
      (OpenSpec.preRow_of_cond 8 hx (by kernel_rfl) (fun k hk => by cases hk) (by kernel_rfl) (laid_met os))) ?_
  intro W base args ds gs before hval hW _ _ _ hL _ _
  exact contract H enc W base args ds gs before hval hW hL

theorem said : Rows.FnWordsSaid :=
  OpenClaim.holds_of_cond 3 Tryd.f3 rfl rfl rfl rfl rfl rfl rfl ⟨rfl, rfl, rfl, rfl, rfl⟩ rfl rfl rfl rfl rfl (by kernel_rfl) Tryd.func3 (by kernel_rfl)
    (of_decide_eq_true (by kernel_rfl)) (by unfold Func.isWrapper; first | (rw [if_pos (by decide +kernel)]; kernel_rfl) | (rw [if_neg (by decide +kernel)]; exact ⟨rfl, rfl⟩))
    (fun os started H enc _ F => by rw [OpenClaim.pre_eq_preRow]; exact lifted os started H enc F)

theorem plain (f : FuncId) (fn : Func) (hf : Tryd.pinned.checked.prog.funcNamed "loop.example/g00239/laws.FnWords" = some f) (hfn : Tryd.pinned.checked.prog.funcs[f]? = some fn) :
    false = Tryd.pinned.checked.prog.looks [] ∧ ∀ (j : Nat) t, fn.params[j]? = some t → Tryd.pinned.checked.prog.wantsStandIn t = false := by
  obtain rfl : f = 3 := Option.some.inj ((show Tryd.prog.funcNamed "loop.example/g00239/laws.FnWords" = some 3 by kernel_rfl).symm.trans hf) |>.symm
  obtain rfl : fn = Tryd.f3 := (Option.some.inj (Tryd.func3.symm.trans hfn)).symm
  refine ⟨by kernel_rfl, fun j t ht => ?_⟩
  rw [Tryd.params3] at ht
  obtain rfl : t = 22 := by simpa using Array.mem_of_getElem? ht
  exact (show Tryd.prog.wantsStandIn 22 = false by kernel_rfl)

theorem card : Rows.FnWordsCardSaid :=
  Claim7.holds_tied_plain_at .later [] _ _ _ _ said (fun _ h => by cases h) (by kernel_rfl) (fun _ h => by cases h) fnWords_row_tie rfl ⟨rfl, rfl⟩ (by kernel_rfl) rfl plain (by kernel_rfl)
end fnWords

theorem fnWords_holds : Rows.FnWordsCardSaid := fnWords.card
#print axioms fnWords_holds
end Go.Proofs.YtpkmdeigifeodaaDoor
