/- 'Split' of the program and of the specification: contracts over the translation. -/
import Derived.Test.YtfgapdididdcaaaLower
namespace Go.Proofs.Ytfgapdididdcaaa
open Go.RowKit
open Go.Lib hiding intOf

/-- A part is taken where it is not empty. -/
def addPart (l : List ByteArray) (t : ByteArray) : List ByteArray := if t.size = 0 then l else l ++ [t]
/-- What is gathered ahead of byte k, and where the part that is begun begins. -/
def splitTo (s : ByteArray) : Nat → List ByteArray × Nat
  | 0 => ([], 0)
  | k + 1 => if (s.data.toList.getD k 0).toNat = 44 then (addPart (splitTo s k).1 (trimOf (s.extract (splitTo s k).2 k)), k + 1) else splitTo s k
def splitL (s : ByteArray) : List ByteArray := addPart (splitTo s s.size).1 (trimOf (s.extract (splitTo s s.size).2 s.size))

theorem addPart_len (l : List ByteArray) (t : ByteArray) : (addPart l t).length ≤ l.length + 1 := by
  unfold addPart; split <;> simp
theorem splitTo_le (s : ByteArray) : ∀ k, (splitTo s k).2 ≤ k ∧ (splitTo s k).1.length ≤ k := by
  intro k
  induction k with
  | zero => simp [splitTo]
  | succ k ih =>
    rw [splitTo]
    split
    · have := addPart_len (splitTo s k).1 (trimOf (s.extract (splitTo s k).2 k))
      dsimp only; omega
    · omega
theorem splitTo_comma (s : ByteArray) (k : Nat) (h : k < s.size) (hc : (s[k]'h).toNat = 44) : splitTo s (k + 1) = (addPart (splitTo s k).1 (trimOf (s.extract (splitTo s k).2 k)), k + 1) := by
  rw [splitTo, getD_byte s k h, if_pos hc]
theorem splitTo_other (s : ByteArray) (k : Nat) (h : k < s.size) (hc : (s[k]'h).toNat ≠ 44) : splitTo s (k + 1) = splitTo s k := by
  rw [splitTo, getD_byte s k h, if_neg hc]
theorem splitTo_skip (s : ByteArray) (k : Nat) : ∀ d, k + d ≤ s.size → (∀ j (h : j < s.size), k ≤ j → j < k + d → (s[j]'h).toNat ≠ 44) → splitTo s (k + d) = splitTo s k := by
  intro d
  induction d with
  | zero => intro _ _; rfl
  | succ d ih =>
    intro hd hn
    rw [show k + (d + 1) = (k + d) + 1 by omega, splitTo_other s (k + d) (by omega) (hn _ _ (by omega) (by omega))]
    exact ih (by omega) (fun j h h1 h2 => hn j h h1 (by omega))

/-- A call answers a list of these texts in memory of its own, from block 'base' on, and turns nothing below it. -/
def RowIs (base : Nat) (xs : List ByteArray) (w : World) (e : Ending) (w' : World) : Prop :=
  ∃ v, e = .returned v ∧ w'.ownsRow base 9 1 v xs.length (xs.map Value.string) ∧ Below base w w'
theorem RowIs.of {base : Nat} {xs ys : List ByteArray} {w w' : World} {v : Value} {n : Nat} (h : ys = xs) (hn : n = ys.length) (hown : w'.ownsRow base 9 1 v n (ys.map Value.string)) (hb : Below base w w') : RowIs base xs w (.returned v) w' := by
  subst h; subst hn; exact ⟨v, rfl, hown, hb⟩
/-- What is owned stays so in every later world that keeps what was there. -/
theorem owns_below {w w' : World} {base B : Nat} {e : TypeId} {size : Nat} {v : Value} {n : Nat} {xs : List Value} (h : w.ownsRow base e size v n xs) (hb : Below B w w') (hB : ∀ g, v.ownBlock = some g → g < B) : w'.ownsRow base e size v n xs := by
  refine ⟨h.1, ?_⟩
  rcases h.2 with h2 | ⟨g, cap, cur, rfl, h3, h4, h5⟩
  · exact .inl h2
  · exact .inr ⟨g, cap, cur, rfl, h3, by rw [hb.block g (hB g rfl)]; exact h4, h5⟩
theorem owns_lt {w : World} {base : Nat} {e : TypeId} {size : Nat} {v : Value} {n g : Nat} {xs : List Value} (h : w.ownsRow base e size v n xs) (hg : v.ownBlock = some g) : g < w.heap.size := by
  rcases h.2 with ⟨rfl, _⟩ | ⟨g', cap, cur, rfl, hb, hh, _⟩
  · simp [Value.ownBlock] at hg
  · simp [Value.ownBlock] at hg
    subst hg
    exact (Array.getElem?_eq_some_iff.1 hh).1
theorem owns_base {w : World} {base b : Nat} {e : TypeId} {size : Nat} {v : Value} {n : Nat} {xs : List Value} (h : w.ownsRow base e size v n xs) (hb : b ≤ base) : w.ownsRow b e size v n xs := by
  refine ⟨h.1, ?_⟩
  rcases h.2 with h2 | ⟨g, cap, cur, h3, h4, h5⟩
  · exact .inl h2
  · exact .inr ⟨g, cap, cur, h3, by omega, h5⟩
theorem one_text (t : ByteArray) : ∀ u ∈ [Value.string t], u.oneCell' = true := by intro u hu; simp at hu; subst hu; rfl
theorem info9 : (Try.prog.info? 9).map (fun i => (i.zero, i.size, i.bytes)) = some (some (.string ⟨#[]⟩), 1, 16) := by kernel_rfl

theorem addPart_no {l : List ByteArray} {t : ByteArray} (h : t.toList.isEmpty = true) : addPart l t = l := by
  unfold addPart
  have : t.size = 0 := by
    rw [ByteArray.toList_eq] at h
    have := List.isEmpty_iff.1 h
    have h2 : t.data.toList.length = t.size := by simp
    rw [this] at h2; simpa using h2.symm
  rw [if_pos this]
theorem addPart_yes {l : List ByteArray} {t : ByteArray} (h : t.toList.isEmpty = false) : addPart l t = l ++ [t] := by
  unfold addPart
  have : t.size ≠ 0 := by
    intro hc
    rw [isEmpty_yes hc] at h; cases h
  rw [if_neg this]

set_option maxHeartbeats 1000000 in
set_option maxRecDepth 100000 in
theorem appendPart_any (base : Nat) (v : Value) (n : Nat) (xs : List ByteArray) (raw : ByteArray) (w : World) (hx : n = xs.length) (hown : w.ownsRow base 9 1 v n (xs.map Value.string)) (hbase : base ≤ w.heap.size) (hn : n ≤ 1048577) (hraw : raw.size ≤ 281474976710656) :
    Calls Try.prog 58 #[v, .string raw] w fun e w' => RowIs base (addPart xs (trimOf raw)) w e w' := by
  obtain ⟨i0, hi, hz0, hz1, hz2⟩ := info_parts info9
  have h63 : n + 1 ≤ maxLen := by unfold maxLen; omega
  have h47 : (n + 1) * 16 ≤ 140737488355328 := by omega
  have HX : Hid (n = xs.length) := hx
  clear hx
  cases he : (trimOf raw).toList.isEmpty
  · have HE : Hid _ := addPart_yes (l := xs) he
    go_enter Try.func58, Try.ntmps58
    go_wp2_with fail
    refine (implTrim_any _ _ hraw).mono ?_
    rintro e w1 ⟨rfl, hb1⟩
    have hown1 := owns_below hown hb1 (fun g hg => owns_lt hown hg)
    have HBS : ∀ o, base ≤ (w1.alloc o).heap.size := fun o => by have := hb1.size; simp; omega
    go_wp2_with (at_builtin; refine wpList_append_own _ rfl _ _ 24 rfl base 9 i0 (.string ⟨#[]⟩) 1 16 Try.underlying24 hi hz0 hz1 hz2 rfl (by decide) _ _ _ rfl (hown1.alloc _) ⟨w1.heap.size, 0, none⟩ 1 1 [.string (trimOf raw)] rfl rfl (cell_one_new _ _ _) (one_text _) h63 h47 (HBS _) ?_)
    intro v1 w2 hown2 hgrow _
    have hb2 : Below base w w2 := (((hb1.mono hbase).alloc (Nat.le_trans hbase hb1.size) _).grown hgrow (HBS _) (fun g hg => owns_ge hown hg))
    clear hown hown1 HBS hgrow
    go_wp2
    go_ret
    refine RowIs.of (n := n + 1) (ys := xs ++ [trimOf raw]) HE.out.symm (by rw [HX.out]; simp) (by simpa using hown2) hb2
  · have HE : Hid _ := addPart_no (l := xs) he
    go_enter Try.func58, Try.ntmps58
    go_wp2_with (go_at_call 64; refine (implTrim_any _ _ hraw).mono ?_; rintro e w1 ⟨rfl, hb1⟩)
    go_ret
    exact RowIs.of (ys := xs) HE.out.symm HX.out (owns_below hown hb1 (fun g hg => owns_lt hown hg)) (hb1.mono hbase)

set_option maxHeartbeats 1000000 in
theorem implSplit_any (s : ByteArray) (w : World) (hs : s.size ≤ 1048576) :
    Calls Try.prog 39 #[.string s] w fun e w' => RowIs w.heap.size (splitL s) w e w' := by
  go_enter Try.func39, Try.ntmps39
  go_wp2
  go_loopw [3, 4] (fun v i wr => ∃ pos f : Nat, pos ≤ s.size ∧ f ≤ pos ∧ i = .int .i64 (f : Int) ∧ wr.heap[w.heap.size]? = some (.stringIter s pos) ∧ Below w.heap.size w wr ∧
      Hid (f = (splitTo s pos).2) ∧ wr.ownsRow (w.heap.size + 1) 9 1 v (splitTo s pos).1.length ((splitTo s pos).1.map Value.string)) (fun _ _ wr => s.size - wr.iterPos w.heap.size)
  case atStart => exact ⟨0, 0, Nat.zero_le _, Nat.le_refl _, rfl, World.iter_heap _ _ _, (Below.refl _ _).alloc (Nat.le_refl _) _, rfl, World.ownsRow_nil _ _ _ _⟩
  case round =>
    obtain ⟨pos, f, hpos, hfp, rfl, hh, hbw, hf, hown⟩ := hrel
    have hlp := splitTo_le s pos
    have hNw : w.heap.size < wr.heap.size := (Array.getElem?_eq_some_iff.1 hh).1
    by_cases hp : pos < s.size
    · by_cases hc : (s[pos]'hp).toNat = 44
      · have hnx := fun ty => run_next_ascii_at (P := Try.prog) wr w.heap.size s pos ty hh hp (by omega)
        have hcl : (cls ((s[pos]'hp).toNat : Int) == 5) = true := by
          have := cls_spec ((s[pos]'hp).toNat : Int)
          rw [beq_iff_eq]; omega
        have HC : Hid _ := splitTo_comma s pos hp hc
        clear hc
        go_wp2_with fail
        refine (classOf_any _ _).mono ?_
        rintro e w1 ⟨rfl, hb1⟩
        obtain ⟨p1, p2⟩ := iter_step hh hbw hb1
        have hs1 : wr.heap.size ≤ w1.heap.size := by have := hb1.size; rw [iterAt_size] at this; exact this
        have hown1 : w1.ownsRow (w.heap.size + 1) 9 1 u3 (splitTo s pos).1.length ((splitTo s pos).1.map Value.string) :=
          owns_below (ownsRow_iterAt hown (Nat.lt_succ_self _) s (pos + 1)) hb1 (fun g hg => by rw [iterAt_size]; exact owns_lt hown hg)
        have HH : Hid (wr.heap[w.heap.size]? = some (.stringIter s pos)) := hh
        clear hown hb1 hnx hh
        go_wp2_with fail
        refine (appendPart_any (w.heap.size + 1) _ _ _ _ _ rfl hown1 (by omega) (by omega) (by simp; omega)).mono ?_
        rintro e w2 ⟨v2, rfl, hown2, hb2⟩
        have hit2 : w2.heap[w.heap.size]? = some (.stringIter s (pos + 1)) := by rw [hb2.block _ (Nat.lt_succ_self _)]; exact p1
        have hown3 : w2.ownsRow (w.heap.size + 1) 9 1 v2 (splitTo s (pos + 1)).1.length ((splitTo s (pos + 1)).1.map Value.string) := by
          rw [HC.out, ← hf.out]; exact hown2
        have H2 : Hid (pos + 1 = (splitTo s (pos + 1)).2) := by show _ = _; rw [HC.out]
        have hb3 : Below w.heap.size w w2 := p2.trans (hb2.mono (by omega))
        clear hown1 hown2 hb2 p1 p2 hlp
        go_wp2
        go_roundw
        case rel => exact ⟨pos + 1, pos + 1, by omega, by omega, by go_num, hit2, hb3, H2, hown3⟩
        case measure => rw [iterPos_of hit2, iterPos_of HH.out]; omega
      · have hnx := fun ty => run_next_any_at (P := Try.prog) wr w.heap.size s pos ty hh hp
        obtain ⟨d1, d2, d3⟩ := decode_skip s pos hp
        have hcl : (cls ((Utf8.decode s pos).1 : Int) == 5) = false := by
          have := cls_spec ((Utf8.decode s pos).1 : Int)
          rw [beq_eq_false_iff_ne]
          by_cases ha : (s[pos]'hp).toNat < 128
          · rw [decode_ascii s pos hp ha] at this ⊢
            dsimp only at this ⊢
            omega
          · have := (decode_high s pos hp (by omega)).1
            omega
        have HS : Hid _ := splitTo_skip s pos (Utf8.decode s pos).2 d1 (fun j h h1 h2 => by
          by_cases e : j = pos
          · subst e; exact hc
          · have := d3 j h (by omega) h2; omega)
        clear hc d3
        go_wp2_with (go_at_call 57; refine (classOf_any _ _).mono ?_; rintro e w1 ⟨rfl, hb1⟩)
        obtain ⟨p1, p2⟩ := iter_step hh hbw hb1
        have hown1 : w1.ownsRow (w.heap.size + 1) 9 1 u3 (splitTo s pos).1.length ((splitTo s pos).1.map Value.string) :=
          owns_below (ownsRow_iterAt hown (Nat.lt_succ_self _) s _) hb1 (fun g hg => by rw [iterAt_size]; exact owns_lt hown hg)
        refine ⟨⟨_, f, d1, by omega, rfl, p1, p2, by rw [HS.out]; exact hf, by rw [HS.out]; exact hown1⟩, by rw [iterPos_of p1, iterPos_of hh]; omega⟩
    · have hnx := fun ty => run_next_end_at (P := Try.prog) wr w.heap.size s pos ty hh hp
      have hsp : pos = s.size := by omega
      have HL : Hid (addPart (splitTo s pos).1 (trimOf (s.extract f s.size)) = splitL s) := by
        show _ = _
        unfold splitL; rw [hf.out, hsp]
      clear hsp
      go_wp2_with fail
      refine (appendPart_any (w.heap.size + 1) _ _ _ _ _ rfl hown (by omega) (by omega) (by simp; omega)).mono ?_
      rintro e w2 ⟨v2, rfl, hown2, hb2⟩
      have hb3 : Below w.heap.size w w2 := hbw.trans (hb2.mono (by omega))
      clear hown hb2 hnx hh
      go_wp2
      go_ret
      exact RowIs.of HL.out rfl (owns_base hown2 (by omega)) hb3

/-- The same, and behind the last byte the whole. -/
def stTo (s : ByteArray) (k : Nat) : List ByteArray × Nat := if k ≤ s.size then splitTo s k else (splitL s, k)
theorem stTo_part (s : ByteArray) (k : Nat) (h : (∃ h : k < s.size, (s[k]'h).toNat = 44) ∨ k = s.size) : stTo s (k + 1) = (addPart (stTo s k).1 (trimOf (s.extract (stTo s k).2 k)), k + 1) := by
  rcases h with ⟨h, hc⟩ | rfl
  · unfold stTo
    rw [if_pos (by omega), if_pos (by omega), splitTo_comma s k h hc]
  · unfold stTo
    rw [if_neg (by omega), if_pos (by omega)]; rfl
theorem stTo_other (s : ByteArray) (k : Nat) (h : k < s.size) (hc : (s[k]'h).toNat ≠ 44) : stTo s (k + 1) = stTo s k := by
  unfold stTo
  rw [if_pos (by omega), if_pos (by omega), splitTo_other s k h hc]
theorem stTo_end (s : ByteArray) (k : Nat) (h : ¬ k ≤ s.size) : (stTo s k).1 = splitL s := by
  unfold stTo; rw [if_neg h]
theorem stTo_le (s : ByteArray) (k : Nat) (h : k ≤ s.size) : (stTo s k).2 ≤ k ∧ (stTo s k).1.length ≤ k := by
  unfold stTo; rw [if_pos h]; exact splitTo_le s k

set_option maxHeartbeats 2000000 in
set_option maxRecDepth 100000 in
theorem specSplit_any (s : ByteArray) (w : World) (hs : s.size ≤ 1048576) :
    Calls Try.prog 41 #[.string s] w fun e w' => RowIs w.heap.size (splitL s) w e w' := by
  obtain ⟨i0, hi, hz0, hz1, hz2⟩ := info_parts info9
  go_enter Try.func41, Try.ntmps41
  go_wp2
  go_loopw [3, 4, 5] (fun v a i wr => ∃ (k f : Nat) (l : List ByteArray), k ≤ s.size + 1 ∧ f ≤ k ∧ i = .int .i64 (k : Int) ∧ a = .int .i64 (f : Int) ∧ Below w.heap.size w wr ∧
      Hid (f = (stTo s k).2) ∧ Hid (l = (stTo s k).1) ∧ wr.ownsRow w.heap.size 9 1 v l.length (l.map Value.string)) (fun _ _ i _ => s.size + 1 - (intOf i).toNat)
  case atStart =>
    refine ⟨0, 0, [], Nat.zero_le _, Nat.le_refl _, rfl, rfl, (Below.refl _ _).alloc (Nat.le_refl _) _, ?_, ?_, ⟨rfl, .inr ⟨w.heap.size, 0, #[], rfl, Nat.le_refl _, heap_alloc_new w _, Nat.le_refl _, Nat.zero_le _, rfl, rfl⟩⟩⟩
    · show _ = _; simp [stTo, splitTo]
    · show _ = _; simp [stTo, splitTo]
  case round =>
    obtain ⟨k, f, l, hk, hfk, rfl, rfl, hbw, hf, hl, hown⟩ := hrel
    by_cases hks : k ≤ s.size
    · have hlk : l.length ≤ 1048577 := by have := (stTo_le s k hks).2; rw [← hl.out] at this; omega
      have h63 : l.length + 1 ≤ maxLen := by unfold maxLen; omega
      have h47 : (l.length + 1) * 16 ≤ 140737488355328 := by omega
      by_cases hlt : k < s.size
      · by_cases hc : (s[k]'hlt).toNat = 44
        · have ht : (((s[k]'hlt).toNat : Int) != 44) = false := by rw [bne_eq_false_iff_eq]; omega
          have HC0 := stTo_part s k (.inl ⟨hlt, hc⟩)
          rw [← hl.out, ← hf.out] at HC0
          have HC : Hid _ := HC0
          have H2 : Hid (k + 1 = (stTo s (k + 1)).2) := by show _ = _; rw [HC0]
          clear hc HC0
          have hz : (s.extract f k).size ≤ maxLen := by unfold maxLen; simp; omega
          cases he : (trimOf (s.extract f k)).toList.isEmpty
          · have HE : Hid _ := addPart_yes (l := l) he
            go_wp2_with fail
            refine (specTrim_any _ _ hz).mono ?_
            rintro e w1 ⟨rfl, hb1⟩
            have hown1 := owns_below hown hb1 (fun g hg => owns_lt hown hg)
            have HBS : ∀ o, w.heap.size ≤ (w1.alloc o).heap.size := fun o => by have := hb1.size; have := hbw.size; simp; omega
            go_wp2_with (at_builtin; refine wpList_append_own _ rfl _ _ 24 rfl w.heap.size 9 i0 (.string ⟨#[]⟩) 1 16 Try.underlying24 hi hz0 hz1 hz2 rfl (by decide) _ _ _ rfl (hown1.alloc _) ⟨w1.heap.size, 0, none⟩ 1 1 [.string (trimOf (s.extract f k))] rfl rfl (cell_one_new _ _ _) (one_text _) h63 h47 (HBS _) ?_)
            intro v1 w2 hown2 hgrow _
            have hb2 : Below w.heap.size w w2 := (((hbw.trans (hb1.mono hbw.size)).alloc (Nat.le_trans hbw.size hb1.size) _).grown hgrow (HBS _) (fun g hg => owns_ge hown hg))
            have hown3 : w2.ownsRow w.heap.size 9 1 v1 (stTo s (k + 1)).1.length ((stTo s (k + 1)).1.map Value.string) := by
              rw [HC.out, HE.out]; simpa using hown2
            clear hown hown1 HBS hgrow hown2
            go_wp2
            go_roundw
            case rel => exact ⟨k + 1, k + 1, _, by omega, by omega, by go_num, by go_num, hb2, H2, rfl, hown3⟩
            case measure => simp [intOf]; omega
          · have HE : Hid _ := addPart_no (l := l) he
            go_wp2_with (go_at_call 59; refine (specTrim_any _ _ hz).mono ?_; rintro e w1 ⟨rfl, hb1⟩)
            have hown3 : w1.ownsRow w.heap.size 9 1 u3 (stTo s (k + 1)).1.length ((stTo s (k + 1)).1.map Value.string) := by
              rw [HC.out, HE.out]; exact owns_below hown hb1 (fun g hg => owns_lt hown hg)
            have hb2 : Below w.heap.size w w1 := hbw.trans (hb1.mono hbw.size)
            go_roundw
            case rel => exact ⟨k + 1, k + 1, _, by omega, by omega, by go_num, by go_num, hb2, H2, rfl, hown3⟩
            case measure => simp [intOf]; omega
        · have ht : (((s[k]'hlt).toNat : Int) != 44) = true := by rw [bne_iff_ne]; omega
          have HO : Hid _ := stTo_other s k hlt hc
          clear hc
          go_wp2_with fail
          go_roundw
          case rel => exact ⟨k + 1, f, l, by omega, by omega, by go_num, rfl, hbw, by rw [HO.out]; exact hf, by rw [HO.out]; exact hl, hown⟩
          case measure => simp [intOf]; omega
      · have HC0 := stTo_part s k (.inr (by omega))
        rw [← hl.out, ← hf.out] at HC0
        have HC : Hid _ := HC0
        have H2 : Hid (k + 1 = (stTo s (k + 1)).2) := by show _ = _; rw [HC0]
        clear HC0
        have hz : (s.extract f k).size ≤ maxLen := by unfold maxLen; simp; omega
        cases he : (trimOf (s.extract f k)).toList.isEmpty
        · have HE : Hid _ := addPart_yes (l := l) he
          go_wp2_with fail
          refine (specTrim_any _ _ hz).mono ?_
          rintro e w1 ⟨rfl, hb1⟩
          have hown1 := owns_below hown hb1 (fun g hg => owns_lt hown hg)
          have HBS : ∀ o, w.heap.size ≤ (w1.alloc o).heap.size := fun o => by have := hb1.size; have := hbw.size; simp; omega
          go_wp2_with (at_builtin; refine wpList_append_own _ rfl _ _ 24 rfl w.heap.size 9 i0 (.string ⟨#[]⟩) 1 16 Try.underlying24 hi hz0 hz1 hz2 rfl (by decide) _ _ _ rfl (hown1.alloc _) ⟨w1.heap.size, 0, none⟩ 1 1 [.string (trimOf (s.extract f k))] rfl rfl (cell_one_new _ _ _) (one_text _) h63 h47 (HBS _) ?_)
          intro v1 w2 hown2 hgrow _
          have hb2 : Below w.heap.size w w2 := (((hbw.trans (hb1.mono hbw.size)).alloc (Nat.le_trans hbw.size hb1.size) _).grown hgrow (HBS _) (fun g hg => owns_ge hown hg))
          have hown3 : w2.ownsRow w.heap.size 9 1 v1 (stTo s (k + 1)).1.length ((stTo s (k + 1)).1.map Value.string) := by
            rw [HC.out, HE.out]; simpa using hown2
          clear hown hown1 HBS hgrow hown2
          go_wp2
          go_roundw
          case rel => exact ⟨k + 1, k + 1, _, by omega, by omega, by go_num, by go_num, hb2, H2, rfl, hown3⟩
          case measure => simp [intOf]; omega
        · have HE : Hid _ := addPart_no (l := l) he
          go_wp2_with (go_at_call 59; refine (specTrim_any _ _ hz).mono ?_; rintro e w1 ⟨rfl, hb1⟩)
          have hown3 : w1.ownsRow w.heap.size 9 1 u3 (stTo s (k + 1)).1.length ((stTo s (k + 1)).1.map Value.string) := by
            rw [HC.out, HE.out]; exact owns_below hown hb1 (fun g hg => owns_lt hown hg)
          have hb2 : Below w.heap.size w w1 := hbw.trans (hb1.mono hbw.size)
          go_roundw
          case rel => exact ⟨k + 1, k + 1, _, by omega, by omega, by go_num, by go_num, hb2, H2, rfl, hown3⟩
          case measure => simp [intOf]; omega
    · have HE : Hid (l = splitL s) := by show _ = _; rw [hl.out, stTo_end s k hks]
      go_wp2_with fail
      go_ret
      exact RowIs.of HE.out rfl hown hbw

end Go.Proofs.Ytfgapdididdcaaa
