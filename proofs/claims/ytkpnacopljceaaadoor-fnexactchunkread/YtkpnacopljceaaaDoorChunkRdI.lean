/- 'pass', 'digits', 'take' of the program's reader of parts: contracts over the translation. -/
import Derived.Test.YtkpnacopljceaaaDoorChunkHexI
import Derived.Test.YtkpnacopljceaaaDoorChunkSpec2
import Derived.Test.YtkpnacopljceaaaDoorFieldOpen
import Derived.Test.YtkpnacopljceaaaDoorMsgReq
import Derived.Lib.AppendStr
import Derived.Deep.RegionLaw
namespace Go.Proofs.YtkpnacopljceaaaDoor
open Go.RowKit
open Go.Lib hiding intOf

/-- A call ends in a panic that bears this code. -/
def RefIs (c : Int) (e : Ending) : Prop := e = .panicked [{ v := .iface 70 (.int .i64 c), recovered := false }]
/-- A reader: what is left to be read, and what was read so far. -/
def CRd (w : World) (b : Nat) (left : ByteArray) (v : Value) : Prop := w.heap[b]? = some (.cells #[.string left, v] 55)
theorem CRd.cell {w : World} {b : Nat} {left : ByteArray} {v : Value} (h : CRd w b left v) : w.cell? ⟨b, 0, none⟩ = some (.string left) := by
  unfold CRd at h
  simp [World.cell?, h]
theorem CRd.body {w : World} {b : Nat} {left : ByteArray} {v : Value} (h : CRd w b left v) : w.cell? ⟨b, 1, none⟩ = some v := by
  unfold CRd at h
  simp [World.cell?, h]
theorem CRd.frozen {w : World} {b : Nat} {left : ByteArray} {v : Value} (h : CRd w b left v) (o : Nat) : w.frozen? ⟨b, o, none⟩ = false := by
  unfold CRd at h
  simp [World.frozen?, h]
theorem CRd.put {w : World} {b : Nat} {left : ByteArray} {v : Value} (h : CRd w b left v) (x : ByteArray) : CRd (w.setCell ⟨b, 0, none⟩ (.string x)) b x v := by
  unfold CRd at h ⊢
  rw [heap_set _ _ _ _ _ _ _ h]
  rfl
theorem CRd.putBody {w : World} {b : Nat} {left : ByteArray} {v : Value} (h : CRd w b left v) (x : Value) : CRd (w.setCell ⟨b, 1, none⟩ x) b left x := by
  unfold CRd at h ⊢
  rw [heap_set _ _ _ _ _ _ _ h]
  rfl
theorem CRd.lt {w : World} {b : Nat} {left : ByteArray} {v : Value} (h : CRd w b left v) : b < w.heap.size := (Array.getElem?_eq_some_iff.1 h).1

theorem line_pre (r : List UInt8) : (Lib.hasPrefix r [13, 10] = true ∧ lineC r = 0) ∨ (Lib.hasPrefix r [13, 10] = false ∧ Lib.hasPrefix [13, 10] r = true ∧ lineC r = 1) ∨ (Lib.hasPrefix r [13, 10] = false ∧ Lib.hasPrefix [13, 10] r = false ∧ lineC r = 2) := by
  match r with
  | [] => decide
  | [c] =>
    by_cases h : c = 13
    · subst h; decide
    · right; right
      refine ⟨?_, ?_, ?_⟩
      · simp [Lib.hasPrefix, List.isPrefixOf]
      · simp [Lib.hasPrefix, List.isPrefixOf, h]
      · simp [lineC, h]
  | c :: d :: t =>
    by_cases h : c = 13 ∧ d = 10
    · obtain ⟨rfl, rfl⟩ := h
      left
      exact ⟨by simp [Lib.hasPrefix], by simp [lineC]⟩
    · right; right
      refine ⟨?_, ?_, ?_⟩
      · simp only [Lib.hasPrefix, List.isPrefixOf]
        by_cases h1 : c = 13
        · have h2 : d ≠ 10 := fun e => h ⟨h1, e⟩
          simp [h1, Ne.symm h2]
        · simp [Ne.symm h1]
      · simp only [Lib.hasPrefix, List.isPrefixOf]
        by_cases h1 : c = 13
        · have h2 : d ≠ 10 := fun e => h ⟨h1, e⟩
          simp [h1, h2]
        · simp [h1]
      · simp only [lineC, if_neg h]
theorem trim_line (left : ByteArray) (h : lineC (bs left) = 0) : (⟨(Lib.trimPrefix left.data.toList [13, 10]).toArray⟩ : ByteArray) = left.extract 2 left.size := by
  apply bs_inj
  rw [bs_extract, List.take_of_length_le (by rw [bs_len]; exact Nat.le_refl _)]
  obtain ⟨t, ht⟩ := lineC_zero h
  have e : left.data.toList = 13 :: 10 :: t := ht
  rw [ht, e]
  simp [Lib.trimPrefix, Lib.hasPrefix, bs]

set_option maxHeartbeats 1000000 in
theorem cpass_ok (b : Nat) (left : ByteArray) (v : Value) (w : World) (h : CRd w b left v) (hl : lineC (bs left) = 0) :
    Calls Tryd.prog 52 #[.pointer (some ⟨b, 0, none⟩), .string ⟨#[13, 10]⟩] w fun e w' => e = .returned (.tuple #[]) ∧ w' = w.setCell ⟨b, 0, none⟩ (.string (left.extract 2 left.size)) := by
  have hc := h.cell
  have hf := h.frozen 0
  have HT := trim_line left hl
  have hp : Lib.hasPrefix left.data.toList [13, 10] = true := by
    rcases line_pre (bs left) with ⟨h1, _⟩ | ⟨_, _, h3⟩ | ⟨_, _, h3⟩
    · exact h1
    · rw [hl] at h3; cases h3
    · rw [hl] at h3; cases h3
  have HX : Hid ((⟨(Lib.trimPrefix left.data.toList [13, 10]).toArray⟩ : ByteArray) = left.extract 2 left.size) := HT
  clear h hl HT
  go_enter Tryd.func52, Tryd.ntmps52
  go_wp2_with (first | (go_at_call 59; refine (Tryd.strings_CutPrefix left _ _).mono ?_; rintro e w1 ⟨rfl, rfl⟩))
  refine bodyPost_end (v := .tuple #[]) (by simp [results, Tryd.results52, go_sem]) rfl ⟨rfl, ?_⟩
  rw [HX.out]

set_option maxHeartbeats 1000000 in
theorem cpass_no (b : Nat) (left : ByteArray) (v : Value) (w : World) (h : CRd w b left v) (hl : lineC (bs left) ≠ 0) :
    Calls Tryd.prog 52 #[.pointer (some ⟨b, 0, none⟩), .string ⟨#[13, 10]⟩] w fun e w' => RefIs (lineC (bs left)) e ∧ w' = w := by
  have hc := h.cell
  rcases line_pre (bs left) with ⟨_, h3⟩ | ⟨h1, h2, h3⟩ | ⟨h1, h2, h3⟩
  · exact absurd h3 hl
  · have HE : Hid (lineC (bs left) = 1) := h3
    have p1 : Lib.hasPrefix left.data.toList [13, 10] = false := h1
    have p2 : Lib.hasPrefix [13, 10] left.data.toList = true := h2
    clear h1 h2 h3 hl h
    go_enter Tryd.func52, Tryd.ntmps52
    go_wp2_with (first | (go_at_call 59; refine (Tryd.strings_CutPrefix left _ _).mono ?_; rintro e w1 ⟨rfl, rfl⟩) | (go_at_call 60; refine (Tryd.strings_HasPrefix _ left _).mono ?_; rintro e w1 ⟨rfl, rfl⟩))
    exact ⟨rfl, by rw [HE.out]; rfl, rfl⟩
  · have HE : Hid (lineC (bs left) = 2) := h3
    have p1 : Lib.hasPrefix left.data.toList [13, 10] = false := h1
    have p2 : Lib.hasPrefix [13, 10] left.data.toList = false := h2
    clear h1 h2 h3 hl h
    go_enter Tryd.func52, Tryd.ntmps52
    go_wp2_with (first | (go_at_call 59; refine (Tryd.strings_CutPrefix left _ _).mono ?_; rintro e w1 ⟨rfl, rfl⟩) | (go_at_call 60; refine (Tryd.strings_HasPrefix _ left _).mono ?_; rintro e w1 ⟨rfl, rfl⟩))
    exact ⟨rfl, by rw [HE.out]; rfl, rfl⟩

def hexDs : ByteArray := ⟨#[48, 49, 50, 51, 52, 53, 54, 55, 56, 57, 97, 98, 99, 100, 101, 102]⟩
theorem hex_index (c : UInt8) : Lib.indexByte hexDs.data.toList c = if HexB c then (hexV c : Int) else -1 := by
  have : ∀ n : Fin 256, Lib.indexByte hexDs.data.toList (UInt8.ofNat n.1) = if HexB (UInt8.ofNat n.1) then (hexV (UInt8.ofNat n.1) : Int) else -1 := by decide +kernel
  have h := this ⟨c.toNat, c.toNat_lt⟩
  rw [UInt8.ofNat_toNat] at h
  exact h

theorem u8_back (c : UInt8) : ((c.toNat : Int).toNat).toUInt8 = c := by
  rw [Int.toNat_natCast]
  exact UInt8.ofNat_toNat
theorem hexIndex_yes (c : UInt8) (w : World) (h : HexB c) :
    Calls Tryd.prog 66 #[.string ⟨#[48, 49, 50, 51, 52, 53, 54, 55, 56, 57, 97, 98, 99, 100, 101, 102]⟩, .int .u8 (c.toNat : Int)] w fun e w' => e = .returned (.int .i64 (hexV c : Int)) ∧ w' = w := by
  refine (Tryd.strings_IndexByte hexDs (c.toNat : Int) w).mono ?_
  rintro e w' ⟨rfl, rfl⟩
  rw [u8_back, hex_index, if_pos h]
  exact ⟨rfl, rfl⟩
theorem hexIndex_no (c : UInt8) (w : World) (h : ¬ HexB c) :
    Calls Tryd.prog 66 #[.string ⟨#[48, 49, 50, 51, 52, 53, 54, 55, 56, 57, 97, 98, 99, 100, 101, 102]⟩, .int .u8 (c.toNat : Int)] w fun e w' => e = .returned (.int .i64 (-1)) ∧ w' = w := by
  refine (Tryd.strings_IndexByte hexDs (c.toNat : Int) w).mono ?_
  rintro e w' ⟨rfl, rfl⟩
  rw [u8_back, hex_index, if_neg h]
  exact ⟨rfl, rfl⟩
theorem hexRune_yes (c : UInt8) (w : World) (h : HexB c) :
    Calls Tryd.prog 58 #[.string ⟨#[48, 49, 50, 51, 52, 53, 54, 55, 56, 57, 97, 98, 99, 100, 101, 102]⟩, .int .i32 (c.toNat : Int)] w fun e w' => e = .returned (.int .i64 (hexV c : Int)) ∧ w' = w := by
  refine (Tryd.strings_IndexRune_ascii hexDs (c.toNat : Int) w (by omega) (by unfold HexB at h; omega)).mono ?_
  rintro e w' ⟨rfl, rfl⟩
  rw [u8_back, hex_index, if_pos h]
  exact ⟨rfl, rfl⟩

set_option maxHeartbeats 2000000 in
theorem cdigits_any (b : Nat) (left : ByteArray) (v : Value) (w : World) (h : CRd w b left v) (hs : left.size ≤ 2000000) :
    Calls Tryd.prog 57 #[.pointer (some ⟨b, 0, none⟩)] w fun e w' => e = .returned (.string (left.extract 0 (digN 4 (bs left)))) ∧ w' = w.setCell ⟨b, 0, none⟩ (.string (left.extract (digN 4 (bs left)) left.size)) := by
  have hc := h.cell
  have hf := h.frozen 0
  have HEND : Hid (∀ k, k ≤ 4 → k ≤ left.size → (∀ c ∈ (bs left).take k, HexB c) → (k = 4 ∨ ∀ hk : k < left.size, ¬ HexB (left[k]'hk)) → digN 4 (bs left) = k) := fun k h4 hk hh hno => by
    have hlen : ((bs left).take k).length = k := by rw [List.length_take, bs_len]; omega
    have := digN_pre ((bs left).take k) ((bs left).drop k) 4 (by omega) hh (by
      rcases hno with h | h
      · left; omega
      · right
        intro c r e
        by_cases hl : k < left.size
        · rw [bs_drop left k hl] at e
          simp at e
          rw [← e.1]
          exact h hl
        · rw [drop_end left k (by omega)] at e
          simp at e)
    rw [List.take_append_drop, hlen] at this
    exact this
  clear h
  go_enter Tryd.func57, Tryd.ntmps57
  go_wp2
  go_loopw [3] (fun a wr => ∃ k : Nat, a = .int .i64 (k : Int) ∧ k ≤ 4 ∧ k ≤ left.size ∧ wr = w ∧ Hid (∀ c ∈ (bs left).take k, HexB c)) (fun a _ => 4 - (intOf a).toNat)
  case atStart => exact ⟨0, rfl, by omega, by omega, rfl, by show ∀ c ∈ _, _; simp⟩
  case round =>
    obtain ⟨k, rfl, hk4, hks, rfl, HH⟩ := hrel
    by_cases hlt : (k : Int) < min (left.size : Int) 4
    · have hk : k < left.size := by omega
      have hki : (k : Int) < (left.size : Int) := by omega
      by_cases hx : HexB (left[k]'hk)
      · have HN : Hid (∀ c ∈ (bs left).take (k + 1), HexB c) := fun c hcm => by
          rw [List.take_succ_eq_append_getElem (by rw [bs_len]; exact hk)] at hcm
          simp only [List.mem_append, List.mem_singleton] at hcm
          rcases hcm with hcm | rfl
          · exact HH.out c hcm
          · rw [bs_at]; exact hx
        have HC : Hid (∀ W, Calls Tryd.prog 66 #[.string ⟨#[48, 49, 50, 51, 52, 53, 54, 55, 56, 57, 97, 98, 99, 100, 101, 102]⟩, .int .u8 ((left[k]'hk).toNat : Int)] W fun e w' => e = .returned (.int .i64 (hexV (left[k]'hk) : Int)) ∧ w' = W) := fun W => hexIndex_yes _ W hx
        have hge : (0 : Int) ≤ (hexV (left[k]'hk) : Int) := by omega
        clear hx
        go_wp2_with (go_at_call 66; refine (HC.out _).mono ?_; rintro e w1 ⟨rfl, rfl⟩)
        go_roundw
        case rel => exact ⟨k + 1, by go_num, by omega, by omega, trivial, HN⟩
        case measure => simp [intOf]; omega
      · have HK : Hid (digN 4 (bs left) = k) := HEND.out k hk4 hks HH.out (.inr (fun _ => hx))
        have HC : Hid (∀ W, Calls Tryd.prog 66 #[.string ⟨#[48, 49, 50, 51, 52, 53, 54, 55, 56, 57, 97, 98, 99, 100, 101, 102]⟩, .int .u8 ((left[k]'hk).toNat : Int)] W fun e w' => e = .returned (.int .i64 (-1)) ∧ w' = W) := fun W => hexIndex_no _ W hx
        clear hx HEND
        go_wp2_with (go_at_call 66; refine (HC.out _).mono ?_; rintro e w1 ⟨rfl, rfl⟩)
        go_ret
        rw [HK.out]
        exact ⟨rfl, rfl⟩
    · have HK : Hid (digN 4 (bs left) = k) := HEND.out k hk4 hks HH.out (by
        by_cases h4 : k = 4
        · exact .inl h4
        · exact .inr (fun hk => by omega))
      have hki : (k : Int) ≤ (left.size : Int) := by omega
      clear HEND
      go_wp2_with fail
      go_ret
      rw [HK.out]
      exact ⟨rfl, rfl⟩

theorem own_noC {w : World} {base : Nat} {t : TypeId} {size : Nat} {v : Value} {n : Nat} {xs : List Value} {j : Nat} {cs : Array Value} {T : TypeId} {fr : Nat × Nat} (h : w.ownsRow base t size v n xs) (hT : T ≠ t) (hj : w.heap[j]? = some (.cells cs T fr)) : v.ownBlock ≠ some j := by
  intro e
  rcases h.2 with ⟨rfl, _⟩ | ⟨g, cap, cur, rfl, _, h1, _⟩
  · cases e
  · cases e
    rw [h1] at hj
    cases hj
    exact hT rfl
theorem own_ltC {w : World} {base : Nat} {t : TypeId} {size : Nat} {v : Value} {n : Nat} {xs : List Value} {j : Nat} (h : w.ownsRow base t size v n xs) (hj : v.ownBlock = some j) : base ≤ j ∧ j < w.heap.size := by
  rcases h.2 with ⟨rfl, _⟩ | ⟨g, cap, cur, rfl, h0, h1, _⟩
  · cases hj
  · cases hj
    exact ⟨h0, (Array.getElem?_eq_some_iff.1 h1).1⟩
theorem own_form {w : World} {base : Nat} {t : TypeId} {size : Nat} {v : Value} {n : Nat} {xs : List Value} (h : w.ownsRow base t size v n xs) : ∃ oa cap, v = .slice oa n cap := by
  rcases h.2 with ⟨rfl, rfl⟩ | ⟨g, cap, cur, rfl, _⟩
  · exact ⟨none, 0, rfl⟩
  · exact ⟨_, _, rfl⟩
theorem own_some {w : World} {base : Nat} {t : TypeId} {size : Nat} {v : Value} {n : Nat} {xs : List Value} (h : w.ownsRow base t size v n xs) : ∃ oa n cap, v = .slice oa n cap := by
  obtain ⟨oa, cap, e⟩ := own_form h
  exact ⟨oa, n, cap, e⟩
/-- A reader whose bytes are its own. -/
structure CRs (w : World) (B b : Nat) (left body : ByteArray) (v : Value) : Prop where
  rd : CRd w b left v
  own : w.ownsRow B 5 1 v body.size (strCells body)
  hB : B ≤ b
theorem CRs.far {w : World} {B b : Nat} {left body : ByteArray} {v : Value} (h : CRs w B b left body v) : v.ownBlock ≠ some b := own_noC h.own (by decide) h.rd
theorem CRs.le {w : World} {B b : Nat} {left body : ByteArray} {v : Value} (h : CRs w B b left body v) : B ≤ w.heap.size := Nat.le_trans h.hB (Nat.le_of_lt h.rd.lt)
/-- What is left was told anew, and memory was made: the bytes stand. -/
theorem CRs.took {w w' : World} {B b : Nat} {left left' body : ByteArray} {v : Value} (h : CRs w B b left body v) (hr : CRd w' b left' v) (hg : w.grownBy w' (some b)) : CRs w' B b left' body v :=
  ⟨hr, owns_same h.own (fun j hj => hg.block j (own_ltC h.own hj).2 (fun e => h.far (by rw [hj, e]))), h.hB⟩

theorem CRs.drew {w : World} {B b : Nat} {left body : ByteArray} {v : Value} (h : CRs w B b left body v) : CRs w.drew B b left body v := ⟨h.rd, h.own, h.hB⟩
/-- Bytes more, appended and laid into the reader. -/
theorem CRs.more {w W : World} {B b : Nat} {left body x : ByteArray} {v v' : Value} (h : CRs w B b left body v) (hg : w.grownBy W v.ownBlock) (hown : W.ownsRow B 5 1 v' (body.size + x.size) (strCells body ++ strCells x)) :
    W.cell? ⟨b, 0, none⟩ = some (.string left) ∧ W.cell? ⟨b, 1, none⟩ = some v ∧ W.frozen? ⟨b, 0, none⟩ = false ∧ W.frozen? ⟨b, 1, none⟩ = false ∧ Hid (CRs (W.setCell ⟨b, 1, none⟩ v') B b left (body ++ x) v' ∧ Below B w (W.setCell ⟨b, 1, none⟩ v')) := by
  have hr : CRd W b left v := by
    unfold CRd
    rw [hg.block b h.rd.lt (fun e => h.far e.symm)]
    exact h.rd
  have hfar : v'.ownBlock ≠ some b := own_noC hown (by decide) hr
  have hz : ∀ g, v.ownBlock = some g → B ≤ g := fun g hg => (own_ltC h.own hg).1
  have low : Below B w W := (Below.refl B w).grown hg h.le hz
  refine ⟨hr.cell, hr.body, hr.frozen 0, hr.frozen 1, ⟨hr.putBody v', ?_, h.hB⟩, low.setCell (p := ⟨b, 1, none⟩) h.hB _⟩
  rw [ByteArray.size_append]
  have e : strCells (body ++ x) = strCells body ++ strCells x := by simp [strCells]
  rw [e]
  exact owns_same hown (fun j hj => heap_setCell_other _ _ j _ (fun e => hfar (by rw [hj, e])))

theorem step_append_string {P : Program} (w : World) {ops : Array Oper} {o : Oper} {a : Act} {K : Act → World → Prop} {Q : Exit → Act → World → Prop} {E : Prop} (hgd : o.guard = none) (sl x : Operand) (t u : TypeId)
    (ho : o.op = .call { callee := .builtin .append, args := #[sl, x], argTypes := #[t, u] })
    (base : Nat) (e : TypeId) (i : TypeInfo) (ht : P.underlying t = some (.slice e)) (hu : P.underlying u = some .string) (hi : P.info? e = some i) (hz : i.zero = some (.int .u8 0))
    (hsize : i.size = 1) (hby : i.bytes = 1)
    (v : Value) (n : Nat) (xs : List Value) (hs : a.eval sl = v) (hown : w.ownsRow base e 1 v n xs) (s : ByteArray) (hx : a.eval x = .string s)
    (h63 : n + s.size ≤ maxLen) (hbytes : n + s.size ≤ 140737488355328) (hbase : base ≤ w.heap.size)
    (h : ∀ v' w', w'.ownsRow base e 1 v' (n + s.size) (xs ++ strCells s) → w.grownBy w' v.ownBlock → K (a.put o.dst v') w') :
    if Region.wanted o (yielded ops a.tmps) = true then Oper.wp P o a w K Q else E := by
  have hw : Region.wanted o (yielded ops a.tmps) = true := by simp [Region.wanted, hgd]
  rw [if_pos hw]
  obtain ⟨v', w', hr, h2, h3, _⟩ := run_append_own_string (P := P) w base t u o.type e i ht hu hi hz hsize hby v n xs hown s h63 hbytes hbase
  unfold Oper.wp execOp
  simp only [ho, resolve, invoke, builtin, Sem.run_bind, Sem.run_pure, Result.andThen_ok, List.map_toArray, List.map_cons, List.map_nil, hs, hx, hr]
  exact h v' w' h2 h3

set_option maxHeartbeats 2000000 in
set_option maxRecDepth 100000 in
theorem ctake_any (B b : Nat) (left body : ByteArray) (v : Value) (m : Nat) (w : World) (h : CRs w B b left body v) (hs : left.size ≤ 2000000) (hb : body.size ≤ 2000000) :
    Calls Tryd.prog 51 #[.pointer (some ⟨b, 0, none⟩), .int .i64 (m : Int)] w fun e w' =>
      (left.size < m ∧ RefIs 1 e ∧ w' = w) ∨ (m ≤ left.size ∧ e = .returned (.tuple #[]) ∧ Below B w w' ∧ ∃ v', CRs w' B b (left.extract m left.size) (body ++ left.extract 0 m) v') := by
  have hc0 := h.rd.cell
  have hc1 := h.rd.body
  have hf0 := h.rd.frozen 0
  have hf1 := h.rd.frozen 1
  by_cases hlt : (left.size : Int) < (m : Int)
  · go_enter Tryd.func51, Tryd.ntmps51
    go_wp2_with fail
    exact ⟨rfl, .inl ⟨by omega, rfl, rfl⟩⟩
  · have hm : (m : Int) ≤ (left.size : Int) := by omega
    obtain ⟨i0, hi, hz0, hz1, hz2⟩ := info_parts info5
    have hxs : (left.extract 0 m).size = m := by rw [ByteArray.size_extract]; omega
    have h63 : body.size + (left.extract 0 m).size ≤ maxLen := by unfold maxLen; omega
    have h47 : body.size + (left.extract 0 m).size ≤ 140737488355328 := by omega
    have HO : Hid (CRs w B b left body v) := h
    clear h hxs
    go_enter Tryd.func51, Tryd.ntmps51
    go_wp2_with fail
    have HD : Hid (CRs w.drew B b left body v) := HO.out.drew
    go_region_law (refine step_append_string _ (by rfl) _ _ _ _ (by rfl) B 5 i0 Tryd.underlying22 Tryd.underlying9 hi hz0 hz1 hz2 v body.size (strCells body) (by rfl) HD.out.own (left.extract 0 m) (by rfl) h63 h47 HD.out.le ?_; intro v1 w1 hown1 hgrow1; obtain ⟨oa1, n1, cp1, rfl⟩ := own_some hown1; obtain ⟨k0, k1, k2, k3, HM⟩ := HD.out.more hgrow1 hown1; clear hown1 hgrow1)
    all_goals
      generalize w1.setCell ⟨b, 1, none⟩ (.slice oa1 n1 cp1) = W at HM ⊢
      obtain ⟨hM, hBW⟩ := HM.out
      have j0 := hM.rd.cell
      have j1 := hM.rd.frozen 0
      have HB2 : Hid (Below B w (W.setCell ⟨b, 0, none⟩ (.string (left.extract m left.size)))) := ((Below.refl B w).drew.trans hBW).setCell (p := ⟨b, 0, none⟩) HO.out.hB _
      have HM2 : Hid (CRs (W.setCell ⟨b, 0, none⟩ (.string (left.extract m left.size))) B b (left.extract m left.size) (body ++ left.extract 0 m) (.slice oa1 n1 cp1)) := hM.took (hM.rd.put _) (grown_set _ _ _ _)
      clear k0 k1 k2 k3 hc0 hc1 hf0 hf1 HM hM hBW h63 h47 HD
      go_wp2_with fail
      exact bodyPost_end (v := .tuple #[]) (by simp [results, Tryd.results51, go_sem]) rfl (.inr ⟨by omega, rfl, HB2.out, _, HM2.out⟩)

end Go.Proofs.YtkpnacopljceaaaDoor
