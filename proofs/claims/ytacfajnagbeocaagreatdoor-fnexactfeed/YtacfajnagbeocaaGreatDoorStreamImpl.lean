/- 'takeOne', 'stream', 'Feed' of the program: contracts over the translation. -/
import Derived.Test.YtacfajnagbeocaaGreatDoorStreamTell
namespace Go.Proofs.YtacfajnagbeocaaGreatDoor
open Go.RowKit
open Go.Lib hiding intOf

/-- What 'takeOne' does. -/
def TakeIs (w : World) (T : Nat) (u : ByteArray) (V : Value) (rv : List (RqD × Value)) (e : Ending) (w' : World) : Prop :=
  (e = .returned (.bool true) ∧ ∃ r v V' m, 4 ≤ m ∧ m ≤ u.size ∧ TkSt w T (u.extract m u.size) V' (rv ++ [(r, v)]) false w' ∧ r.ok ∧ ∀ u2 c t, Fd okL lenL (bs (u.extract m u.size)) (u2, c, t) → Fd okL lenL (bs u) (u2, c, r.text :: t)) ∨
  (e = .returned (.bool false) ∧ ∃ c, TkSt w T u V rv c w' ∧ Fd okL lenL (bs u) (if c = true then [] else bs u, c, []))

set_option maxHeartbeats 4000000 in
set_option maxRecDepth 100000 in
theorem takeOne_any (w : World) (T : Nat) (u : ByteArray) (V : Value) (rv : List (RqD × Value)) (w0 : World) (hst : TkSt w T u V rv false w0) (hu : u.size ≤ 2200000) (hrl : rv.length ≤ 2200000) (hT : ∀ W, Below T w W → TabOk W) (hL : ∀ W, Below T w W → LenOk W) :
    Calls Tryz.prog 15 #[.pointer (some ⟨T, 0, none⟩)] w0 fun e w' => TakeIs w T u V rv e w' := by
  have HST : Hid (TkSt w T u V rv false w0) := hst
  have HTB : Hid (∀ W, Below T w W → TabOk W) := hT
  have HLN : Hid (∀ W, Below T w W → LenOk W) := hL
  have hc0 := hst.cells.1
  obtain ⟨m0, hm0⟩ := hL _ hst.low
  clear hst hT hL
  go_enter Tryz.func15, Tryz.ntmps15
  go_wp2_with fail
  refine (Tryz.strings_Index u lnE2 m0 _ (by omega) hm0).mono ?_
  rintro e w1 ⟨rfl, rfl⟩
  rw [show Lib.index u.data.toList lnE2.data.toList = Lib.index (bs u) [13, 10, 13, 10] from rfl]
  clear hm0
  rcases headN_index (bs u) with ⟨hh, hx⟩ | ⟨k, hh, hx, hkl, hwh⟩
  · rw [hx]
    have HFD : Hid (Fd okL lenL (bs u) (bs u, false, [])) := Fd.none hh
    clear hh hx
    go_wp2_with fail
    go_ret
    exact .inr ⟨rfl, false, HST.out, HFD.out⟩
  · rw [hx]
    rw [bs_len] at hkl
    obtain ⟨hd, hhd⟩ : ∃ x, x = u.extract 0 (k + 4) := ⟨_, rfl⟩
    have hhs : hd.size ≤ 4000000 := by rw [hhd, ByteArray.size_extract]; omega
    have HHD : Hid (bs hd = (bs u).take (k + 4)) := by show _ = _; rw [hhd, bs_extract, List.drop_zero]
    have HXD : Hid (u.extract 0 (k + 4) = hd) := hhd.symm
    have HWH : Hid (Whole (bs hd)) := by show Whole _; rw [HHD.out]; exact hwh
    have HNE : Hid (bs hd ≠ []) := fun e => by
      have := congrArg List.length e
      rw [HHD.out, List.length_take, bs_len, List.length_nil] at this
      omega
    have HNN : Hid (headN (bs u) = some (k + 4)) := hh
    have hk4 : (k : Int) + 4 ≤ (u.size : Int) := by omega
    have hk5 : ((k : Int) + 4).toNat = k + 4 := by omega
    have hk6 : (0 : Int) ≤ (k : Int) + 4 := by omega
    have hk7 : ¬ (k : Int) < 0 := by omega
    clear hh hx hwh hhd
    go_wp2_with fail
    rw [HXD.out]
    refine (bodyLength_any hd _ hhs HWH.out HNE.out (HLN.out _ HST.out.low)).mono ?_
    rintro e w2 ⟨rfl, b2⟩
    have HS2 : Hid (TkSt w T u V rv false w2) := HST.out.later b2
    obtain ⟨q, hq⟩ : ∃ q, q = lenL (bs hd) := ⟨_, rfl⟩
    rw [← hq]
    have HQ : Hid (lenL ((bs u).take (k + 4)) = q) := by show _ = _; rw [hq, HHD.out]
    have hq6 : q ≤ 1000000 := by rw [hq]; exact lenL_le _
    have hc2 := HS2.out.cells.1
    clear hq b2 hc0
    by_cases hq120 : (120 : Int) < (q : Int)
    · have HF1 : Hid (Fd okL lenL (bs u) ([], true, [])) := Fd.long HNN.out (by rw [HQ.out]; omega)
      have hc3 := HS2.out.cells.2.2.1
      have hf3 := HS2.out.cells.2.2.2 2
      have HS3 : Hid _ := HS2.out.putBad true
      go_wp2_with fail
      go_ret
      exact .inr ⟨rfl, true, HS3.out, HF1.out⟩
    · by_cases hle : (k : Int) + 4 + (q : Int) ≤ (u.size : Int)
      · have HNX : Hid (∀ r : RqD, r.text = bs (u.extract 0 (k + 4 + q)) → okL (bs (u.extract 0 (k + 4 + q))) = true → ∀ u2 c t, Fd okL lenL (bs (u.extract (k + 4 + q) u.size)) (u2, c, t) → Fd okL lenL (bs u) (u2, c, r.text :: t)) := fun r hr hok u2 c t h => by
          have e1 : bs (u.extract 0 (k + 4 + q)) = (bs u).take (k + 4 + q) := by rw [bs_extract, List.drop_zero]
          have e2 : bs (u.extract (k + 4 + q) u.size) = (bs u).drop (k + 4 + q) := by rw [bs_extract, List.take_of_length_le (by rw [bs_len]; exact Nat.le_refl _)]
          have h1 := Fd.next (ok := okL) (len := lenL) (u := u2) (b := c) (t := t) HNN.out (by rw [HQ.out]; omega) (by rw [HQ.out, bs_len]; omega) (by rw [HQ.out, ← e1]; exact hok) (by rw [HQ.out, ← e2]; exact h)
          rw [HQ.out, ← e1, ← hr] at h1
          exact h1
        have HNO : Hid (¬ okL (bs (u.extract 0 (k + 4 + q))) = true → Fd okL lenL (bs u) ([], true, [])) := fun hok => by
          have e1 : bs (u.extract 0 (k + 4 + q)) = (bs u).take (k + 4 + q) := by rw [bs_extract, List.drop_zero]
          exact Fd.wrong HNN.out (by rw [HQ.out]; omega) (by rw [HQ.out, bs_len]; omega) (by rw [HQ.out, ← e1]; exact hok)
        go_wp2_with fail
        rw [show (k : Int) + 4 + (q : Int) = ((k + 4 + q : Nat) : Int) by omega]
        refine (tell_any w T u V rv (k + 4 + q) _ HS2.out (by omega) hu hrl HTB.out HLN.out).mono ?_
        rintro e w3 (⟨rfl, r, v, V', h1, h2, h3, h4⟩ | ⟨rfl, h1, h2⟩)
        · have HR : Hid (TkSt w T (u.extract (k + 4 + q) u.size) V' (rv ++ [(r, v)]) false w3 ∧ r.ok ∧ ∀ u2 c t, Fd okL lenL (bs (u.extract (k + 4 + q) u.size)) (u2, c, t) → Fd okL lenL (bs u) (u2, c, r.text :: t)) := ⟨h1, h2, HNX.out r h3 h4⟩
          clear h1 h2 h3 h4
          go_wp2_with fail
          go_ret
          exact .inl ⟨rfl, r, v, V', k + 4 + q, by omega, by omega, HR.out⟩
        · have HR : Hid (TkSt w T u V rv true w3 ∧ Fd okL lenL (bs u) ([], true, [])) := ⟨h1, HNO.out h2⟩
          clear h1 h2
          go_wp2_with fail
          go_ret
          exact .inr ⟨rfl, true, HR.out.1, HR.out.2⟩
      · have HF1 : Hid (Fd okL lenL (bs u) (bs u, false, [])) := Fd.short HNN.out (by rw [HQ.out]; omega) (by rw [HQ.out, bs_len]; omega)
        go_wp2_with fail
        go_ret
        exact .inr ⟨rfl, false, HS2.out, HF1.out⟩

/-- An answer's block: what is put into its two cells stands there. -/
theorem ans_put {w : World} {g : Nat} {x y : Value} (h : w.heap[g]? = some (.cells #[x, y] 25)) (x1 y1 : Value) :
    (w.cell? ⟨g, 0, none⟩ = some x ∧ w.cell? ⟨g, 1, none⟩ = some y ∧ w.frozen? ⟨g, 0, none⟩ = false ∧ w.frozen? ⟨g, 1, none⟩ = false) ∧ ((w.setCell ⟨g, 0, none⟩ x1).setCell ⟨g, 1, none⟩ y1).cell? ⟨g, 0, none⟩ = some x1 ∧ ((w.setCell ⟨g, 0, none⟩ x1).setCell ⟨g, 1, none⟩ y1).cell? ⟨g, 1, none⟩ = some y1 := by
  have h1 := heap_set w g 0 _ _ _ x1 h
  have h2 := heap_set (w.setCell ⟨g, 0, none⟩ x1) g 1 _ _ _ y1 h1
  refine ⟨⟨?_, ?_, ?_, ?_⟩, ?_, ?_⟩
  · simp [World.cell?, h]
  · simp [World.cell?, h]
  · simp [World.frozen?, h]
  · simp [World.frozen?, h]
  · simp [World.cell?, h2]
  · simp [World.cell?, h2]

set_option maxHeartbeats 1000000 in
theorem stream_bad (w : World) (T : Nat) (u : ByteArray) (V : Value) (rv : List (RqD × Value)) (c : Bool) (w0 : World) (hst : TkSt w T u V rv c w0) (h : c = true ∨ 1200 < u.size) :
    Calls Tryz.prog 16 #[.pointer (some ⟨T, 0, none⟩)] w0 fun e w' => e = .returned (.agg #[.string ⟨#[]⟩, .bool true]) ∧ Below w0.heap.size w0 w' := by
  have h0 : ∀ o, (w0.alloc o).cell? ⟨T, 0, none⟩ = some (.string u) := fun o => (hst.later ((Below.refl _ _).alloc (Nat.le_refl _) o)).cells.1
  have h2 : ∀ o, (w0.alloc o).cell? ⟨T, 2, none⟩ = some (.bool c) := fun o => (hst.later ((Below.refl _ _).alloc (Nat.le_refl _) o)).cells.2.2.1
  have HBW : Hid (Below w0.heap.size w0 (w0.alloc (.cells #[.string ⟨#[]⟩, .bool true] 25))) := (Below.refl _ _).alloc (Nat.le_refl _) _
  clear hst
  cases c with
  | true =>
    clear h
    go_enter Tryz.func16, Tryz.ntmps16
    go_wp2_with fail
    refine bodyPost_ret (v := .agg #[.string ⟨#[]⟩, .bool true]) (by simp [results, Tryz.results16, go_sem]) rfl ?_
    exact ⟨rfl, HBW.out⟩
  | false =>
    have h12 : (1200 : Int) < (u.size : Int) := by rcases h with h | h; · cases h
                                                   · omega
    clear h
    go_enter Tryz.func16, Tryz.ntmps16
    go_wp2_with fail
    refine bodyPost_ret (v := .agg #[.string ⟨#[]⟩, .bool true]) (by simp [results, Tryz.results16, go_sem]) rfl ?_
    exact ⟨rfl, HBW.out⟩

set_option maxHeartbeats 1000000 in
theorem stream_good (w : World) (T : Nat) (u : ByteArray) (V : Value) (rv : List (RqD × Value)) (w0 : World) (hst : TkSt w T u V rv false w0) (h : ¬ 1200 < u.size) :
    Calls Tryz.prog 16 #[.pointer (some ⟨T, 0, none⟩)] w0 fun e w' => e = .returned (.agg #[.string u, .bool false]) ∧ Below w0.heap.size w0 w' := by
  have h0 : ∀ o, (w0.alloc o).cell? ⟨T, 0, none⟩ = some (.string u) := fun o => (hst.later ((Below.refl _ _).alloc (Nat.le_refl _) o)).cells.1
  have h2 : ∀ o, (w0.alloc o).cell? ⟨T, 2, none⟩ = some (.bool false) := fun o => (hst.later ((Below.refl _ _).alloc (Nat.le_refl _) o)).cells.2.2.1
  have h12 : ¬ (1200 : Int) < (u.size : Int) := by omega
  clear hst h
  go_enter Tryz.func16, Tryz.ntmps16
  go_wp2_with fail
  refine (clone_any u _ (by omega)).mono ?_
  rintro e w1 ⟨rfl, b1⟩
  have hans : w1.heap[w0.heap.size]? = some (.cells #[.string ⟨#[]⟩, .bool false] 25) := by
    rw [b1.block _ (by simp)]
    exact heap_alloc_new w0 _
  obtain ⟨⟨k1, k2, k3, k4⟩, m3, m4⟩ := ans_put hans (.string u) (.bool false)
  have HBW : Hid (Below w0.heap.size w0 ((w1.setCell ⟨w0.heap.size, 0, none⟩ (.string u)).setCell ⟨w0.heap.size, 1, none⟩ (.bool false))) := ((((Below.refl _ w0).alloc (Nat.le_refl _) _).trans (b1.mono (by simp))).setCell (Nat.le_refl _) _).setCell (Nat.le_refl _) _
  clear b1 hans
  go_wp2_with fail
  refine bodyPost_ret (v := .agg #[.string u, .bool false]) (by simp [results, Tryz.results16, go_sem, m3, m4]) rfl ?_
  exact ⟨rfl, HBW.out⟩

/-- A list of one's own, from a lower number on. -/
theorem ReqsO.lower {w : World} {b b' : Nat} {V : Value} {rv : List (RqD × Value)} (h : ReqsO w b V rv) (hb : b' ≤ b) : ReqsO w b' V rv :=
  ⟨owns_base h.row hb, fun x hx => owns_base (h.own x hx) hb, h.apart⟩

set_option maxHeartbeats 4000000 in
set_option maxRecDepth 100000 in
theorem implFeed_any (wait : ByteArray) (bad : Bool) (piece : ByteArray) (w : World) (hs : wait.size + piece.size ≤ 2200000) (hT : TabOk w) (hL : LenOk w) :
    Calls Tryz.prog 7 #[.agg #[.string wait, .bool bad], .string piece] w fun e w' => FeedIs wait bad piece w e w' := by
  cases bad with
  | true =>
    have hF : FeedP okL lenL (bs wait) true (bs piece) (bs ⟨#[]⟩) true ([] : List (List UInt8)) := .inl ⟨rfl, rfl, rfl, rfl⟩
    have HF : Hid (FeedP okL lenL (bs wait) true (bs piece) (bs ⟨#[]⟩) true ([] : List (List UInt8))) := hF
    have HB : Hid (∀ o1 o2, Below w.heap.size w ((w.alloc o1).alloc o2)) := fun o1 o2 => ((Below.refl _ w).alloc (Nat.le_refl _) _).alloc (by simp) _
    clear hF hT hL
    go_enter Tryz.func7, Tryz.ntmps7
    go_wp2_with fail
    refine bodyPost_ret (v := .tuple #[.agg #[.string ⟨#[]⟩, .bool true], .slice none 0 0]) (by simp [results, Tryz.results7, go_sem]) rfl ?_
    exact ⟨⟨#[]⟩, true, _, [], rfl, ReqsO.nil _ _, by simp, HF.out, HB.out _ _⟩
  | false =>
    have q0 : ¬ 9223372036854775807 < wait.size + piece.size := by omega
    obtain ⟨all, hall⟩ : ∃ x, x = wait ++ piece := ⟨_, rfl⟩
    have hals : all.size ≤ 2200000 := by rw [hall, ByteArray.size_append]; omega
    have HALL : Hid (bs all = bs wait ++ bs piece) := by show _ = _; rw [hall, bs_append]
    have HXA : Hid (wait ++ piece = all) := hall.symm
    have HFIN : Hid (∀ (u : ByteArray) (c : Bool) (t : List (List UInt8)), Fd okL lenL (bs all) (if c = true then [] else bs u, c, t) → (((c = true ∨ 1200 < u.size) → FeedP okL lenL (bs wait) false (bs piece) (bs ⟨#[]⟩) true t) ∧ (c = false → ¬ 1200 < u.size → FeedP okL lenL (bs wait) false (bs piece) (bs u) false t))) := fun u c t h => by
      rw [HALL.out] at h
      cases c with
      | true => exact ⟨fun _ => .inr ⟨rfl, [], true, h, .inl ⟨.inl rfl, rfl, rfl⟩⟩, fun h1 _ => by cases h1⟩
      | false => exact ⟨fun hc => .inr ⟨rfl, bs u, false, h, .inl ⟨by rw [bs_len]; exact hc, rfl, rfl⟩⟩, fun h1 h2 => .inr ⟨rfl, bs u, false, h, .inr ⟨h1, by rw [bs_len]; exact h2, rfl, rfl⟩⟩⟩
    obtain ⟨W0, hW0⟩ : ∃ W, W = (w.alloc (Obj.cells #[.string wait, .bool false] 25)).alloc (Obj.cells #[.string ⟨#[]⟩, .bool false] 25) := ⟨_, rfl⟩
    obtain ⟨T, hTT⟩ : ∃ T, T = w.heap.size + 1 + 1 := ⟨_, rfl⟩
    have hWs : W0.heap.size = T := by rw [hW0, hTT]; simp
    have HB0 : Hid (Below w.heap.size w W0) := by
      show Below _ _ _
      rw [hW0]
      exact ((Below.refl _ w).alloc (Nat.le_refl _) _).alloc (by simp) _
    have HTB : Hid (∀ W, Below T W0 W → TabOk W) := fun W h => hT.below (HB0.out.trans (h.mono (by omega)))
    have HLN : Hid (∀ W, Below T W0 W → LenOk W) := fun W h => hL.below (HB0.out.trans (h.mono (by omega))) hL.lt
    have HAN : Hid (∀ W, Below T W0 W → W.heap[w.heap.size + 1]? = some (.cells #[.string ⟨#[]⟩, .bool false] 25)) := fun W h => by
      rw [h.block _ (by omega), hW0]
      have := heap_alloc_new (w.alloc (Obj.cells #[.string wait, .bool false] 25)) (Obj.cells #[.string ⟨#[]⟩, .bool false] 25)
      rw [World.size_alloc] at this
      exact this
    have HST : Hid (TkSt W0 T all (.slice none 0 0) [] false (W0.alloc (Obj.cells #[.string all, .slice none 0 0, .bool false] 41))) :=
      ⟨by rw [← hWs]; exact heap_alloc_new W0 _, (Below.refl _ _).alloc (by omega) _, ReqsO.nil _ _⟩
    have HW0 : Hid ((w.alloc (Obj.cells #[.string wait, .bool false] 25)).alloc (Obj.cells #[.string ⟨#[]⟩, .bool false] 25) = W0) := hW0.symm
    have HTT : Hid (w.heap.size + 1 + 1 = T) := hTT.symm
    clear hT hL hW0 hWs hall
    go_enter Tryz.func7, Tryz.ntmps7
    go_wp2_with fail
    rw [HW0.out, HXA.out, HTT.out]
    clear HW0 HXA hTT q0
    go_loopw [15] (fun _ wr => ∃ (u : ByteArray) (rv : List (RqD × Value)) (V : Value), u.size ≤ all.size ∧ 4 * rv.length + u.size ≤ all.size ∧ Hid (TkSt W0 T u V rv false wr) ∧ Hid (∀ x ∈ rv, x.1.ok) ∧ Hid (∀ u2 c t, Fd okL lenL (bs u) (u2, c, t) → Fd okL lenL (bs all) (u2, c, rv.map (fun x => x.1.text) ++ t))) (fun _ wr => match wr.cell? ⟨T, 0, none⟩ with | some (.string u) => u.size | _ => 0)
    case atStart => exact ⟨all, [], .slice none 0 0, Nat.le_refl _, by simp, HST, (by show ∀ x ∈ _, _; simp), fun u2 c t h => by simpa using h⟩
    case round =>
      obtain ⟨u, rv, V, hu, hrl, HS, HOK, HFD⟩ := hrel
      have HCU : Hid (wr.cell? ⟨T, 0, none⟩ = some (.string u)) := HS.out.cells.1
      go_wp2_with fail
      refine (takeOne_any W0 T u V rv _ HS.out (by omega) (by omega) HTB.out HLN.out).mono ?_
      rintro e w1 (⟨rfl, r, v, V', m, h4, hm, h1, h2, h3⟩ | ⟨rfl, c, h1, h2⟩)
      · have HS1 : Hid (TkSt W0 T (u.extract m u.size) V' (rv ++ [(r, v)]) false w1) := h1
        have HC1 : Hid (w1.cell? ⟨T, 0, none⟩ = some (.string (u.extract m u.size))) := h1.cells.1
        have HOK3 : Hid (∀ x ∈ rv ++ [(r, v)], x.1.ok) := fun x hx => by
          simp only [List.mem_append, List.mem_singleton] at hx
          rcases hx with hx | rfl
          · exact HOK.out x hx
          · exact h2
        have HFD3 : Hid (∀ u2 c t, Fd okL lenL (bs (u.extract m u.size)) (u2, c, t) → Fd okL lenL (bs all) (u2, c, (rv ++ [(r, v)]).map (fun x => x.1.text) ++ t)) := fun u2 c t h => by
          have h5 := HFD.out _ _ _ (h3 _ _ _ h)
          rw [List.map_append, List.append_assoc]
          exact h5
        clear h1 h2 h3
        go_wp2_with fail
        go_roundw
        case rel =>
          refine ⟨u.extract m u.size, rv ++ [(r, v)], V', ?_, ?_, HS1, HOK3, HFD3⟩
          · rw [ByteArray.size_extract]; omega
          · rw [ByteArray.size_extract, List.length_append, List.length_singleton]; omega
        case measure => rw [HC1.out, HCU.out]; simp only [ByteArray.size_extract]; omega
      · have HS1 : Hid (TkSt W0 T u V rv c w1) := h1
        have hF := HFD.out _ _ _ h2
        rw [List.append_nil] at hF
        obtain ⟨f1, f2⟩ := HFIN.out u c _ hF
        obtain ⟨G, hG⟩ : ∃ G, G = w.heap.size + 1 := ⟨_, rfl⟩
        have hGT : G ≠ T := by have := HTT.out; omega
        have HLO : Hid (w.heap.size ≤ T ∧ w.heap.size ≤ G) := by have := HTT.out; exact ⟨by omega, by omega⟩
        have HAG : Hid (∀ W, Below T W0 W → W.heap[G]? = some (.cells #[.string ⟨#[]⟩, .bool false] 25)) := by rw [hG]; exact HAN
        have HBU : Hid (∀ X Y W, Below w1.heap.size w1 W → W.cell? ⟨T, 1, none⟩ = some V ∧ (W.cell? ⟨G, 0, none⟩ = some (.string ⟨#[]⟩) ∧ W.cell? ⟨G, 1, none⟩ = some (.bool false) ∧ W.frozen? ⟨G, 0, none⟩ = false ∧ W.frozen? ⟨G, 1, none⟩ = false) ∧ ((W.setCell ⟨G, 0, none⟩ X).setCell ⟨G, 1, none⟩ Y).cell? ⟨T, 1, none⟩ = some V ∧ ((W.setCell ⟨G, 0, none⟩ X).setCell ⟨G, 1, none⟩ Y).cell? ⟨G, 0, none⟩ = some X ∧ ((W.setCell ⟨G, 0, none⟩ X).setCell ⟨G, 1, none⟩ Y).cell? ⟨G, 1, none⟩ = some Y ∧ Hid (ReqsO ((W.setCell ⟨G, 0, none⟩ X).setCell ⟨G, 1, none⟩ Y) w.heap.size V rv ∧ Below w.heap.size w ((W.setCell ⟨G, 0, none⟩ X).setCell ⟨G, 1, none⟩ Y))) := fun X Y W hW => by
          have hS := HS1.out.later hW
          have an := HAG.out W hS.low
          obtain ⟨a1, a2, a3⟩ := ans_put an X Y
          have an1 := heap_set W G 0 _ _ _ X an
          refine ⟨hS.cells.2.1, a1, ?_, a2, a3, ((hS.own.lower HLO.out.1).else an (by decide) (by decide) 0 X).else an1 (by decide) (by decide) 1 Y, ((HB0.out.trans (hS.low.mono HLO.out.1)).setCell HLO.out.2 _).setCell HLO.out.2 _⟩
          have e : ((W.setCell ⟨G, 0, none⟩ X).setCell ⟨G, 1, none⟩ Y).heap[T]? = W.heap[T]? := by
            rw [heap_setCell_other _ _ T _ (fun e => hGT e.symm), heap_setCell_other _ _ T _ (fun e => hGT e.symm)]
          simp [World.cell?, e, hS.tk]
        have hcd1 : w1.cell? ⟨T, 1, none⟩ = some V := h1.cells.2.1
        have hcd : w1.drew.cell? ⟨T, 1, none⟩ = some V := hcd1
        rw [← hG]
        clear h1 h2 hF hG HAN hGT
        by_cases hb : c = true ∨ 1200 < u.size
        · have HP : Hid (FeedP okL lenL (bs wait) false (bs piece) (bs ⟨#[]⟩) true (rv.map (fun x => x.1.text))) := f1 hb
          clear f1 f2
          go_wp2_with fail
          go_region_with (go_at_call 16; refine (stream_bad W0 T u V rv c _ (HS1.out.later ((Below.refl _ _).drew)) hb).mono ?_; rintro e w5 ⟨rfl, b5⟩; obtain ⟨c1, ⟨c2, c3, c4, c5⟩, c6, c7, c8, HQ⟩ := HBU.out (.string ⟨#[]⟩) (.bool true) w5 (((Below.refl _ _).drew).trans b5); clear b5)
          all_goals
            go_wp2_with fail
            refine bodyPost_ret (v := .tuple #[.agg #[.string ⟨#[]⟩, .bool true], V]) (by simp [results, Tryz.results7, go_sem, c7, c8]) rfl ?_
            exact ⟨⟨#[]⟩, true, V, rv, rfl, HQ.out.1, HOK.out, HP.out, HQ.out.2⟩
        · have hcf : c = false := by
            cases c with
            | true => exact absurd (.inl rfl) hb
            | false => rfl
          subst hcf
          have hb2 : ¬ 1200 < u.size := fun x => hb (.inr x)
          have HP : Hid (FeedP okL lenL (bs wait) false (bs piece) (bs u) false (rv.map (fun x => x.1.text))) := f2 rfl hb2
          clear f1 f2 hb
          go_wp2_with fail
          go_region_with (go_at_call 16; refine (stream_good W0 T u V rv _ (HS1.out.later ((Below.refl _ _).drew)) hb2).mono ?_; rintro e w5 ⟨rfl, b5⟩; obtain ⟨c1, ⟨c2, c3, c4, c5⟩, c6, c7, c8, HQ⟩ := HBU.out (.string u) (.bool false) w5 (((Below.refl _ _).drew).trans b5); clear b5)
          all_goals
            go_wp2_with fail
            refine bodyPost_ret (v := .tuple #[.agg #[.string u, .bool false], V]) (by simp [results, Tryz.results7, go_sem, c7, c8]) rfl ?_
            exact ⟨u, false, V, rv, rfl, HQ.out.1, HOK.out, HP.out, HQ.out.2⟩

end Go.Proofs.YtacfajnagbeocaaGreatDoor
