/- 'Feed' of the specification: a contract over the translation. -/
import Derived.Test.YtacfajnagbeocaaGreatDoorStreamLenS
import Derived.Test.YtacfajnagbeocaaGreatDoorStreamRows
import Derived.Test.YtacfajnagbeocaaGreatDoorMsgReq
import Derived.Deep.AppendLies
namespace Go.Proofs.YtacfajnagbeocaaGreatDoor
open Go.RowKit
open Go.Lib hiding intOf

/-- A call of Feed: what waits, whether it is bad, and a list of one's own of what was told. -/
def FeedIs (wait : ByteArray) (bad : Bool) (piece : ByteArray) (w : World) (e : Ending) (w' : World) : Prop :=
  ∃ (u : ByteArray) (c : Bool) (V : Value) (rv : List (RqD × Value)), e = .returned (.tuple #[.agg #[.string u, .bool c], V]) ∧ ReqsO w' w.heap.size V rv ∧ (∀ x ∈ rv, x.1.ok) ∧ FeedP okL lenL (bs wait) bad (bs piece) (bs u) c (rv.map (fun x => x.1.text)) ∧ Below w.heap.size w w'
theorem infoReq : (Tryz.prog.info? 37).map (fun i => (i.zero, i.size, i.bytes)) = some (some (.agg #[.int .i64 0, .string ⟨#[]⟩, .slice none 0 0, .string ⟨#[]⟩]), 4, 64) := by kernel_rfl

/-- While lines are read: the answer's block, the bad one's, and the list so far. -/
structure FdSt (w : World) (H : Nat) (V : Value) (rv : List (RqD × Value)) (wr : World) : Prop where
  res : ∃ a b, wr.heap[H + 1]? = some (.cells #[a, b] 25)
  bad : wr.heap[H + 1 + 1 + 1]? = some (.cells #[.string ⟨#[]⟩, .bool true] 25)
  low : Below H w wr
  own : ReqsO wr H V rv
theorem FdSt.later {w : World} {H : Nat} {V : Value} {rv : List (RqD × Value)} {wr w' : World} (h : FdSt w H V rv wr) (hH : H ≤ wr.heap.size) (hb : Below wr.heap.size wr w') : FdSt w H V rv w' := by
  obtain ⟨a, b, hr⟩ := h.res
  exact ⟨⟨a, b, by rw [hb.block _ (Array.getElem?_eq_some_iff.1 hr).1]; exact hr⟩, by rw [hb.block _ (Array.getElem?_eq_some_iff.1 h.bad).1]; exact h.bad, h.low.trans (hb.mono hH), h.own.later hb⟩
theorem FdSt.size {w : World} {H : Nat} {V : Value} {rv : List (RqD × Value)} {wr : World} (h : FdSt w H V rv wr) : H + 3 < wr.heap.size := (Array.getElem?_eq_some_iff.1 h.bad).1
theorem FdSt.cells {w : World} {H : Nat} {V : Value} {rv : List (RqD × Value)} {wr : World} (h : FdSt w H V rv wr) : (wr.cell? ⟨H + 1 + 1 + 1, 0, none⟩ = some (.string ⟨#[]⟩) ∧ wr.cell? ⟨H + 1 + 1 + 1, 1, none⟩ = some (.bool true)) ∧ (∃ a, wr.cell? ⟨H + 1, 0, none⟩ = some a) ∧ (∃ b, wr.cell? ⟨H + 1, 1, none⟩ = some b) ∧ wr.frozen? ⟨H + 1, 0, none⟩ = false ∧ wr.frozen? ⟨H + 1, 1, none⟩ = false := by
  obtain ⟨a, b, hr⟩ := h.res
  refine ⟨⟨?_, ?_⟩, ⟨a, ?_⟩, ⟨b, ?_⟩, ?_, ?_⟩ <;> simp [World.cell?, World.frozen?, hr, h.bad]
/-- A request more. -/
theorem FdSt.more {w : World} {H : Nat} {V V' : Value} {rv : List (RqD × Value)} {wr W : World} {r : RqD} {v : Value} {base' : Nat} (h : FdSt w H V rv wr) (hb' : H ≤ base') (hv : wr.ownsRow base' 63 2 v r.fs.length (flatF r.fs)) (hold : ∀ j, (∃ x ∈ rv, x.2.ownBlock = some j) → j < base') (hg : wr.grownBy W V.ownBlock) (hrow : W.ownsRow H 37 4 V' (rv.length + 1) (flatR rv ++ rqC (r, v))) : FdSt w H V' (rv ++ [(r, v)]) W := by
  obtain ⟨a, b, hr⟩ := h.res
  have hs := h.size
  refine ⟨⟨a, b, ?_⟩, ?_, ?_, h.own.more hb' hv hold hg hrow⟩
  · rw [hg.block _ (by omega) (fun e => own_noR h.own.row (by decide) hr e.symm)]; exact hr
  · rw [hg.block _ (by omega) (fun e => own_noR h.own.row (by decide) h.bad e.symm)]; exact h.bad
  · exact h.low.trans ((Below.refl H wr).grown hg (by omega) (fun g hg => (own_ltR h.own.row hg).1))

/-- A cell of another kind of block is stored: the list stands. -/
theorem ReqsO.else {w : World} {base : Nat} {V : Value} {rv : List (RqD × Value)} {q : Nat} {cs : Array Value} {T : TypeId} {fr : Nat × Nat} (h : ReqsO w base V rv) (hq : w.heap[q]? = some (.cells cs T fr)) (h1 : T ≠ 37) (h2 : T ≠ 63) (o : Nat) (x : Value) : ReqsO (w.setCell ⟨q, o, none⟩ x) base V rv :=
  ⟨owns_same h.row (fun j hj => heap_setCell_other _ _ j _ (fun e => by subst e; exact own_noR h.row h1 hq hj)), fun y hy => owns_same (h.own y hy) (fun j hj => heap_setCell_other _ _ j _ (fun e => by subst e; exact own_noR (h.own y hy) h2 hq hj)), h.apart⟩
theorem FdSt.answer {w : World} {H : Nat} {V : Value} {rv : List (RqD × Value)} {wr : World} (h : FdSt w H V rv wr) (x y : Value) : ReqsO ((wr.setCell ⟨H + 1, 0, none⟩ x).setCell ⟨H + 1, 1, none⟩ y) H V rv ∧ Below H w ((wr.setCell ⟨H + 1, 0, none⟩ x).setCell ⟨H + 1, 1, none⟩ y) ∧ ((wr.setCell ⟨H + 1, 0, none⟩ x).setCell ⟨H + 1, 1, none⟩ y).cell? ⟨H + 1, 0, none⟩ = some x ∧ ((wr.setCell ⟨H + 1, 0, none⟩ x).setCell ⟨H + 1, 1, none⟩ y).cell? ⟨H + 1, 1, none⟩ = some y := by
  obtain ⟨a, b, hr⟩ := h.res
  have hr1 := heap_set wr (H + 1) 0 _ _ _ x hr
  have hr2 := heap_set (wr.setCell ⟨H + 1, 0, none⟩ x) (H + 1) 1 _ _ _ y hr1
  refine ⟨(h.own.else hr (by decide) (by decide) 0 x).else hr1 (by decide) (by decide) 1 y, (h.low.setCell (by show H ≤ H + 1; omega) _).setCell (by show H ≤ H + 1; omega) _, ?_, ?_⟩
  · simp [World.cell?, hr2]
  · simp [World.cell?, hr2]

/-- Four blocks, one behind the other. -/
theorem four_new (w : World) (o0 o1 o2 o3 : Obj) : ((((w.alloc o0).alloc o1).alloc o2).alloc o3).heap[w.heap.size + 1]? = some o1 ∧ ((((w.alloc o0).alloc o1).alloc o2).alloc o3).heap[w.heap.size + 1 + 1]? = some o2 ∧ ((((w.alloc o0).alloc o1).alloc o2).alloc o3).heap[w.heap.size + 1 + 1 + 1]? = some o3 ∧ Below w.heap.size w ((((w.alloc o0).alloc o1).alloc o2).alloc o3) := by
  have e1 := heap_alloc_new (w.alloc o0) o1
  have e2 := heap_alloc_new ((w.alloc o0).alloc o1) o2
  have e3 := heap_alloc_new (((w.alloc o0).alloc o1).alloc o2) o3
  simp only [World.size_alloc] at e1 e2 e3
  refine ⟨?_, ?_, e3, ((((Below.refl _ w).alloc (Nat.le_refl _) _).alloc (by simp) _).alloc (by simp; omega) _).alloc (by simp; omega) _⟩
  · rw [heap_alloc_old _ _ (by simp), heap_alloc_old _ _ (by simp)]; exact e1
  · rw [heap_alloc_old _ _ (by simp)]; exact e2

set_option maxHeartbeats 4000000 in
set_option maxRecDepth 100000 in
theorem specFeed_any (wait : ByteArray) (bad : Bool) (piece : ByteArray) (w : World) (hs : wait.size + piece.size ≤ 2200000) :
    Calls Tryz.prog 5 #[.agg #[.string wait, .bool bad], .string piece] w fun e w' => FeedIs wait bad piece w e w' := by
  cases bad with
  | true =>
    have hF : FeedP okL lenL (bs wait) true (bs piece) (bs ⟨#[]⟩) true ([] : List (List UInt8)) := .inl ⟨rfl, rfl, rfl, rfl⟩
    have HF : Hid (FeedP okL lenL (bs wait) true (bs piece) (bs ⟨#[]⟩) true ([] : List (List UInt8))) := hF
    clear hF
    go_enter Tryz.func5, Tryz.ntmps5
    go_wp2_with fail
    refine bodyPost_ret (v := .tuple #[.agg #[.string ⟨#[]⟩, .bool true], .slice (some ⟨w.heap.size + 1 + 1, 0, none⟩) 0 0]) (by simp [results, Tryz.results5, go_sem]) rfl ?_
    obtain ⟨_, g2, _, g4⟩ := four_new w (Obj.cells #[.string wait, .bool true] 25) (Obj.cells #[.string ⟨#[]⟩, .bool true] 25) (Obj.cells #[] 37) (Obj.cells #[.string ⟨#[]⟩, .bool true] 25)
    exact ⟨⟨#[]⟩, true, _, [], rfl, ⟨⟨rfl, .inr ⟨w.heap.size + 1 + 1, 0, #[], rfl, by omega, g2, Nat.le_refl _, Nat.zero_le _, rfl, rfl⟩⟩, by simp, List.Pairwise.nil⟩, by simp, HF.out, g4⟩
  | false =>
    obtain ⟨i0, hi, hz0, hz1, hz2⟩ := info_parts infoReq
    have q0 : ¬ 9223372036854775807 < wait.size + piece.size := by omega
    have HST : Hid (FdSt w w.heap.size (.slice (some ⟨w.heap.size + 1 + 1, 0, none⟩) 0 0) [] ((((w.alloc (Obj.cells #[.string wait, .bool false] 25)).alloc (Obj.cells #[.string ⟨#[]⟩, .bool false] 25)).alloc (Obj.cells #[] 37)).alloc (Obj.cells #[.string ⟨#[]⟩, .bool true] 25))) := by
      obtain ⟨g1, g2, g3, g4⟩ := four_new w (Obj.cells #[.string wait, .bool false] 25) (Obj.cells #[.string ⟨#[]⟩, .bool false] 25) (Obj.cells #[] 37) (Obj.cells #[.string ⟨#[]⟩, .bool true] 25)
      exact ⟨⟨_, _, g1⟩, g3, g4, ⟨⟨rfl, .inr ⟨w.heap.size + 1 + 1, 0, #[], rfl, by omega, g2, Nat.le_refl _, Nat.zero_le _, rfl, rfl⟩⟩, by simp, List.Pairwise.nil⟩⟩
    go_enter Tryz.func5, Tryz.ntmps5
    go_wp2_with fail
    obtain ⟨all, hall⟩ : ∃ x, x = wait ++ piece := ⟨_, rfl⟩
    have hals : all.size ≤ 2200000 := by rw [hall, ByteArray.size_append]; omega
    have HALL : Hid (bs all = bs wait ++ bs piece) := by show _ = _; rw [hall, bs_append]
    rw [← hall]
    have HFIN : Hid (∀ (u : ByteArray) (c : Bool) (t : List (List UInt8)), Fd okL lenL (bs all) (bs u, c, t) → (((c = true ∨ 1200 < u.size) → FeedP okL lenL (bs wait) false (bs piece) (bs ⟨#[]⟩) true t) ∧ (c = false → ¬ 1200 < u.size → FeedP okL lenL (bs wait) false (bs piece) (bs u) false t))) := fun u c t h => by
      rw [HALL.out] at h
      exact ⟨fun hc => .inr ⟨rfl, bs u, c, h, .inl ⟨by rw [bs_len]; exact hc, rfl, rfl⟩⟩, fun h1 h2 => .inr ⟨rfl, bs u, c, h, .inr ⟨h1, by rw [bs_len]; exact h2, rfl, rfl⟩⟩⟩
    clear hall q0
    obtain ⟨H, hH⟩ : ∃ H, H = w.heap.size := ⟨_, rfl⟩
    have HW : Hid (w.heap.size = H) := hH.symm
    rw [← hH] at HST
    rw [← hH]
    clear hH
    go_loopw [6, 8] (fun a b wr => ∃ (u : ByteArray) (rv : List (RqD × Value)), b = .string u ∧ u.size ≤ all.size ∧ 4 * rv.length + u.size ≤ all.size ∧ Hid (FdSt w H a rv wr) ∧ Hid (∀ x ∈ rv, x.1.ok) ∧ Hid (∀ u2 c t, Fd okL lenL (bs u) (u2, c, t) → Fd okL lenL (bs all) (u2, c, rv.map (fun x => x.1.text) ++ t))) (fun _ b _ => match b with | .string u => u.size | _ => 0)
    case atStart => exact ⟨all, [], rfl, Nat.le_refl _, by simp, HST, (by show ∀ x ∈ _, _; simp), fun u2 c t h => by simpa using h⟩
    case round =>
      obtain ⟨u, rv, rfl, hu, hrl, HS, HOK, HFD⟩ := hrel
      have hus : u.size ≤ 2200000 := by omega
      have HH1 : Hid (H ≤ wr.heap.size) := by show _ ≤ _; have := HS.out.size; omega
      go_wp2_with fail
      refine (l5Head_any u _ (by omega)).mono ?_
      rintro e w0 ⟨rfl, rfl⟩
      cases hn : headN (bs u) with
      | none =>
        have hhi : headI (bs u) = -1 := by unfold headI; rw [hn]
        rw [hhi]
        have HF1 : Hid (Fd okL lenL (bs all) (bs u, false, rv.map (fun x => x.1.text))) := by
          have := HFD.out _ _ _ (Fd.none hn)
          rw [List.append_nil] at this
          exact this
        clear hn hhi
        by_cases h12 : (1200 : Int) < (u.size : Int)
        · have HP : Hid (FeedP okL lenL (bs wait) false (bs piece) (bs ⟨#[]⟩) true (rv.map (fun x => x.1.text))) := (HFIN.out u false _ HF1.out).1 (.inr (by omega))
          obtain ⟨⟨k1, k2⟩, ⟨x1, k3⟩, ⟨x2, k4⟩, k5, k6⟩ := HS.out.cells
          obtain ⟨m1, m2, m3, m4⟩ := HS.out.answer (.string ⟨#[]⟩) (.bool true)
          have HM : Hid _ := And.intro m1 m2
          clear m1 m2
          go_wp2_with fail
          refine bodyPost_ret (v := .tuple #[.agg #[.string ⟨#[]⟩, .bool true], u6]) (by simp [results, Tryz.results5, go_sem, m3, m4]) rfl ?_
          exact ⟨⟨#[]⟩, true, u6, rv, rfl, by rw [HW.out]; exact HM.out.1, HOK.out, HP.out, by rw [HW.out]; exact HM.out.2⟩
        · have HP : Hid (FeedP okL lenL (bs wait) false (bs piece) (bs u) false (rv.map (fun x => x.1.text))) := (HFIN.out u false _ HF1.out).2 rfl (by omega)
          obtain ⟨⟨k1, k2⟩, ⟨x1, k3⟩, ⟨x2, k4⟩, k5, k6⟩ := HS.out.cells
          obtain ⟨m1, m2, m3, m4⟩ := HS.out.answer (.string u) (.bool false)
          have HM : Hid _ := And.intro m1 m2
          clear m1 m2
          go_wp2_with fail
          refine bodyPost_ret (v := .tuple #[.agg #[.string u, .bool false], u6]) (by simp [results, Tryz.results5, go_sem, m3, m4]) rfl ?_
          exact ⟨u, false, u6, rv, rfl, by rw [HW.out]; exact HM.out.1, HOK.out, HP.out, by rw [HW.out]; exact HM.out.2⟩
      | some n =>
        have hhi : headI (bs u) = (n : Int) := by unfold headI; rw [hn]
        rw [hhi]
        have hnl := headN_len hn
        rw [bs_len] at hnl
        have HNN : Hid (headN (bs u) = some n) := hn
        have hnu : (n : Int) ≤ (u.size : Int) := by omega
        obtain ⟨hd, hhd⟩ : ∃ x, x = u.extract 0 n := ⟨_, rfl⟩
        have hhs : hd.size ≤ 4000000 := by rw [hhd, ByteArray.size_extract]; omega
        have HHD : Hid (bs hd = (bs u).take n) := by show _ = _; rw [hhd, bs_extract, List.drop_zero]
        have HXD : Hid (u.extract 0 n = hd) := hhd.symm
        clear hn hhi hhd
        go_wp2_with fail
        rw [HXD.out]
        refine (l5Length_any hd _ hhs).mono ?_
        rintro e w1 ⟨rfl, b1⟩
        have HS1 : Hid (FdSt w H u6 rv w1) := HS.out.later HH1.out b1
        have HH2 : Hid (H ≤ w1.heap.size) := by show _ ≤ _; have := HS1.out.size; omega
        obtain ⟨k, hk⟩ : ∃ k, k = lenL (bs hd) := ⟨_, rfl⟩
        rw [← hk]
        have HK : Hid (lenL ((bs u).take n) = k) := by show _ = _; rw [hk, HHD.out]
        have hk6 : k ≤ 1000000 := by rw [hk]; exact lenL_le _
        clear hk b1 HS HH1
        by_cases hk120 : (120 : Int) < (k : Int)
        · have HF1 : Hid (Fd okL lenL (bs all) (bs ⟨#[]⟩, true, rv.map (fun x => x.1.text))) := by
            have := HFD.out _ _ _ (Fd.long HNN.out (by rw [HK.out]; omega))
            rw [List.append_nil] at this
            exact this
          have HP : Hid (FeedP okL lenL (bs wait) false (bs piece) (bs ⟨#[]⟩) true (rv.map (fun x => x.1.text))) := (HFIN.out ⟨#[]⟩ true _ HF1.out).1 (.inl rfl)
          obtain ⟨⟨k1, k2⟩, ⟨x1, k3⟩, ⟨x2, k4⟩, k5, k6⟩ := HS1.out.cells
          obtain ⟨m1, m2, m3, m4⟩ := HS1.out.answer (.string ⟨#[]⟩) (.bool true)
          have HM : Hid _ := And.intro m1 m2
          clear m1 m2
          go_wp2_with fail
          refine bodyPost_ret (v := .tuple #[.agg #[.string ⟨#[]⟩, .bool true], u6]) (by simp [results, Tryz.results5, go_sem, m3, m4]) rfl ?_
          exact ⟨⟨#[]⟩, true, u6, rv, rfl, by rw [HW.out]; exact HM.out.1, HOK.out, HP.out, by rw [HW.out]; exact HM.out.2⟩
        · by_cases hshort : (u.size : Int) < (n : Int) + (k : Int)
          · have HF1 : Hid (Fd okL lenL (bs all) (bs u, false, rv.map (fun x => x.1.text))) := by
              have := HFD.out _ _ _ (Fd.short HNN.out (by rw [HK.out]; omega) (by rw [HK.out, bs_len]; omega))
              rw [List.append_nil] at this
              exact this
            by_cases h12 : (1200 : Int) < (u.size : Int)
            · have HP : Hid (FeedP okL lenL (bs wait) false (bs piece) (bs ⟨#[]⟩) true (rv.map (fun x => x.1.text))) := (HFIN.out u false _ HF1.out).1 (.inr (by omega))
              obtain ⟨⟨k1, k2⟩, ⟨x1, k3⟩, ⟨x2, k4⟩, k5, k6⟩ := HS1.out.cells
              obtain ⟨m1, m2, m3, m4⟩ := HS1.out.answer (.string ⟨#[]⟩) (.bool true)
              have HM : Hid _ := And.intro m1 m2
              clear m1 m2
              go_wp2_with fail
              refine bodyPost_ret (v := .tuple #[.agg #[.string ⟨#[]⟩, .bool true], u6]) (by simp [results, Tryz.results5, go_sem, m3, m4]) rfl ?_
              exact ⟨⟨#[]⟩, true, u6, rv, rfl, by rw [HW.out]; exact HM.out.1, HOK.out, HP.out, by rw [HW.out]; exact HM.out.2⟩
            · have HP : Hid (FeedP okL lenL (bs wait) false (bs piece) (bs u) false (rv.map (fun x => x.1.text))) := (HFIN.out u false _ HF1.out).2 rfl (by omega)
              obtain ⟨⟨k1, k2⟩, ⟨x1, k3⟩, ⟨x2, k4⟩, k5, k6⟩ := HS1.out.cells
              obtain ⟨m1, m2, m3, m4⟩ := HS1.out.answer (.string u) (.bool false)
              have HM : Hid _ := And.intro m1 m2
              clear m1 m2
              go_wp2_with fail
              refine bodyPost_ret (v := .tuple #[.agg #[.string u, .bool false], u6]) (by simp [results, Tryz.results5, go_sem, m3, m4]) rfl ?_
              exact ⟨u, false, u6, rv, rfl, by rw [HW.out]; exact HM.out.1, HOK.out, HP.out, by rw [HW.out]; exact HM.out.2⟩
          · have hnk : (n : Int) + (k : Int) ≤ (u.size : Int) := by omega
            have hnt : ((n : Int) + (k : Int)).toNat = n + k := by omega
            have hnk0 : (0 : Int) ≤ (n : Int) + (k : Int) := by omega
            obtain ⟨tx, htx⟩ : ∃ x, x = u.extract 0 (n + k) := ⟨_, rfl⟩
            have hts : tx.size ≤ 3000000 := by rw [htx, ByteArray.size_extract]; omega
            have HTX : Hid (bs tx = (bs u).take (n + k)) := by show _ = _; rw [htx, bs_extract, List.drop_zero]
            have HXT : Hid (u.extract 0 (n + k) = tx) := htx.symm
            clear htx
            go_wp2_with fail
            rw [HXT.out]
            refine (specReqRead_any tx _ hts).mono ?_
            rintro e w2 (⟨m, p, fs, b, v, rfl, hreq, hown, b2⟩ | ⟨rfl, hno, b2⟩)
            · obtain ⟨ov, cv, rfl⟩ := slice_of_owns hown
              obtain ⟨r, hr⟩ : ∃ r : RqD, r = ⟨m, p, fs, b⟩ := ⟨_, rfl⟩
              obtain ⟨nf, hnf⟩ : ∃ x, x = fs.length := ⟨_, rfl⟩
              rw [← hnf] at hown
              rw [← hnf]
              have HRC : Hid (rqC (r, .slice ov nf cv) = [.int .i64 m, .string p, .slice ov nf cv, .string b]) := by show _ = _; rw [hr]; rfl
              have HOKR : Hid (r.ok ∧ r.text = bs tx ∧ nf = r.fs.length) := by show _ ∧ _; rw [hr]; exact ⟨hreq.1, by show bs (reqT m p fs b) = bs tx; rw [hreq.2], hnf⟩
              have HS2 : Hid (FdSt w H u6 rv w2) := HS1.out.later HH2.out b2
              have HOLD : Hid (∀ j, (∃ x ∈ rv, x.2.ownBlock = some j) → j < w1.heap.size) := fun j hj => (HS1.out.own.lt j (.inr hj)).2
              have HOW : Hid (w2.ownsRow w1.heap.size 63 2 (.slice ov nf cv) r.fs.length (flatF r.fs)) := by show World.ownsRow _ _ _ _ _ _ _; rw [← HOKR.out.2.2, hr]; exact hown
              have HS3 : Hid (FdSt w H u6 rv (w2.alloc (Obj.cells #[.int .i64 m, .string p, .slice ov nf cv, .string b] 37))) := HS2.out.later (by have := HS2.out.size; omega) ((Below.refl _ w2).alloc (Nat.le_refl _) _)
              have HS4 : Hid (∀ o, FdSt w H u6 rv ((w2.alloc (Obj.cells #[.int .i64 m, .string p, .slice ov nf cv, .string b] 37)).alloc o)) := fun o => HS3.out.later (by have := HS3.out.size; omega) ((Below.refl _ _).alloc (Nat.le_refl _) _)
              have h63 : rv.length + 1 ≤ maxLen := by unfold maxLen; omega
              have h47 : (rv.length + 1) * 64 ≤ 140737488355328 := by omega
              have HBS : ∀ o, H ≤ ((w2.alloc (Obj.cells #[.int .i64 m, .string p, .slice ov nf cv, .string b] 37)).alloc o).heap.size := fun o => by have := (HS4.out o).size; omega
              have HOK2 : Hid (okL (bs tx) = true) := okL_yes hreq
              have hnews : ∀ j x, [Value.int .i64 m, .string p, .slice ov nf cv, .string b][j]? = some x → ((w2.alloc (Obj.cells #[.int .i64 m, .string p, .slice ov nf cv, .string b] 37)).alloc (Obj.cells #[.int .i64 m, .string p, .slice ov nf cv, .string b] 37)).cell? ((⟨w2.heap.size + 1, 0, none⟩ : Addr).add j) = some x := by
                have h := heap_alloc_new (w2.alloc (Obj.cells #[.int .i64 m, .string p, .slice ov nf cv, .string b] 37)) (Obj.cells #[.int .i64 m, .string p, .slice ov nf cv, .string b] 37)
                rw [World.size_alloc] at h
                exact World.news_of_block h
              clear hown hr hnf b2 hreq
              go_wp2_with (at_builtin; refine wpList_append_own _ rfl _ _ 26 rfl H 37 i0 (.agg #[.int .i64 0, .string ⟨#[]⟩, .slice none 0 0, .string ⟨#[]⟩]) 4 64 Tryz.underlying26 hi hz0 hz1 hz2 rfl (by decide) _ _ _ rfl (HS4.out _).own.row ⟨w2.heap.size + 1, 0, none⟩ 1 1 [.int .i64 m, .string p, .slice ov nf cv, .string b] rfl rfl hnews (by simp [Value.oneCell']) h63 h47 (HBS _) ?_)
              intro V2 W5 hown5 hgrow5 _
              have HS5 : Hid (FdSt w H V2 (rv ++ [(r, .slice ov nf cv)]) W5) := (HS4.out _).more HH2.out ((HOW.out.alloc _).alloc _) HOLD.out hgrow5 (by rw [HRC.out]; exact hown5)
              have HOK3 : Hid (∀ x ∈ rv ++ [(r, Value.slice ov nf cv)], x.1.ok) := fun x hx => by
                simp only [List.mem_append, List.mem_singleton] at hx
                rcases hx with hx | rfl
                · exact HOK.out x hx
                · exact HOKR.out.1
              have HFD3 : Hid (∀ u2 c t, Fd okL lenL (bs (u.extract (n + k) u.size)) (u2, c, t) → Fd okL lenL (bs all) (u2, c, (rv ++ [(r, Value.slice ov nf cv)]).map (fun x => x.1.text) ++ t)) := fun u2 c t h => by
                have h1 := Fd.next (ok := okL) (len := lenL) (u := u2) (b := c) (t := t) HNN.out (by rw [HK.out]; omega) (by rw [HK.out, bs_len]; omega) (by rw [HK.out, ← HTX.out]; exact HOK2.out) (by
                  rw [HK.out]
                  have e : bs (u.extract (n + k) u.size) = (bs u).drop (n + k) := by rw [bs_extract, List.take_of_length_le (by rw [bs_len]; exact Nat.le_refl _)]
                  rw [← e]
                  exact h)
                rw [HK.out, ← HTX.out] at h1
                have h2 := HFD.out _ _ _ h1
                rw [List.map_append, List.append_assoc]
                have e2 : ([(r, Value.slice ov nf cv)].map (fun x : RqD × Value => x.1.text) ++ t) = bs tx :: t := by
                  show r.text :: t = _
                  rw [HOKR.out.2.1]
                rw [e2]
                exact h2
              clear hown5 hgrow5 hnews
              go_wp2_with fail
              go_roundw
              case rel =>
                refine ⟨u.extract (n + k) u.size, rv ++ [(r, .slice ov nf cv)], rfl, ?_, ?_, HS5, HOK3, HFD3⟩
                · rw [ByteArray.size_extract]; omega
                · rw [ByteArray.size_extract, List.length_append, List.length_singleton]; omega
              case measure => simp; omega
            · have HS2 : Hid (FdSt w H u6 rv (w2.alloc (Obj.cells #[.int .i64 0, .string ⟨#[]⟩, .slice none 0 0, .string ⟨#[]⟩] 37))) := (HS1.out.later HH2.out b2).later (by have := (HS1.out.later HH2.out b2).size; omega) ((Below.refl _ w2).alloc (Nat.le_refl _) _)
              have HF1 : Hid (Fd okL lenL (bs all) (bs ⟨#[]⟩, true, rv.map (fun x => x.1.text))) := by
                have := HFD.out _ _ _ (Fd.wrong HNN.out (by rw [HK.out]; omega) (by rw [HK.out, bs_len]; omega) (by rw [HK.out, ← HTX.out]; exact okL_no hno))
                rw [List.append_nil] at this
                exact this
              have HP : Hid (FeedP okL lenL (bs wait) false (bs piece) (bs ⟨#[]⟩) true (rv.map (fun x => x.1.text))) := (HFIN.out ⟨#[]⟩ true _ HF1.out).1 (.inl rfl)
              clear b2 hno
              obtain ⟨⟨k1, k2⟩, ⟨x1, k3⟩, ⟨x2, k4⟩, k5, k6⟩ := HS2.out.cells
              obtain ⟨m1, m2, m3, m4⟩ := HS2.out.answer (.string ⟨#[]⟩) (.bool true)
              have HM : Hid _ := And.intro m1 m2
              clear m1 m2
              go_wp2_with fail
              refine bodyPost_ret (v := .tuple #[.agg #[.string ⟨#[]⟩, .bool true], u6]) (by simp [results, Tryz.results5, go_sem, m3, m4]) rfl ?_
              exact ⟨⟨#[]⟩, true, u6, rv, rfl, by rw [HW.out]; exact HM.out.1, HOK.out, HP.out, by rw [HW.out]; exact HM.out.2⟩

end Go.Proofs.YtacfajnagbeocaaGreatDoor
