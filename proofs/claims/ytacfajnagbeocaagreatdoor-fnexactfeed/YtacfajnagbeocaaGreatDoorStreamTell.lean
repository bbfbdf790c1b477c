/- 'tell', 'takeOne', 'stream' of the program: contracts over the translation. -/
import Derived.Test.YtacfajnagbeocaaGreatDoorStreamLenI
import Derived.Test.YtacfajnagbeocaaGreatDoorStreamFeedS
namespace Go.Proofs.YtacfajnagbeocaaGreatDoor
open Go.RowKit
open Go.Lib hiding intOf

/-- While requests are taken: what is left, what was told, and whether it is bad; the taker's block is T, all else of its own lies behind it. -/
structure TkSt (w : World) (T : Nat) (left : ByteArray) (V : Value) (rv : List (RqD × Value)) (bad : Bool) (wr : World) : Prop where
  tk : wr.heap[T]? = some (.cells #[.string left, V, .bool bad] 41)
  low : Below T w wr
  own : ReqsO wr T V rv
theorem TkSt.size {w : World} {T : Nat} {u : ByteArray} {V : Value} {rv : List (RqD × Value)} {bad : Bool} {wr : World} (h : TkSt w T u V rv bad wr) : T < wr.heap.size := (Array.getElem?_eq_some_iff.1 h.tk).1
theorem TkSt.later {w : World} {T : Nat} {u : ByteArray} {V : Value} {rv : List (RqD × Value)} {bad : Bool} {wr w' : World} (h : TkSt w T u V rv bad wr) (hb : Below wr.heap.size wr w') : TkSt w T u V rv bad w' :=
  ⟨by rw [hb.block _ h.size]; exact h.tk, h.low.trans (hb.mono (Nat.le_of_lt h.size)), h.own.later hb⟩
theorem TkSt.cells {w : World} {T : Nat} {u : ByteArray} {V : Value} {rv : List (RqD × Value)} {bad : Bool} {wr : World} (h : TkSt w T u V rv bad wr) : wr.cell? ⟨T, 0, none⟩ = some (.string u) ∧ wr.cell? ⟨T, 1, none⟩ = some V ∧ wr.cell? ⟨T, 2, none⟩ = some (.bool bad) ∧ ∀ o, wr.frozen? ⟨T, o, none⟩ = false := by
  have e := h.tk
  refine ⟨?_, ?_, ?_, fun o => ?_⟩ <;> simp [World.cell?, World.frozen?, e]
theorem TkSt.putLeft {w : World} {T : Nat} {u : ByteArray} {V : Value} {rv : List (RqD × Value)} {bad : Bool} {wr : World} (h : TkSt w T u V rv bad wr) (x : ByteArray) : TkSt w T x V rv bad (wr.setCell ⟨T, 0, none⟩ (.string x)) :=
  ⟨by rw [heap_set _ _ _ _ _ _ _ h.tk]; rfl, h.low.setCell (Nat.le_refl _) _, h.own.else h.tk (by decide) (by decide) 0 _⟩
theorem TkSt.putBad {w : World} {T : Nat} {u : ByteArray} {V : Value} {rv : List (RqD × Value)} {bad : Bool} {wr : World} (h : TkSt w T u V rv bad wr) (x : Bool) : TkSt w T u V rv x (wr.setCell ⟨T, 2, none⟩ (.bool x)) :=
  ⟨by rw [heap_set _ _ _ _ _ _ _ h.tk]; rfl, h.low.setCell (Nat.le_refl _) _, h.own.else h.tk (by decide) (by decide) 2 _⟩
/-- A request more. -/
theorem TkSt.more {w : World} {T : Nat} {u : ByteArray} {V V' : Value} {rv : List (RqD × Value)} {bad : Bool} {wr W : World} {r : RqD} {v : Value} {base' : Nat} (h : TkSt w T u V rv bad wr) (hb' : T ≤ base') (hv : wr.ownsRow base' 63 2 v r.fs.length (flatF r.fs)) (hold : ∀ j, (∃ x ∈ rv, x.2.ownBlock = some j) → j < base') (hg : wr.grownBy W V.ownBlock) (hrow : W.ownsRow T 37 4 V' (rv.length + 1) (flatR rv ++ rqC (r, v))) :
    W.heap[T]? = some (.cells #[.string u, V, .bool bad] 41) ∧ TkSt w T u V' (rv ++ [(r, v)]) bad (W.setCell ⟨T, 1, none⟩ V') := by
  have hs := h.size
  have hT : W.heap[T]? = some (.cells #[.string u, V, .bool bad] 41) := by
    rw [hg.block _ hs (fun e => own_noR h.own.row (by decide) h.tk e.symm)]; exact h.tk
  have hlow : Below T w W := h.low.trans ((Below.refl T wr).grown hg (by omega) (fun g hg => (own_ltR h.own.row hg).1))
  exact ⟨hT, by rw [heap_set _ _ _ _ _ _ _ hT]; rfl, hlow.setCell (Nat.le_refl _) _, (h.own.more hb' hv hold hg hrow).else hT (by decide) (by decide) 1 _⟩

/-- What 'tell' does. -/
def TellIs (w : World) (T : Nat) (u : ByteArray) (V : Value) (rv : List (RqD × Value)) (n : Nat) (e : Ending) (w' : World) : Prop :=
  (e = .returned (.bool true) ∧ ∃ r v V', TkSt w T (u.extract n u.size) V' (rv ++ [(r, v)]) false w' ∧ r.ok ∧ r.text = bs (u.extract 0 n) ∧ okL (bs (u.extract 0 n)) = true) ∨
  (e = .returned (.bool false) ∧ TkSt w T u V rv true w' ∧ ¬ okL (bs (u.extract 0 n)) = true)

set_option maxHeartbeats 4000000 in
set_option maxRecDepth 100000 in
theorem tell_any (w : World) (T : Nat) (u : ByteArray) (V : Value) (rv : List (RqD × Value)) (n : Nat) (w0 : World) (hst : TkSt w T u V rv false w0) (hn : n ≤ u.size) (hu : u.size ≤ 2200000) (hrl : rv.length ≤ 2200000) (hT : ∀ W, Below T w W → TabOk W) (hL : ∀ W, Below T w W → LenOk W) :
    Calls Tryz.prog 29 #[.pointer (some ⟨T, 0, none⟩), .int .i64 (n : Int)] w0 fun e w' => TellIs w T u V rv n e w' := by
  obtain ⟨i0, hi, hz0, hz1, hz2⟩ := info_parts infoReq
  obtain ⟨oa, cp, rfl⟩ := slice_of_owns hst.own.row
  obtain ⟨nr, hnr⟩ : ∃ x, x = rv.length := ⟨_, rfl⟩
  have HNR : Hid (nr = rv.length) := hnr
  obtain ⟨tx, htx⟩ : ∃ x, x = u.extract 0 n := ⟨_, rfl⟩
  have hts : tx.size ≤ 3000000 := by rw [htx, ByteArray.size_extract]; omega
  have HXT : Hid (u.extract 0 n = tx) := htx.symm
  have HTB : Hid (TabOk w0) := hT _ hst.low
  have HLN : Hid (LenOk w0) := hL _ hst.low
  have hnu : (n : Int) ≤ (u.size : Int) := by omega
  have HST : Hid (TkSt w T u (.slice oa nr cp) rv false w0) := by rw [hnr]; exact hst
  have hc0 := hst.cells.1
  rw [← hnr]
  have h63 : nr + 1 ≤ maxLen := by unfold maxLen; omega
  have h47 : (nr + 1) * 64 ≤ 140737488355328 := by omega
  clear hT hL hst htx hnr hrl
  go_enter Tryz.func29, Tryz.ntmps29
  go_wp2_with fail
  rw [HXT.out]
  refine (implReqRead_any tx _ hts HTB.out HLN.out).mono ?_
  rintro e w2 (⟨m, p, fs, b, v, rfl, hreq, hown, b2⟩ | ⟨rfl, hno, b2⟩)
  · obtain ⟨ov, cv, rfl⟩ := slice_of_owns hown
    obtain ⟨r, hr⟩ : ∃ r : RqD, r = ⟨m, p, fs, b⟩ := ⟨_, rfl⟩
    obtain ⟨nf, hnf⟩ : ∃ x, x = fs.length := ⟨_, rfl⟩
    rw [← hnf] at hown
    rw [← hnf]
    have HRC : Hid (rqC (r, .slice ov nf cv) = [.int .i64 m, .string p, .slice ov nf cv, .string b]) := by show _ = _; rw [hr]; rfl
    have HOKR : Hid (r.ok ∧ r.text = bs tx ∧ nf = r.fs.length) := by show _ ∧ _; rw [hr]; exact ⟨hreq.1, by show bs (reqT m p fs b) = bs tx; rw [hreq.2], hnf⟩
    have HOK2 : Hid (okL (bs tx) = true) := okL_yes hreq
    have HOLD : Hid (∀ j, (∃ x ∈ rv, x.2.ownBlock = some j) → j < w0.heap.size) := fun j hj => (HST.out.own.lt j (.inr hj)).2
    have HOW : Hid (w2.ownsRow w0.heap.size 63 2 (.slice ov nf cv) r.fs.length (flatF r.fs)) := by show World.ownsRow _ _ _ _ _ _ _; rw [← HOKR.out.2.2, hr]; exact hown
    have HTS : Hid (T ≤ w0.heap.size) := Nat.le_of_lt HST.out.size
    have HS2 : Hid (TkSt w T u (.slice oa nr cp) rv false w2) := HST.out.later b2
    obtain ⟨Wa, hWa⟩ : ∃ W, W = w2.alloc (Obj.cells #[.int .i64 m, .string p, .slice ov nf cv, .string b] 37) := ⟨_, rfl⟩
    have HS3 : Hid (TkSt w T u (.slice oa nr cp) rv false Wa) := by
      show TkSt _ _ _ _ _ _ _
      rw [hWa]
      exact HS2.out.later ((Below.refl _ _).alloc (Nat.le_refl _) _)
    have HOW3 : Hid (Wa.ownsRow w0.heap.size 63 2 (.slice ov nf cv) r.fs.length (flatF r.fs)) := by
      show World.ownsRow _ _ _ _ _ _ _
      rw [hWa]
      exact HOW.out.alloc _
    have HR3 : Hid (Wa.heap[w2.heap.size]? = some (Obj.cells #[.int .i64 m, .string p, .slice ov nf cv, .string b] 37)) := by show _ = _; rw [hWa]; exact heap_alloc_new w2 _
    have HDR : Hid (∀ o, TkSt w T u (.slice oa nr cp) rv false (Wa.drew.alloc o)) := fun o => (HS3.out.later ((Below.refl _ _).drew)).later ((Below.refl _ _).alloc (Nat.le_refl _) o)
    have HO3 : Hid (∀ o, (Wa.drew.alloc o).ownsRow T 37 4 (.slice oa nr cp) nr (flatR rv)) := fun o => by have := (HDR.out o).own.row; rw [← HNR.out] at this; exact this
    have HSZ : Hid (∀ o, T ≤ (Wa.drew.alloc o).heap.size) := fun o => Nat.le_of_lt (HDR.out o).size
    have HM : Hid (∀ W4 g cap, (Wa.drew.alloc (Obj.cells #[.int .i64 m, .string p, .slice ov nf cv, .string b] 37)).grownBy W4 (Value.slice oa nr cp).ownBlock → W4.ownsRow T 37 4 (.slice (some ⟨g, 0, none⟩) (nr + 1) cap) (nr + 1) (flatR rv ++ [.int .i64 m, .string p, .slice ov nf cv, .string b]) →
        W4.cell? ⟨T, 1, none⟩ = some (.slice oa nr cp) ∧ W4.frozen? ⟨T, 1, none⟩ = false ∧ (W4.setCell ⟨T, 1, none⟩ (.slice (some ⟨g, 0, none⟩) (nr + 1) cap)).cell? ⟨T, 0, none⟩ = some (.string u) ∧ (W4.setCell ⟨T, 1, none⟩ (.slice (some ⟨g, 0, none⟩) (nr + 1) cap)).frozen? ⟨T, 0, none⟩ = false ∧
        Hid (TkSt w T u (.slice (some ⟨g, 0, none⟩) (nr + 1) cap) (rv ++ [(r, .slice ov nf cv)]) false (W4.setCell ⟨T, 1, none⟩ (.slice (some ⟨g, 0, none⟩) (nr + 1) cap)))) := fun W4 g cap hg ho => by
      have hd : Wa.drew.ownsRow w0.heap.size 63 2 (.slice ov nf cv) r.fs.length (flatF r.fs) := owns_below HOW3.out ((Below.refl _ _).drew) (fun g hg => (own_ltR HOW3.out hg).2)
      obtain ⟨k1, k2⟩ := (HDR.out _).more (V' := .slice (some ⟨g, 0, none⟩) (nr + 1) cap) (r := r) (v := .slice ov nf cv) HTS.out (hd.alloc _) HOLD.out hg (by rw [← HNR.out, HRC.out]; exact ho)
      exact ⟨by simp [World.cell?, k1], by simp [World.frozen?, k1], k2.cells.1, k2.cells.2.2.2 0, k2⟩
    have hc3 : Wa.cell? ⟨T, 1, none⟩ = some (.slice oa nr cp) := HS3.out.cells.2.1
    have hcd3 : Wa.drew.cell? ⟨T, 1, none⟩ = some (.slice oa nr cp) := HS3.out.cells.2.1
    have hca3 : ∀ o, (Wa.drew.alloc o).cell? ⟨T, 1, none⟩ = some (.slice oa nr cp) := fun o => (HDR.out o).cells.2.1
    have hcb3 : ∀ o, (Wa.alloc o).cell? ⟨T, 1, none⟩ = some (.slice oa nr cp) := fun o => hca3 o
    have hq0 : Wa.cell? ⟨w2.heap.size, 0, none⟩ = some (.int .i64 m) := by simp [World.cell?, HR3.out]
    have hq1 : Wa.cell? ⟨w2.heap.size, 1, none⟩ = some (.string p) := by simp [World.cell?, HR3.out]
    have hq2 : Wa.cell? ⟨w2.heap.size, 2, none⟩ = some (.slice ov nf cv) := by simp [World.cell?, HR3.out]
    have hq3 : Wa.cell? ⟨w2.heap.size, 3, none⟩ = some (.string b) := by simp [World.cell?, HR3.out]
    have hr0 : Wa.drew.cell? ⟨w2.heap.size, 0, none⟩ = some (.int .i64 m) := hq0
    have hr1 : Wa.drew.cell? ⟨w2.heap.size, 1, none⟩ = some (.string p) := hq1
    have hr2 : Wa.drew.cell? ⟨w2.heap.size, 2, none⟩ = some (.slice ov nf cv) := hq2
    have hr3 : Wa.drew.cell? ⟨w2.heap.size, 3, none⟩ = some (.string b) := hq3
    have hnews : ∀ j x, [Value.int .i64 m, .string p, .slice ov nf cv, .string b][j]? = some x → (Wa.drew.alloc (Obj.cells #[.int .i64 m, .string p, .slice ov nf cv, .string b] 37)).cell? ((⟨Wa.heap.size, 0, none⟩ : Addr).add j) = some x := World.news_of_block (heap_alloc_new Wa.drew _)
    have HWA : Hid (w2.alloc (Obj.cells #[.int .i64 m, .string p, .slice ov nf cv, .string b] 37) = Wa) := hWa.symm
    clear hown hr hnf b2 hreq hWa hc0
    go_wp2_with fail
    rw [HWA.out]
    go_region_law (refine step_append_lies _ (by rfl) _ _ _ (by rfl) T 37 i0 (.agg #[.int .i64 0, .string ⟨#[]⟩, .slice none 0 0, .string ⟨#[]⟩]) 4 64 Tryz.underlying26 hi hz0 hz1 hz2 rfl (by omega) (.slice oa nr cp) nr (flatR rv) (by rfl) (HO3.out _) ⟨Wa.heap.size, 0, none⟩ 1 1 [.int .i64 m, .string p, .slice ov nf cv, .string b] (by rfl) (by rfl) hnews (by simp [Value.oneCell']) (by omega) h63 h47 (HSZ.out _) (Wa.heap.size + 1) (by simp) ?_; intro g4 cap4 w4 hown4 hgrow4 hat4 hlt4; obtain ⟨hc4, hf4, hc5, hf5, HS5⟩ := HM.out w4 g4 cap4 hgrow4 hown4; clear hown4 hgrow4 hat4 hlt4)
    all_goals
      have HS6 : Hid _ := HS5.out.putLeft (u.extract n u.size)
      go_wp2_with fail
      go_ret
      exact .inl ⟨rfl, r, .slice ov nf cv, _, HS6.out, HOKR.out.1, by rw [HXT.out]; exact HOKR.out.2.1, by rw [HXT.out]; exact HOK2.out⟩
  · have HS2 : Hid (TkSt w T u (.slice oa nr cp) rv false (w2.alloc (Obj.cells #[.int .i64 0, .string ⟨#[]⟩, .slice none 0 0, .string ⟨#[]⟩] 37))) := (HST.out.later b2).later ((Below.refl _ w2).alloc (Nat.le_refl _) _)
    have HNO : Hid (¬ okL (bs tx) = true) := okL_no hno
    have hc2 := HS2.out.cells.2.2.1
    have hf2 := HS2.out.cells.2.2.2 2
    have HS3 := HS2.out.putBad true
    have HS4 : Hid _ := HS3
    clear b2 hno HS3 hc0
    go_wp2_with fail
    go_ret
    exact .inr ⟨rfl, HS4.out, by rw [HXT.out]; exact HNO.out⟩

end Go.Proofs.YtacfajnagbeocaaGreatDoor
