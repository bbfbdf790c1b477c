/- What the proof of FnExactServed leans on: contracts of the program's and the specification's functions, and plain facts (part 7 of 7). -/
import Derived.Test.YtajccgffallajaaGreatFnExactServedF
namespace Go.Proofs.YtajccgffallajaaGreat
open Go.RowKit
open Go.Lib hiding intOf

set_option maxRecDepth 100000 in
theorem objTimeC {H : Type} {enc : TypeId × Value → H} {W : World} {fuel : Nat} {p b : ByteArray} {v1 v2 v3 : Value} {st t : Int} {x : DataW H × List MemPlace} (h : DataW.trod enc Tryz.prog W 0 (fun _ => true) true fuel 99 [.string p, v1, v2, .int .i64 st, v3, .string b, .int .i64 t] = some x) : -9223372036854775808 ≤ t := by
  obtain ⟨ys, q, _, _, _, hyl, hg⟩ := DataW.trod_struct Tryz.underlying99 h
  have e3 : Tryz.prog.cellsOf 3 = 1 := by kernel_rfl
  have g4 := hg 4 _ rfl
  simp [e3] at g4
  have hy5 : ys.length = 5 := hyl
  rw [List.getElem?_eq_getElem (show 4 < ys.length by omega)] at g4
  obtain ⟨n, hn, _, hw⟩ := DataW.trod_int Tryz.underlying3 g4
  simp only [List.cons.injEq, Value.int.injEq, true_and, and_true] at hn
  rw [hn]
  exact (bounds_i64 hw).1

set_option maxRecDepth 100000 in
set_option maxHeartbeats 4000000 in
/-- A list of Reply among the arguments. -/
theorem openReplyS {H : Type} {enc : TypeId × Value → H} {W : World} {fuel : Nat} {a : Option Addr} {n cap : Nat} {x : DataW H × List MemPlace} (h : DataW.trod enc Tryz.prog W 0 (fun _ => true) true fuel 32 [.slice a n cap] = some x) :
    ∃ ks, ArgReply W W.heap.size a n ks ∧ n ≤ maxLen ∧ ∀ k ∈ ks, RpMax k := by
  rcases Go.Deep.open_slice Tryz.underlying32 h with ⟨hcs, _⟩ | ⟨ad, len, c, m, q, Dd, Pl, hcs, _, hl, hm, hmm, _, hx⟩
  · simp at hcs
    obtain ⟨rfl, rfl, rfl⟩ := hcs
    exact ⟨[], ⟨rfl, fun i hi => absurd hi (by omega)⟩, Nat.zero_le _, fun x hx => by simp at hx⟩
  · simp at hcs
    obtain ⟨rfl, rfl, rfl⟩ := hcs
    have hm2 : m = cap := by simpa using hmm
    have ce : Tryz.prog.cellsOf 107 = 18 := by kernel_rfl
    have ci : Tryz.prog.cellsOf 3 = 1 := by kernel_rfl
    have cReq : Tryz.prog.cellsOf 94 = 4 := by kernel_rfl
    have cResp : Tryz.prog.cellsOf 97 = 3 := by kernel_rfl
    have cObj : Tryz.prog.cellsOf 99 = 7 := by kernel_rfl
    have each : ∀ i, i < n → ∃ y : RpD, (∃ (a3 : Option Addr) (c3 : Nat) (a6 : Option Addr) (c6 : Nat) (a11 : Option Addr) (c11 : Nat) (a12 : Option Addr) (c12 : Nat) (a14 : Option Addr) (c14 : Nat), (W.cell? (ad.add (i * 18 + 0)) = some (.int .i64 y.cli) ∧ W.cell? (ad.add (i * 18 + 1)) = some (.int .i64 y.qmt) ∧ W.cell? (ad.add (i * 18 + 2)) = some (.string y.qpa) ∧ W.cell? (ad.add (i * 18 + 3)) = some (.slice a3 y.qfs.length c3) ∧ W.cell? (ad.add (i * 18 + 4)) = some (.string y.qbd) ∧ W.cell? (ad.add (i * 18 + 5)) = some (.int .i64 y.rst) ∧ W.cell? (ad.add (i * 18 + 6)) = some (.slice a6 y.rfs.length c6) ∧ W.cell? (ad.add (i * 18 + 7)) = some (.string y.rbd) ∧ W.cell? (ad.add (i * 18 + 8)) = some (.int .i64 y.knd) ∧ W.cell? (ad.add (i * 18 + 9)) = some (.int .i64 y.tim) ∧ W.cell? (ad.add (i * 18 + 10)) = some (.string y.opa) ∧ W.cell? (ad.add (i * 18 + 11)) = some (.slice a11 y.oxs.length c11) ∧ W.cell? (ad.add (i * 18 + 12)) = some (.slice a12 y.oys.length c12) ∧ W.cell? (ad.add (i * 18 + 13)) = some (.int .i64 y.ost) ∧ W.cell? (ad.add (i * 18 + 14)) = some (.slice a14 y.ofs.length c14) ∧ W.cell? (ad.add (i * 18 + 15)) = some (.string y.obd) ∧ W.cell? (ad.add (i * 18 + 16)) = some (.int .i64 y.otm) ∧ W.cell? (ad.add (i * 18 + 17)) = some (.int .i64 y.bns)) ∧ ArgF W W.heap.size a3 y.qfs.length y.qfs ∧ ArgF W W.heap.size a6 y.rfs.length y.rfs ∧ ArgT W W.heap.size a11 y.oxs.length y.oxs ∧ ArgT W W.heap.size a12 y.oys.length y.oys ∧ ArgF W W.heap.size a14 y.ofs.length y.ofs) ∧ RpMax y := by
      intro i hi
      obtain ⟨cs', h1, h2⟩ := hx i (by omega)
      rw [ce] at h1
      obtain ⟨_, hlen, hcell⟩ := World.cells?_some h1
      obtain ⟨xs, k, hk, hxy, _, hxl, hf⟩ := DataW.trod_struct Tryz.underlying107 h2
      match xs, hxl, cs', hlen with
      | [x0, x1, x2, x3, x4, x5, x6], _, [v0, v1, v2, v3, v4, v5, v6, v7, v8, v9, v10, v11, v12, v13, v14, v15, v16, v17], _ =>
        have g0 := hf 0 _ rfl
        have g1 := hf 1 _ rfl
        have g2 := hf 2 _ rfl
        have g3 := hf 3 _ rfl
        have g4 := hf 4 _ rfl
        have g5 := hf 5 _ rfl
        have g6 := hf 6 _ rfl
        simp [ci, cReq, cResp, cObj] at g0 g1 g2 g3 g4 g5 g6
        obtain ⟨cli, e0, _, hwcli⟩ := DataW.trod_int Tryz.underlying3 g0
        simp only [List.cons.injEq, and_true] at e0
        subst e0
        obtain ⟨qmt, qpa, qfs, qbd, a3, n3, c3, ⟨rfl, rfl, rfl, rfl⟩, w3, m3, s3, zqpa, zqbd⟩ := cellsReq g1
        obtain ⟨rst, rfs, rbd, a6, n6, c6, ⟨rfl, rfl, rfl⟩, w6, m6, s6, zrbd⟩ := cellsResp g2
        obtain ⟨knd, e3, _, _⟩ := DataW.trod_int Tryz.underlying3 g3
        simp only [List.cons.injEq, and_true] at e3
        subst e3
        obtain ⟨tim, e4, _, hwtim⟩ := DataW.trod_int Tryz.underlying3 g4
        simp only [List.cons.injEq, and_true] at e4
        subst e4
        obtain ⟨opa, a11, n11, c11, oxs, a12, n12, c12, oys, ost, a14, n14, c14, ofs, obd, otm, ⟨rfl, rfl, rfl, rfl, rfl, rfl, rfl⟩, w11, w12, w14, m11, m12, m14, s11, s12, s14, zopa, zobd⟩ := objCells g5
        have hot := objTimeC g5
        obtain ⟨bns, e6, _, _⟩ := DataW.trod_int Tryz.underlying3 g6
        simp only [List.cons.injEq, and_true] at e6
        subst e6
        obtain rfl := w3.len
        obtain rfl := w6.len
        obtain rfl := w11.len
        obtain rfl := w12.len
        obtain rfl := w14.len
        have c0x := hcell 0 (by omega)
        have c1x := hcell 1 (by omega)
        have c2x := hcell 2 (by omega)
        have c3x := hcell 3 (by omega)
        have c4x := hcell 4 (by omega)
        have c5x := hcell 5 (by omega)
        have c6x := hcell 6 (by omega)
        have c7x := hcell 7 (by omega)
        have c8x := hcell 8 (by omega)
        have c9x := hcell 9 (by omega)
        have c10x := hcell 10 (by omega)
        have c11x := hcell 11 (by omega)
        have c12x := hcell 12 (by omega)
        have c13x := hcell 13 (by omega)
        have c14x := hcell 14 (by omega)
        have c15x := hcell 15 (by omega)
        have c16x := hcell 16 (by omega)
        have c17x := hcell 17 (by omega)
        rw [Go.Deep.add_add] at c0x c1x c2x c3x c4x c5x c6x c7x c8x c9x c10x c11x c12x c13x c14x c15x c16x c17x
        refine ⟨⟨cli, qmt, qpa, qfs, qbd, rst, rfs, rbd, knd, tim, opa, oxs, oys, ost, ofs, obd, otm, bns⟩, ⟨a3, c3, a6, c6, a11, c11, a12, c12, a14, c14, ⟨by simpa using c0x, by simpa using c1x, by simpa using c2x, by simpa using c3x, by simpa using c4x, by simpa using c5x, by simpa using c6x, by simpa using c7x, by simpa using c8x, by simpa using c9x, by simpa using c10x, by simpa using c11x, by simpa using c12x, by simpa using c13x, by simpa using c14x, by simpa using c15x, by simpa using c16x, by simpa using c17x⟩, w3, w6, w11, w12, w14⟩, ⟨zqpa, ⟨m3, s3⟩, zqbd, ⟨m6, s6⟩, zrbd, zopa, ⟨m11, s11⟩, ⟨m12, s12⟩, ⟨m14, s14⟩, zobd, ⟨hot, (bounds_i64 hwtim).2⟩, bounds_i64 hwcli⟩⟩
    haveI : Inhabited RpD := ⟨zeroRp⟩
    obtain ⟨q, hq⟩ := Go.Deep.choose_lt each
    have hat : ∀ i, i < n → rpAt ((List.range n).map q) i = q i := fun i hi => by
      unfold rpAt
      rw [List.getD_eq_getElem?_getD, List.getElem?_map, List.getElem?_range hi]
      rfl
    refine ⟨(List.range n).map q, ⟨by simp, fun i hi => ?_⟩, by omega, fun x hx => ?_⟩
    · obtain ⟨⟨a3, c3, a6, c6, a11, c11, a12, c12, a14, c14, cc, w3, w6, w11, w12, w14⟩, _⟩ := hq i hi
      have hsp : ad.spot = none := by
        obtain ⟨⟨_, _, _, _, _, _, _, _, _, _, c3, _⟩, _⟩ := hq 0 (by omega)
        have := World.cell?_spot c3.1
        simpa [Addr.add] using this
      obtain ⟨b, off, sp⟩ := ad
      simp only at hsp
      subst hsp
      simp only [addr_add] at cc
      rw [hat i hi]
      have hlt := World.block_lt_of_cell? W _ cc.1
      exact ⟨b, off, rfl, hlt, a3, c3, a6, c6, a11, c11, a12, c12, a14, c14, ⟨by simpa [Nat.add_assoc] using cc.1, by simpa [Nat.add_assoc] using cc.2.1, by simpa [Nat.add_assoc] using cc.2.2.1, by simpa [Nat.add_assoc] using cc.2.2.2.1, by simpa [Nat.add_assoc] using cc.2.2.2.2.1, by simpa [Nat.add_assoc] using cc.2.2.2.2.2.1, by simpa [Nat.add_assoc] using cc.2.2.2.2.2.2.1, by simpa [Nat.add_assoc] using cc.2.2.2.2.2.2.2.1, by simpa [Nat.add_assoc] using cc.2.2.2.2.2.2.2.2.1, by simpa [Nat.add_assoc] using cc.2.2.2.2.2.2.2.2.2.1, by simpa [Nat.add_assoc] using cc.2.2.2.2.2.2.2.2.2.2.1, by simpa [Nat.add_assoc] using cc.2.2.2.2.2.2.2.2.2.2.2.1, by simpa [Nat.add_assoc] using cc.2.2.2.2.2.2.2.2.2.2.2.2.1, by simpa [Nat.add_assoc] using cc.2.2.2.2.2.2.2.2.2.2.2.2.2.1, by simpa [Nat.add_assoc] using cc.2.2.2.2.2.2.2.2.2.2.2.2.2.2.1, by simpa [Nat.add_assoc] using cc.2.2.2.2.2.2.2.2.2.2.2.2.2.2.2.1, by simpa [Nat.add_assoc] using cc.2.2.2.2.2.2.2.2.2.2.2.2.2.2.2.2.1, by simpa [Nat.add_assoc] using cc.2.2.2.2.2.2.2.2.2.2.2.2.2.2.2.2.2⟩, w3, w6, w11, w12, w14⟩
    · obtain ⟨i, hi, rfl⟩ := List.mem_map.1 hx
      exact (hq i (List.mem_range.1 hi)).2

end Go.Proofs.YtajccgffallajaaGreat

namespace Go.Proofs.YtajccgffallajaaGreat
open Go.RowKit Go.WideShapes
open Go.Lib hiding intOf

set_option maxRecDepth 100000 in
/-- A store's six cells among the arguments. -/
theorem cellsShelf {H : Type} {enc : TypeId × Value → H} {W : World} {fuel : Nat} {d0 d1 d2 d3 d4 d5 : Value} {x : DataW H × List MemPlace} (hf : DataW.trod enc Tryz.prog W 0 (fun _ => true) true fuel 29 [d0, d1, d2, d3, d4, d5] = some x) :
    ∃ (a1 : Option Addr) (n1 c1 : Nat) (cs : List ByteArray) (a2 : Option Addr) (n2 c2 : Nat) (ws : List (Int × ByteArray)) (a3 : Option Addr) (n3 c3 : Nat) (ks : List KpD) (a4 : Option Addr) (n4 c4 : Nat) (bl : List (Int × ByteArray × ByteArray × Int)) (nx sq : Int), (d0 = .slice a1 n1 c1 ∧ d1 = .slice a2 n2 c2 ∧ d2 = .slice a3 n3 c3 ∧ d3 = .slice a4 n4 c4 ∧ d4 = .int .i64 nx ∧ d5 = .int .i64 sq) ∧ ArgT W W.heap.size a1 n1 cs ∧ ArgWrite W W.heap.size a2 n2 ws ∧ ArgKept W W.heap.size a3 n3 ks ∧ ArgBan W W.heap.size a4 n4 bl ∧ (n1 ≤ maxLen ∧ n2 ≤ maxLen ∧ n3 ≤ maxLen ∧ n4 ≤ maxLen ∧ (∀ i, i < n1 → (textAt cs i).size ≤ maxLen) ∧ (∀ x ∈ ws, (x.2).size ≤ maxLen) ∧ (∀ k ∈ ks, KpMax k) ∧ ∀ x ∈ bl, (x.2.1).size ≤ maxLen ∧ (x.2.2.1).size ≤ maxLen) := by
  obtain ⟨ys, q, _, _, _, hyl, hg⟩ := DataW.trod_struct Tryz.underlying29 hf
  have hcD : Tryz.prog.cellsOf 25 = 2 := by kernel_rfl
  have e3 : Tryz.prog.cellsOf 3 = 1 := by kernel_rfl
  have eK : Tryz.prog.cellsOf 26 = 1 := by kernel_rfl
  have eB : Tryz.prog.cellsOf 27 = 1 := by kernel_rfl
  have eS : Tryz.prog.cellsOf 22 = 1 := by kernel_rfl
  have eW : Tryz.prog.cellsOf 23 = 1 := by kernel_rfl
  have g0 := hg 0 _ rfl
  have g1 := hg 1 _ rfl
  have g2 := hg 2 _ rfl
  have g3 := hg 3 _ rfl
  have g4 := hg 4 _ rfl
  simp [e3, eK, eB, hcD] at g0 g1 g2 g3 g4
  have hy5 : ys.length = 5 := hyl
  rw [List.getElem?_eq_getElem (show 0 < ys.length by omega)] at g0
  rw [List.getElem?_eq_getElem (show 1 < ys.length by omega)] at g1
  rw [List.getElem?_eq_getElem (show 2 < ys.length by omega)] at g2
  rw [List.getElem?_eq_getElem (show 3 < ys.length by omega)] at g3
  rw [List.getElem?_eq_getElem (show 4 < ys.length by omega)] at g4
  obtain ⟨zs, q2, _, _, _, hzl, hk⟩ := DataW.trod_struct Tryz.underlying25 g0
  have k0 := hk 0 _ rfl
  have k1 := hk 1 _ rfl
  simp [eS, eW] at k0 k1
  have hz2 : zs.length = 2 := hzl
  rw [List.getElem?_eq_getElem (show 0 < zs.length by omega)] at k0
  rw [List.getElem?_eq_getElem (show 1 < zs.length by omega)] at k1
  obtain ⟨a1, n1, c1, rfl⟩ : ∃ a n cap, d0 = .slice a n cap := by
    rcases DataW.trod_slice Tryz.underlying22 k0 with ⟨h, _⟩ | ⟨a, n, cap, _, _, _, _, h, _⟩
    · exact ⟨none, 0, 0, by simpa using h⟩
    · exact ⟨_, n, cap, by simpa using h⟩
  obtain ⟨a2, n2, c2, rfl⟩ : ∃ a n cap, d1 = .slice a n cap := by
    rcases DataW.trod_slice Tryz.underlying23 k1 with ⟨h, _⟩ | ⟨a, n, cap, _, _, _, _, h, _⟩
    · exact ⟨none, 0, 0, by simpa using h⟩
    · exact ⟨_, n, cap, by simpa using h⟩
  obtain ⟨a3, n3, c3, rfl⟩ : ∃ a n cap, d2 = .slice a n cap := by
    rcases DataW.trod_slice Tryz.underlying26 g1 with ⟨h, _⟩ | ⟨a, n, cap, _, _, _, _, h, _⟩
    · exact ⟨none, 0, 0, by simpa using h⟩
    · exact ⟨_, n, cap, by simpa using h⟩
  obtain ⟨a4, n4, c4, rfl⟩ : ∃ a n cap, d3 = .slice a n cap := by
    rcases DataW.trod_slice Tryz.underlying27 g2 with ⟨h, _⟩ | ⟨a, n, cap, _, _, _, _, h, _⟩
    · exact ⟨none, 0, 0, by simpa using h⟩
    · exact ⟨_, n, cap, by simpa using h⟩
  obtain ⟨nx, h4, _, _⟩ := DataW.trod_int Tryz.underlying3 g3
  obtain ⟨sq, h5, _, _⟩ := DataW.trod_int Tryz.underlying3 g4
  obtain ⟨xs, x1, x2, x3⟩ := openTexts k0
  obtain ⟨ws, y1, y2, y3⟩ := openWriteS k1
  obtain ⟨ks, z1, z2, z3⟩ := openKeptS g1
  obtain ⟨bl, b1, b2, b3⟩ := openBanS g2
  simp only [List.cons.injEq, and_true] at h4 h5
  subst h4 h5
  exact ⟨a1, n1, c1, xs, a2, n2, c2, ws, a3, n3, c3, ks, a4, n4, c4, bl, nx, sq, ⟨rfl, rfl, rfl, rfl, rfl, rfl⟩, x1, y1, z1, b1, x2, y2, z2, b2, x3, y3, z3, b3⟩
set_option maxRecDepth 100000 in
/-- A cache among the arguments: what it holds. -/
theorem openCache {H : Type} {enc : TypeId × Value → H} {W : World} {r : Reach} {b0 : Nat} {v : Value} {d : DataW H} {ps : List MemPlace} (hval : Value.okWide Tryz.prog W r b0 34 v) (h : DataW.Trod enc Tryz.prog W 0 (fun _ => true) true 34 v d ps) :
    ∃ (a1 : Option Addr) (n1 c1 : Nat) (cs : List ByteArray) (a2 : Option Addr) (n2 c2 : Nat) (ws : List (Int × ByteArray)) (a3 : Option Addr) (n3 c3 : Nat) (ks : List KpD) (a4 : Option Addr) (n4 c4 : Nat) (bl : List (Int × ByteArray × ByteArray × Int)) (nx sq : Int) (a5 : Option Addr) (n5 c5 : Nat) (fl : List FlD) (now : Int) (a6 : Option Addr) (n6 c6 : Nat) (se : List SeD) (a7 : Option Addr) (n7 c7 : Nat) (sn : List RpD), v = .agg #[.slice a1 n1 c1, .slice a2 n2 c2, .slice a3 n3 c3, .slice a4 n4 c4, .int .i64 nx, .int .i64 sq, .slice a5 n5 c5, .int .i64 now, .slice a6 n6 c6, .slice a7 n7 c7] ∧ ArgT W W.heap.size a1 n1 cs ∧ ArgWrite W W.heap.size a2 n2 ws ∧ ArgKept W W.heap.size a3 n3 ks ∧ ArgBan W W.heap.size a4 n4 bl ∧ ArgFlight W W.heap.size a5 n5 fl ∧ ArgSeen W W.heap.size a6 n6 se ∧ ArgReply W W.heap.size a7 n7 sn ∧ ((n1 ≤ maxLen ∧ n2 ≤ maxLen ∧ n3 ≤ maxLen ∧ n4 ≤ maxLen ∧ (∀ i, i < n1 → (textAt cs i).size ≤ maxLen) ∧ (∀ x ∈ ws, (x.2).size ≤ maxLen) ∧ (∀ k ∈ ks, KpMax k) ∧ ∀ x ∈ bl, (x.2.1).size ≤ maxLen ∧ (x.2.2.1).size ≤ maxLen) ∧ (n5 ≤ maxLen ∧ ∀ k ∈ fl, FlMax k) ∧ (n6 ≤ maxLen ∧ ∀ k ∈ se, SeMax k) ∧ n7 ≤ maxLen ∧ ∀ k ∈ sn, RpMax k) := by
  obtain ⟨cs, rfl, hsz⟩ := okWide_struct Tryz.underlying34 hval
  obtain ⟨fuel, hf⟩ := h
  obtain ⟨ys, q, _, _, _, hyl, hg⟩ := DataW.trod_struct Tryz.underlying34 hf
  have hcC : Tryz.prog.cellsOf 34 = 10 := by kernel_rfl
  have hcH : Tryz.prog.cellsOf 29 = 6 := by kernel_rfl
  have e3 : Tryz.prog.cellsOf 3 = 1 := by kernel_rfl
  have eF : Tryz.prog.cellsOf 30 = 1 := by kernel_rfl
  have eS : Tryz.prog.cellsOf 31 = 1 := by kernel_rfl
  have eR : Tryz.prog.cellsOf 32 = 1 := by kernel_rfl
  rw [hcC] at hsz
  obtain ⟨l⟩ := cs
  obtain ⟨d0, d1, d2, d3, d4, d5, d6, d7, d8, d9, rfl⟩ : ∃ d0 d1 d2 d3 d4 d5 d6 d7 d8 d9, l = [d0, d1, d2, d3, d4, d5, d6, d7, d8, d9] := by
    match l, hsz with
    | [d0, d1, d2, d3, d4, d5, d6, d7, d8, d9], _ => exact ⟨d0, d1, d2, d3, d4, d5, d6, d7, d8, d9, rfl⟩
  have g0 := hg 0 _ rfl
  have g1 := hg 1 _ rfl
  have g2 := hg 2 _ rfl
  have g3 := hg 3 _ rfl
  have g4 := hg 4 _ rfl
  simp [Value.cells, e3, eF, eS, eR, hcH] at g0 g1 g2 g3 g4
  have hy5 : ys.length = 5 := hyl
  rw [List.getElem?_eq_getElem (show 0 < ys.length by omega)] at g0
  rw [List.getElem?_eq_getElem (show 1 < ys.length by omega)] at g1
  rw [List.getElem?_eq_getElem (show 2 < ys.length by omega)] at g2
  rw [List.getElem?_eq_getElem (show 3 < ys.length by omega)] at g3
  rw [List.getElem?_eq_getElem (show 4 < ys.length by omega)] at g4
  obtain ⟨a5, n5, c5, rfl⟩ : ∃ a n cap, d6 = .slice a n cap := by
    rcases DataW.trod_slice Tryz.underlying30 g1 with ⟨h, _⟩ | ⟨a, n, cap, _, _, _, _, h, _⟩
    · exact ⟨none, 0, 0, by simpa using h⟩
    · exact ⟨_, n, cap, by simpa using h⟩
  obtain ⟨a6, n6, c6, rfl⟩ : ∃ a n cap, d8 = .slice a n cap := by
    rcases DataW.trod_slice Tryz.underlying31 g3 with ⟨h, _⟩ | ⟨a, n, cap, _, _, _, _, h, _⟩
    · exact ⟨none, 0, 0, by simpa using h⟩
    · exact ⟨_, n, cap, by simpa using h⟩
  obtain ⟨a7, n7, c7, rfl⟩ : ∃ a n cap, d9 = .slice a n cap := by
    rcases DataW.trod_slice Tryz.underlying32 g4 with ⟨h, _⟩ | ⟨a, n, cap, _, _, _, _, h, _⟩
    · exact ⟨none, 0, 0, by simpa using h⟩
    · exact ⟨_, n, cap, by simpa using h⟩
  obtain ⟨now, h2, _, _⟩ := DataW.trod_int Tryz.underlying3 g2
  obtain ⟨a1, n1, c1, cs, a2, n2, c2, ws, a3, n3, c3, ks, a4, n4, c4, bl, nx, sq, ⟨rfl, rfl, rfl, rfl, rfl, rfl⟩, w1, w2, w3, w4, hmx⟩ := cellsShelf g0
  obtain ⟨fl, x1, x2, x3⟩ := openFlightS g1
  obtain ⟨se, y1, y2, y3⟩ := openSeenS g3
  obtain ⟨sn, z1, z2, z3⟩ := openReplyS g4
  simp only [List.cons.injEq, and_true] at h2
  subst h2
  exact ⟨a1, n1, c1, cs, a2, n2, c2, ws, a3, n3, c3, ks, a4, n4, c4, bl, nx, sq, a5, n5, c5, fl, now, a6, n6, c6, se, a7, n7, c7, sn, rfl, w1, w2, w3, w4, x1, y1, z1, hmx, ⟨x2, x3⟩, ⟨y2, y3⟩, z2, z3⟩

end Go.Proofs.YtajccgffallajaaGreat

namespace Go.Proofs.YtajccgffallajaaGreat
open Go.RowKit
open Go.Lib hiding intOf

/-- A list of ints, its first i marked from k on. -/
def mkI (k : Nat) (zs : List Int) : Nat → List Int
  | 0 => zs
  | i + 1 => (mkI k zs i).set i ((k + i : Nat) : Int)
theorem mkI_len (k : Nat) (zs : List Int) : ∀ i, (mkI k zs i).length = zs.length
  | 0 => rfl
  | i + 1 => by rw [mkI, List.length_set, mkI_len k zs i]
theorem int_get (zs : List Int) (k : Nat) (h : k < zs.length) : zs[k]? = some (zs.getD k 0) := by
  rw [List.getD_eq_getElem?_getD, List.getElem?_eq_getElem h]
  rfl

set_option maxHeartbeats 8000000 in
set_option maxRecDepth 100000 in
theorem markIFrom_any (v : Value) (n base : Nat) (zs : List Int) (w : World) (h1 : w.ownsRow base 3 1 v n (zs.map (Value.int .i64))) (_hb : base ≤ w.heap.size) (k0 : Nat) (_hk0 : 1 ≤ k0) (hn : k0 + n ≤ 99999998) :
    Calls Tryz.prog 65 #[v, .int .i64 (k0 : Int)] w fun e w' => e = .returned (.int .i64 ((k0 : Int) + (n : Int))) ∧ w'.ownsRow base 3 1 v n ((mkI k0 zs n).map (Value.int .i64)) ∧ Below base w w' ∧ Far v w w' := by
  obtain ⟨oa, cap, rfl⟩ := slice_of_owns h1
  have HL : Hid (zs.length = n) := by have h := h1.1; rw [List.length_map] at h; show _ = _; omega
  have H1 : Hid (w.ownsRow base 3 1 (.slice oa n cap) n (zs.map (Value.int .i64))) := h1
  clear h1 _hb _hk0
  go_enter Tryz.func65, Tryz.ntmps65
  go_wp2
  go_loopw [1, 5] (fun q i wr => ∃ k : Nat, k ≤ n ∧ i = .int .i64 (k : Int) ∧ q = .int .i64 ((k0 : Int) + (k : Int)) ∧ Hid (Below base w wr) ∧ Hid (wr.ownsRow base 3 1 (.slice oa n cap) n ((mkI k0 zs k).map (Value.int .i64))) ∧ Hid (Far (.slice oa n cap) w wr)) (fun _ i _ => n - (intOf i).toNat)
  case atStart => exact ⟨0, Nat.zero_le _, rfl, by simp, Below.refl _ _, H1, fun _ _ _ => rfl⟩
  case round =>
    obtain ⟨k, hk, rfl, rfl, HB, HO, HF⟩ := hrel
    by_cases hlt : k < n
    · have hlt2 : (k : Int) < (n : Int) := by omega
      obtain ⟨g, rfl⟩ := owns_some H1.out (by omega)
      have HG : Hid (base ≤ g) := owns_ge H1.out rfl
      obtain ⟨c0, f0⟩ := owns_at HO.out k _ (by rw [List.getElem?_map, int_get _ k (by rw [mkI_len, HL.out]; exact hlt)]; rfl)
      have HV : Hid ((k0 : Int) + (k : Int) = ((k0 + k : Nat) : Int)) := by show _ = _; omega
      have HN : Hid ((wr.setCell ⟨g, k, none⟩ (.int .i64 ((k0 : Int) + (k : Int)))).ownsRow base 3 1 (.slice (some ⟨g, 0, none⟩) n cap) n ((mkI k0 zs (k + 1)).map (Value.int .i64))) := by
        show World.ownsRow _ _ _ _ _ _ _
        rw [mkI, List.map_set, HV.out]
        exact owns_put HO.out _ _
      have HB2 : Hid (Below base w (wr.setCell ⟨g, k, none⟩ (.int .i64 ((k0 : Int) + (k : Int))))) := HB.out.setCell (p := ⟨g, k, none⟩) HG.out _
      have HF2 : Hid (Far (.slice (some ⟨g, 0, none⟩) n cap) w (wr.setCell ⟨g, k, none⟩ (.int .i64 ((k0 : Int) + (k : Int))))) := fun j hj hne => (heap_setCell_other _ _ j _ (fun e => hne (by rw [e]; rfl))).trans (HF.out j hj hne)
      generalize (mkI k0 zs k).getD k 0 = z at c0
      go_wp2
      go_roundw
      case rel => exact ⟨k + 1, by omega, by go_num, by first | go_num | (congr 1; omega), HB2, HN, HF2⟩
      case measure => simp [intOf]; omega
    · obtain rfl : k = n := by omega
      go_wp2
      go_ret
      exact ⟨rfl, HO.out, HB.out, HF.out⟩

end Go.Proofs.YtajccgffallajaaGreat

namespace Go.Proofs.YtajccgffallajaaGreat
open Go.RowKit
open Go.Lib hiding intOf

/-- A flag marked by a number. -/
def mkBit (K : Nat) : Bool := ((K : Int) % 3 == 0)

theorem fl_at {W : World} {base g n cap k : Nat} {pre post : List FlV} {x : FlV} (h : FlsO W base (.slice (some ⟨g, 0, none⟩) n cap) (pre ++ x :: post)) (hn : (pre ++ x :: post).length = n) (hk : pre.length = k) (j : Nat) (hj : j < 13) (u : Value) (hu : (flC x)[j]? = some u) : W.cell? ⟨g, k * 13 + j, none⟩ = some u ∧ W.frozen? ⟨g, k * 13 + j, none⟩ = false := by
  have hr := h.row
  rw [hn] at hr
  refine owns_cellC hr (k * 13 + j) u ?_
  rw [← hk, items_at flC 13 flC_len (pre ++ x :: post) pre.length j (by simp) hj]
  simpa using hu
theorem fl_cell {W : World} {base g n cap k : Nat} {pre post : List FlV} {x x' : FlV} (h : FlsO W base (.slice (some ⟨g, 0, none⟩) n cap) (pre ++ x :: post)) (hn : (pre ++ x :: post).length = n) (hk : pre.length = k) (j : Nat) (hj : j < 13) (u : Value) (hc : flC x' = (flC x).set j u) (hr : flR x' = flR x) : FlsO (W.setCell ⟨g, k * 13 + j, none⟩ u) base (.slice (some ⟨g, 0, none⟩) n cap) (pre ++ x' :: post) := by
  have hrow := h.row
  rw [hn] at hrow
  have h1 := owns_setC hrow (k * 13 + j) u
  have e1 : ((pre ++ x :: post).flatMap flC).set (k * 13 + j) u = (pre ++ x' :: post).flatMap flC := by
    rw [List.flatMap_append, List.flatMap_cons, List.flatMap_append, List.flatMap_cons, List.set_append_right _ _ (by rw [items_len flC 13 flC_len, hk]; omega), items_len flC 13 flC_len, hk, Nat.add_sub_cancel_left, List.set_append_left _ _ (by rw [flC_len]; exact hj), ← hc]
  rw [e1] at h1
  have e2 : (pre ++ x' :: post).flatMap flR = (pre ++ x :: post).flatMap flR := by rw [List.flatMap_append, List.flatMap_cons, List.flatMap_append, List.flatMap_cons, hr]
  have hl : (pre ++ x' :: post).length = n := by rw [← hn]; simp
  have h2 : RowsO W base ([] ++ flRow (.slice (some ⟨g, 0, none⟩) n cap) (pre ++ x :: post) :: (pre ++ x :: post).flatMap flR) := h
  have hown : (flRow (.slice (some ⟨g, 0, none⟩) n cap) (pre ++ x' :: post)).own (W.setCell ⟨g, k * 13 + j, none⟩ u) base := by
    unfold Rw.own flRow
    rw [hl]
    exact h1
  have h3 := h2.turn (r' := flRow (.slice (some ⟨g, 0, none⟩) n cap) (pre ++ x' :: post)) rfl hown (fun j' _ hne => heap_setCell_other _ _ j' _ (fun e => hne (by rw [e]; rfl)))
  unfold FlsO flAll
  rw [e2]
  exact h3
theorem fl_row {W W' : World} {base : Nat} {V : Value} {pre post : List FlV} {x x' : FlV} (h : FlsO W base V (pre ++ x :: post)) {r r' : Rw} {a b : List Rw} (ha : flR x = a ++ r :: b) (hb : flR x' = a ++ r' :: b) (hc : flC x' = flC x) (hv : r'.v = r.v) (ho : r'.own W' base) (hs : ∀ j, j < W.heap.size → r.v.ownBlock ≠ some j → W'.heap[j]? = W.heap[j]?) : FlsO W' base V (pre ++ x' :: post) := by
  have e1 : flAll V (pre ++ x :: post) = (flRow V (pre ++ x :: post) :: (pre.flatMap flR ++ a)) ++ r :: (b ++ post.flatMap flR) := by
    unfold flAll
    rw [List.flatMap_append, List.flatMap_cons, ha]
    simp
  have e2 : flAll V (pre ++ x' :: post) = (flRow V (pre ++ x :: post) :: (pre.flatMap flR ++ a)) ++ r' :: (b ++ post.flatMap flR) := by
    have e3 : flRow V (pre ++ x' :: post) = flRow V (pre ++ x :: post) := by
      unfold flRow
      rw [List.flatMap_append, List.flatMap_cons, List.flatMap_append, List.flatMap_cons, hc]
      simp
    unfold flAll
    rw [e3, List.flatMap_append, List.flatMap_cons, hb]
    simp
  have h1 : RowsO W base ((flRow V (pre ++ x :: post) :: (pre.flatMap flR ++ a)) ++ r :: (b ++ post.flatMap flR)) := by rw [← e1]; exact h
  have h2 := h1.turn hv ho hs
  unfold FlsO
  rw [e2]
  exact h2
/-- How many numbers one takes. -/
def wmFl (d : FlD) : Nat := 8 + 2 * d.qfs.length + d.who.length + d.oxs.length + d.oys.length + 2 * d.ofs.length
def wmsFl : List FlV → Nat
  | [] => 0
  | x :: r => wmFl x.d + wmsFl r
theorem wmsFl_snoc (x : FlV) : ∀ l : List FlV, wmsFl (l ++ [x]) = wmsFl l + wmFl x.d
  | [] => by simp [wmsFl]
  | y :: l => by rw [List.cons_append, wmsFl, wmsFl_snoc x l, wmsFl]; omega
theorem wmsFl_append : ∀ (l m : List FlV), wmsFl (l ++ m) = wmsFl l + wmsFl m
  | [], m => by simp [wmsFl]
  | y :: l, m => by rw [List.cons_append, wmsFl, wmsFl_append l m, wmsFl]; omega
/-- One marked from K on. -/
def mkFlD (K : Nat) (d : FlD) : FlD := ⟨((K : Nat) : Int), markOf (K + 1), mkG (K + 2) d.qfs d.qfs.length, markOf (K + 2 + 2 * d.qfs.length), mkI (K + 3 + 2 * d.qfs.length) d.who d.who.length, markOf (K + 3 + 2 * d.qfs.length + d.who.length), mkT (K + 4 + 2 * d.qfs.length + d.who.length) d.oxs d.oxs.length, mkT (K + 4 + 2 * d.qfs.length + d.who.length + d.oxs.length) d.oys d.oys.length, ((K + 4 + 2 * d.qfs.length + d.who.length + d.oxs.length + d.oys.length : Nat) : Int), mkG (K + 5 + 2 * d.qfs.length + d.who.length + d.oxs.length + d.oys.length) d.ofs d.ofs.length, markOf (K + 5 + 2 * d.qfs.length + d.who.length + d.oxs.length + d.oys.length + 2 * d.ofs.length), ((K + 6 + 2 * d.qfs.length + d.who.length + d.oxs.length + d.oys.length + 2 * d.ofs.length : Nat) : Int), mkBit (K + 7 + 2 * d.qfs.length + d.who.length + d.oxs.length + d.oys.length + 2 * d.ofs.length)⟩
def mkFlV (K : Nat) (x : FlV) : FlV := ⟨mkFlD K x.d, x.v2, x.v4, x.v6, x.v7, x.v9⟩
def mkFls (k : Nat) : List FlV → List FlV
  | [] => []
  | x :: r => mkFlV k x :: mkFls (k + wmFl x.d) r
theorem mkFls_len : ∀ (k : Nat) (l : List FlV), (mkFls k l).length = l.length
  | _, [] => rfl
  | k, x :: r => by rw [mkFls, List.length_cons, mkFls_len _ r, List.length_cons]
theorem mkFls_snoc (x : FlV) : ∀ (k : Nat) (l : List FlV), mkFls k (l ++ [x]) = mkFls k l ++ [mkFlV (k + wmsFl l) x]
  | _, [] => by simp [mkFls, wmsFl]
  | k, y :: l => by rw [List.cons_append, mkFls, mkFls_snoc x _ l, mkFls, wmsFl]; simp [Nat.add_assoc]
theorem mkFls_v (V : Value) : ∀ (kv : List FlV) (k : Nat), (flAll V (mkFls k kv)).map (·.v) = (flAll V kv).map (·.v) := by
  have key : ∀ (kv : List FlV) (k : Nat), ((mkFls k kv).flatMap flR).map (·.v) = (kv.flatMap flR).map (·.v) := by
    intro kv
    induction kv with
    | nil => intro k; rfl
    | cons x r ih =>
      intro k
      rw [mkFls, List.flatMap_cons, List.flatMap_cons, List.map_append, List.map_append, ih]
      rfl
  intro kv k
  unfold flAll
  rw [List.map_cons, List.map_cons, key]
  rfl

set_option maxHeartbeats 8000000 in
set_option maxRecDepth 100000 in
theorem markFlightS_any (V : Value) (kv : List FlV) (base : Nat) (w : World) (h1 : FlsO w base V kv) (hb : base ≤ w.heap.size) (k0 : Nat) (hk0 : 1 ≤ k0) (hn : k0 + wmsFl kv ≤ 99999998) (hm : kv.length ≤ 2000000) :
    Calls Tryz.prog 31 #[V, .int .i64 (k0 : Int)] w fun e w' => e = .returned (.int .i64 ((k0 + wmsFl kv : Nat) : Int)) ∧ FlsO w' base V (mkFls k0 kv) ∧ Below base w w' ∧ FarR (flAll V kv) w w' := by
  obtain ⟨n, hnn⟩ : ∃ n, n = kv.length := ⟨_, rfl⟩
  obtain ⟨oa, cap, e1⟩ := h1.len
  rw [← hnn] at e1 hm
  subst e1
  have HLN : Hid (kv.length = n) := hnn.symm
  have H1 : Hid (FlsO w base (.slice oa n cap) kv) := h1
  obtain ⟨TW, hTW⟩ : ∃ m, m = wmsFl kv := ⟨_, rfl⟩
  have HTW : Hid (TW = wmsFl kv) := hTW
  rw [← hTW] at hn ⊢
  clear h1 hnn hTW
  go_enter Tryz.func31, Tryz.ntmps31
  go_wp2
  go_loopw [1, 5] (fun q i wr => ∃ (k K : Nat), k ≤ n ∧ i = .int .i64 (k : Int) ∧ q = .int .i64 (K : Int) ∧ 1 ≤ K ∧ Hid (K = k0 + wmsFl (kv.take k)) ∧ Hid (Below base w wr) ∧ Hid (FlsO wr base (.slice oa n cap) (mkFls k0 (kv.take k) ++ kv.drop k)) ∧ Hid (FarR (flAll (.slice oa n cap) kv) w wr)) (fun _ i _ => n - (intOf i).toNat)
  case atStart => exact ⟨0, k0, Nat.zero_le _, rfl, rfl, hk0, by simp [Hid, wmsFl], Below.refl _ _, by simpa [Hid, mkFls] using H1.out, fun _ _ _ => rfl⟩
  case round =>
    obtain ⟨k, K, hk, rfl, rfl, hK1, HKE, HB0, HK0', HF0⟩ := hrel
    by_cases hlt : k < n
    · have hlt2 : (k : Int) < (n : Int) := by omega
      have hkl : k < kv.length := by rw [HLN.out]; exact hlt
      obtain ⟨x0, hx0⟩ : ∃ x, x = kv[k]'hkl := ⟨_, rfl⟩
      have HX : Hid (x0 ∈ kv) := by show _ ∈ _; rw [hx0]; exact List.getElem_mem hkl
      have hdrop : kv.drop k = x0 :: kv.drop (k + 1) := by rw [hx0]; exact List.drop_eq_getElem_cons hkl
      have htake : kv.take (k + 1) = kv.take k ++ [x0] := by rw [hx0]; exact List.take_succ_eq_append_getElem hkl
      have hww : wmsFl kv = wmsFl (kv.take k) + (wmFl x0.d + wmsFl (kv.drop (k + 1))) := by
        have e := wmsFl_append (kv.take k) (kv.drop k)
        rw [List.take_append_drop, hdrop, wmsFl] at e
        exact e
      have hbd : K + wmFl x0.d ≤ 99999998 := by have := HKE.out; have := HTW.out; omega
      obtain ⟨pre, hpre⟩ : ∃ l, l = mkFls k0 (kv.take k) := ⟨_, rfl⟩
      obtain ⟨post, hpost⟩ : ∃ l, l = kv.drop (k + 1) := ⟨_, rfl⟩
      have HPL : Hid (pre.length = k) := by show _ = _; rw [hpre, mkFls_len, List.length_take, Nat.min_eq_left (Nat.le_of_lt hkl)]
      have HNL0 : Hid (∀ y : FlV, (pre ++ y :: post).length = n) := fun y => by rw [List.length_append, List.length_cons, HPL.out, hpost, List.length_drop, HLN.out]; omega
      have HKE2 : Hid (k0 + wmsFl (kv.take (k + 1)) = K + wmFl x0.d) := by show _ = _; have h := HKE.out; rw [htake, wmsFl_snoc]; omega
      have HEND : Hid (mkFls k0 (kv.take (k + 1)) ++ kv.drop (k + 1) = pre ++ mkFlV K x0 :: post) := by show _ = _; rw [htake, mkFls_snoc, ← HKE.out, hpre, hpost]; simp
      have HK00 : Hid (FlsO wr base (.slice oa n cap) (pre ++ x0 :: post)) := by
        have h := HK0'.out
        rw [hdrop, ← hpre, ← hpost] at h
        exact h
      obtain ⟨g, rfl⟩ := owns_some (by have h := HK00.out.row; rw [HNL0.out] at h; exact h) (by omega)
      have HGB : Hid (base ≤ g) := owns_ge HK00.out.row rfl
      clear hx0 hdrop htake hww hpre hpost HK0' hkl
      obtain ⟨x1, hx1⟩ : ∃ x, x = x0 := ⟨_, rfl⟩
      obtain ⟨d, v2, v4, v6, v7, v9⟩ := x1
      have HX0 : Hid (x0 = (⟨d, v2, v4, v6, v7, v9⟩ : FlV)) := hx1.symm
      have HNL : ∀ {y : FlV}, Hid ((pre ++ y :: post).length = n) := fun {y} => HNL0.out y
      have hbd2 : K + (8 + 2 * d.qfs.length + d.who.length + d.oxs.length + d.oys.length + 2 * d.ofs.length) ≤ 99999998 := by have h : K + wmFl d ≤ 99999998 := (by have h := hbd; rw [HX0.out] at h; exact h); unfold wmFl at h; omega
      have HK0 : Hid (FlsO wr base (.slice (some ⟨g, 0, none⟩) n cap) (pre ++ (⟨(⟨d.qmt, d.qpa, d.qfs, d.qbd, d.who, d.opa, d.oxs, d.oys, d.ost, d.ofs, d.obd, d.otm, d.has⟩ : FlD), v2, v4, v6, v7, v9⟩ : FlV) :: post)) := by
        have h := HK00.out
        rw [HX0.out] at h
        exact h
      have HIN2 : Hid ((⟨135, 2, v2, d.qfs.length, flatF d.qfs⟩ : Rw) ∈ flAll (.slice (some ⟨g, 0, none⟩) n cap) kv) := List.mem_cons_of_mem _ (List.mem_flatMap.2 ⟨(⟨d, v2, v4, v6, v7, v9⟩ : FlV), (by have h := HX.out; rw [HX0.out] at h; exact h), by simp [flR]⟩)
      have HIN4 : Hid ((⟨3, 1, v4, d.who.length, d.who.map (Value.int .i64)⟩ : Rw) ∈ flAll (.slice (some ⟨g, 0, none⟩) n cap) kv) := List.mem_cons_of_mem _ (List.mem_flatMap.2 ⟨(⟨d, v2, v4, v6, v7, v9⟩ : FlV), (by have h := HX.out; rw [HX0.out] at h; exact h), by simp [flR]⟩)
      have HIN6 : Hid ((⟨9, 1, v6, d.oxs.length, d.oxs.map Value.string⟩ : Rw) ∈ flAll (.slice (some ⟨g, 0, none⟩) n cap) kv) := List.mem_cons_of_mem _ (List.mem_flatMap.2 ⟨(⟨d, v2, v4, v6, v7, v9⟩ : FlV), (by have h := HX.out; rw [HX0.out] at h; exact h), by simp [flR]⟩)
      have HIN7 : Hid ((⟨9, 1, v7, d.oys.length, d.oys.map Value.string⟩ : Rw) ∈ flAll (.slice (some ⟨g, 0, none⟩) n cap) kv) := List.mem_cons_of_mem _ (List.mem_flatMap.2 ⟨(⟨d, v2, v4, v6, v7, v9⟩ : FlV), (by have h := HX.out; rw [HX0.out] at h; exact h), by simp [flR]⟩)
      have HIN9 : Hid ((⟨135, 2, v9, d.ofs.length, flatF d.ofs⟩ : Rw) ∈ flAll (.slice (some ⟨g, 0, none⟩) n cap) kv) := List.mem_cons_of_mem _ (List.mem_flatMap.2 ⟨(⟨d, v2, v4, v6, v7, v9⟩ : FlV), (by have h := HX.out; rw [HX0.out] at h; exact h), by simp [flR]⟩)
      clear hx1 hbd HK00 HX
      obtain ⟨K1, HQ1⟩ : ∃ m : Nat, Hid (m = K + 1) := ⟨_, rfl⟩
      obtain ⟨K2, HQ2⟩ : ∃ m : Nat, Hid (m = K + 2) := ⟨_, rfl⟩
      obtain ⟨K3, HQ3⟩ : ∃ m : Nat, Hid (m = K + 2 + 2 * d.qfs.length) := ⟨_, rfl⟩
      obtain ⟨K4, HQ4⟩ : ∃ m : Nat, Hid (m = K + 3 + 2 * d.qfs.length) := ⟨_, rfl⟩
      obtain ⟨K5, HQ5⟩ : ∃ m : Nat, Hid (m = K + 3 + 2 * d.qfs.length + d.who.length) := ⟨_, rfl⟩
      obtain ⟨K6, HQ6⟩ : ∃ m : Nat, Hid (m = K + 4 + 2 * d.qfs.length + d.who.length) := ⟨_, rfl⟩
      obtain ⟨K7, HQ7⟩ : ∃ m : Nat, Hid (m = K + 4 + 2 * d.qfs.length + d.who.length + d.oxs.length) := ⟨_, rfl⟩
      obtain ⟨K8, HQ8⟩ : ∃ m : Nat, Hid (m = K + 4 + 2 * d.qfs.length + d.who.length + d.oxs.length + d.oys.length) := ⟨_, rfl⟩
      obtain ⟨K9, HQ9⟩ : ∃ m : Nat, Hid (m = K + 5 + 2 * d.qfs.length + d.who.length + d.oxs.length + d.oys.length) := ⟨_, rfl⟩
      obtain ⟨K10, HQ10⟩ : ∃ m : Nat, Hid (m = K + 5 + 2 * d.qfs.length + d.who.length + d.oxs.length + d.oys.length + 2 * d.ofs.length) := ⟨_, rfl⟩
      obtain ⟨K11, HQ11⟩ : ∃ m : Nat, Hid (m = K + 6 + 2 * d.qfs.length + d.who.length + d.oxs.length + d.oys.length + 2 * d.ofs.length) := ⟨_, rfl⟩
      obtain ⟨K12, HQ12⟩ : ∃ m : Nat, Hid (m = K + 7 + 2 * d.qfs.length + d.who.length + d.oxs.length + d.oys.length + 2 * d.ofs.length) := ⟨_, rfl⟩
      obtain ⟨K13, HQ13⟩ : ∃ m : Nat, Hid (m = K + 8 + 2 * d.qfs.length + d.who.length + d.oxs.length + d.oys.length + 2 * d.ofs.length) := ⟨_, rfl⟩
      have E1 : Hid ((K : Int) + 1 = (K1 : Int)) := by show _ = _; have q1 := HQ1.out; omega
      have E2 : Hid ((K1 : Int) + 1 = (K2 : Int)) := by show _ = _; have q1 := HQ1.out; have q2 := HQ2.out; omega
      have E3 : Hid ((K2 : Int) + 2 * (d.qfs.length : Int) = (K3 : Int)) := by show _ = _; have q2 := HQ2.out; have q3 := HQ3.out; omega
      have E4 : Hid ((K3 : Int) + 1 = (K4 : Int)) := by show _ = _; have q3 := HQ3.out; have q4 := HQ4.out; omega
      have E5 : Hid ((K4 : Int) + (d.who.length : Int) = (K5 : Int)) := by show _ = _; have q4 := HQ4.out; have q5 := HQ5.out; omega
      have E6 : Hid ((K5 : Int) + 1 = (K6 : Int)) := by show _ = _; have q5 := HQ5.out; have q6 := HQ6.out; omega
      have E7 : Hid ((K6 : Int) + (d.oxs.length : Int) = (K7 : Int)) := by show _ = _; have q6 := HQ6.out; have q7 := HQ7.out; omega
      have E8 : Hid ((K7 : Int) + (d.oys.length : Int) = (K8 : Int)) := by show _ = _; have q7 := HQ7.out; have q8 := HQ8.out; omega
      have E9 : Hid ((K8 : Int) + 1 = (K9 : Int)) := by show _ = _; have q8 := HQ8.out; have q9 := HQ9.out; omega
      have E10 : Hid ((K9 : Int) + 2 * (d.ofs.length : Int) = (K10 : Int)) := by show _ = _; have q9 := HQ9.out; have q10 := HQ10.out; omega
      have E11 : Hid ((K10 : Int) + 1 = (K11 : Int)) := by show _ = _; have q10 := HQ10.out; have q11 := HQ11.out; omega
      have E12 : Hid ((K11 : Int) + 1 = (K12 : Int)) := by show _ = _; have q11 := HQ11.out; have q12 := HQ12.out; omega
      have E13 : Hid ((K12 : Int) + 1 = (K13 : Int)) := by show _ = _; have q12 := HQ12.out; have q13 := HQ13.out; omega
      have HBB0 : Hid (K ≤ 99999999) := by show _ ≤ _; omega
      have b1 : Hid (1 ≤ K1 ∧ K1 ≤ 99999999) := by show _ ∧ _; have q1 := HQ1.out; omega
      have HBB1 : Hid (K1 ≤ 99999999) := by show _ ≤ _; have q1 := HQ1.out; omega
      have b2 : Hid (1 ≤ K2 ∧ K2 + 2 * d.qfs.length ≤ 99999999) := by show _ ∧ _; have q2 := HQ2.out; omega
      have HBB2 : Hid (K2 ≤ 99999999) := by show _ ≤ _; have q2 := HQ2.out; omega
      have b3 : Hid (1 ≤ K3 ∧ K3 ≤ 99999999) := by show _ ∧ _; have q3 := HQ3.out; omega
      have HBB3 : Hid (K3 ≤ 99999999) := by show _ ≤ _; have q3 := HQ3.out; omega
      have b4 : Hid (1 ≤ K4 ∧ K4 + d.who.length ≤ 99999998) := by show _ ∧ _; have q4 := HQ4.out; omega
      have HBB4 : Hid (K4 ≤ 99999999) := by show _ ≤ _; have q4 := HQ4.out; omega
      have b5 : Hid (1 ≤ K5 ∧ K5 ≤ 99999999) := by show _ ∧ _; have q5 := HQ5.out; omega
      have HBB5 : Hid (K5 ≤ 99999999) := by show _ ≤ _; have q5 := HQ5.out; omega
      have b6 : Hid (1 ≤ K6 ∧ K6 + d.oxs.length ≤ 99999998) := by show _ ∧ _; have q6 := HQ6.out; omega
      have HBB6 : Hid (K6 ≤ 99999999) := by show _ ≤ _; have q6 := HQ6.out; omega
      have b7 : Hid (1 ≤ K7 ∧ K7 + d.oys.length ≤ 99999998) := by show _ ∧ _; have q7 := HQ7.out; omega
      have HBB7 : Hid (K7 ≤ 99999999) := by show _ ≤ _; have q7 := HQ7.out; omega
      have HBB8 : Hid (K8 ≤ 99999999) := by show _ ≤ _; have q8 := HQ8.out; omega
      have b9 : Hid (1 ≤ K9 ∧ K9 + 2 * d.ofs.length ≤ 99999999) := by show _ ∧ _; have q9 := HQ9.out; omega
      have HBB9 : Hid (K9 ≤ 99999999) := by show _ ≤ _; have q9 := HQ9.out; omega
      have b10 : Hid (1 ≤ K10 ∧ K10 ≤ 99999999) := by show _ ∧ _; have q10 := HQ10.out; omega
      have HBB10 : Hid (K10 ≤ 99999999) := by show _ ≤ _; have q10 := HQ10.out; omega
      have HBB11 : Hid (K11 ≤ 99999999) := by show _ ≤ _; have q11 := HQ11.out; omega
      have HBB12 : Hid (K12 ≤ 99999999) := by show _ ≤ _; have q12 := HQ12.out; omega
      have b13 : Hid (1 ≤ K13) := by show _ ≤ _; have q13 := HQ13.out; omega
      obtain ⟨c0, f0⟩ := fl_at HK0.out HNL.out HPL.out 0 (by decide) _ rfl
      rw [Nat.add_zero] at c0 f0
      have HKs0 : Hid (FlsO ((wr).setCell ⟨g, k * 13, none⟩ (.int .i64 (K : Int))) base (.slice (some ⟨g, 0, none⟩) n cap) (pre ++ (⟨(⟨(K : Int), d.qpa, d.qfs, d.qbd, d.who, d.opa, d.oxs, d.oys, d.ost, d.ofs, d.obd, d.otm, d.has⟩ : FlD), v2, v4, v6, v7, v9⟩ : FlV) :: post)) := fl_cell HK0.out HNL.out HPL.out 0 (by decide) _ rfl rfl
      have HBs0 : Hid (Below base w ((wr).setCell ⟨g, k * 13, none⟩ (.int .i64 (K : Int)))) := HB0.out.setCell (p := ⟨g, k * 13, none⟩) HGB.out _
      have HFs0 : Hid (FarR (flAll (.slice (some ⟨g, 0, none⟩) n cap) kv) w ((wr).setCell ⟨g, k * 13, none⟩ (.int .i64 (K : Int)))) := fun j hj hne => (heap_setCell_other _ _ j _ (fun e => hne (flRow (.slice (some ⟨g, 0, none⟩) n cap) kv) (by simp [flAll]) (by rw [e]; rfl))).trans (HF0.out j hj hne)
      have bb0 := HBB0.out
      go_wp2_with fail
      rw [E1.out]
      refine (markText_any K1 _ b1.out.1 b1.out.2).mono ?_
      rintro e u1 ⟨rfl, bw⟩
      have HKu1 : Hid (FlsO u1 base (.slice (some ⟨g, 0, none⟩) n cap) (pre ++ (⟨(⟨(K : Int), d.qpa, d.qfs, d.qbd, d.who, d.opa, d.oxs, d.oys, d.ost, d.ofs, d.obd, d.otm, d.has⟩ : FlD), v2, v4, v6, v7, v9⟩ : FlV) :: post)) := FlsO.below HKs0.out bw
      have HBu1 : Hid (Below base w u1) := HBs0.out.trans (bw.mono (Nat.le_trans hb HBs0.out.size))
      have HFu1 : Hid (FarR (flAll (.slice (some ⟨g, 0, none⟩) n cap) kv) w u1) := fun j hj hne => (bw.block j (Nat.lt_of_lt_of_le hj HBs0.out.size)).trans (HFs0.out j hj hne)
      clear bw c0 f0 bb0
      obtain ⟨c1, f1⟩ := fl_at HKu1.out HNL.out HPL.out 1 (by decide) _ rfl
      have HKs1 : Hid (FlsO ((u1).setCell ⟨g, k * 13 + 1, none⟩ (.string (markOf K1))) base (.slice (some ⟨g, 0, none⟩) n cap) (pre ++ (⟨(⟨(K : Int), markOf K1, d.qfs, d.qbd, d.who, d.opa, d.oxs, d.oys, d.ost, d.ofs, d.obd, d.otm, d.has⟩ : FlD), v2, v4, v6, v7, v9⟩ : FlV) :: post)) := fl_cell HKu1.out HNL.out HPL.out 1 (by decide) _ rfl rfl
      have HBs1 : Hid (Below base w ((u1).setCell ⟨g, k * 13 + 1, none⟩ (.string (markOf K1)))) := HBu1.out.setCell (p := ⟨g, k * 13 + 1, none⟩) HGB.out _
      have HFs1 : Hid (FarR (flAll (.slice (some ⟨g, 0, none⟩) n cap) kv) w ((u1).setCell ⟨g, k * 13 + 1, none⟩ (.string (markOf K1)))) := fun j hj hne => (heap_setCell_other _ _ j _ (fun e => hne (flRow (.slice (some ⟨g, 0, none⟩) n cap) kv) (by simp [flAll]) (by rw [e]; rfl))).trans (HFu1.out j hj hne)
      have bb1 := HBB1.out
      obtain ⟨c2, f2⟩ := fl_at HKs1.out HNL.out HPL.out 2 (by decide) _ rfl
      go_wp2_with fail
      rw [E2.out]
      refine (markFrom_any v2 d.qfs.length base d.qfs _ ((FlsO.item HKs1.out (x := (⟨(⟨(K : Int), markOf K1, d.qfs, d.qbd, d.who, d.opa, d.oxs, d.oys, d.ost, d.ofs, d.obd, d.otm, d.has⟩ : FlD), v2, v4, v6, v7, v9⟩ : FlV)) (List.mem_append_right _ List.mem_cons_self)).own (⟨135, 2, v2, d.qfs.length, flatF d.qfs⟩ : Rw) (by simp [flR])) (Nat.le_trans hb HBs1.out.size) K2 b2.out.1 b2.out.2).mono ?_
      rintro e u2 ⟨rfl, mk, bm, far⟩
      have HKu2 : Hid (FlsO u2 base (.slice (some ⟨g, 0, none⟩) n cap) (pre ++ (⟨(⟨(K : Int), markOf K1, mkG K2 d.qfs d.qfs.length, d.qbd, d.who, d.opa, d.oxs, d.oys, d.ost, d.ofs, d.obd, d.otm, d.has⟩ : FlD), v2, v4, v6, v7, v9⟩ : FlV) :: post)) := fl_row (r := (⟨135, 2, v2, d.qfs.length, flatF d.qfs⟩ : Rw)) (r' := (⟨135, 2, v2, (mkG K2 d.qfs d.qfs.length).length, flatF (mkG K2 d.qfs d.qfs.length)⟩ : Rw)) (a := []) (b := [(⟨3, 1, v4, d.who.length, d.who.map (Value.int .i64)⟩ : Rw), (⟨9, 1, v6, d.oxs.length, d.oxs.map Value.string⟩ : Rw), (⟨9, 1, v7, d.oys.length, d.oys.map Value.string⟩ : Rw), (⟨135, 2, v9, d.ofs.length, flatF d.ofs⟩ : Rw)]) HKs1.out rfl (by first | rfl | simp [flR]) rfl rfl (by unfold Rw.own; simp only [mkG_len]; exact mk) far
      have HBu2 : Hid (Below base w u2) := HBs1.out.trans bm
      have HFu2 : Hid (FarR (flAll (.slice (some ⟨g, 0, none⟩) n cap) kv) w u2) := fun j hj hne => (far j (Nat.lt_of_lt_of_le hj HBs1.out.size) (hne (⟨135, 2, v2, d.qfs.length, flatF d.qfs⟩ : Rw) HIN2.out)).trans (HFs1.out j hj hne)
      clear mk bm far c1 f1 bb1 c2 f2
      rw [E3.out]
      go_wp2_with fail
      refine (markText_any K3 _ b3.out.1 b3.out.2).mono ?_
      rintro e u3 ⟨rfl, bw⟩
      have HKu3 : Hid (FlsO u3 base (.slice (some ⟨g, 0, none⟩) n cap) (pre ++ (⟨(⟨(K : Int), markOf K1, mkG K2 d.qfs d.qfs.length, d.qbd, d.who, d.opa, d.oxs, d.oys, d.ost, d.ofs, d.obd, d.otm, d.has⟩ : FlD), v2, v4, v6, v7, v9⟩ : FlV) :: post)) := FlsO.below HKu2.out bw
      have HBu3 : Hid (Below base w u3) := HBu2.out.trans (bw.mono (Nat.le_trans hb HBu2.out.size))
      have HFu3 : Hid (FarR (flAll (.slice (some ⟨g, 0, none⟩) n cap) kv) w u3) := fun j hj hne => (bw.block j (Nat.lt_of_lt_of_le hj HBu2.out.size)).trans (HFu2.out j hj hne)
      clear bw
      obtain ⟨c3, f3⟩ := fl_at HKu3.out HNL.out HPL.out 3 (by decide) _ rfl
      have HKs3 : Hid (FlsO ((u3).setCell ⟨g, k * 13 + 3, none⟩ (.string (markOf K3))) base (.slice (some ⟨g, 0, none⟩) n cap) (pre ++ (⟨(⟨(K : Int), markOf K1, mkG K2 d.qfs d.qfs.length, markOf K3, d.who, d.opa, d.oxs, d.oys, d.ost, d.ofs, d.obd, d.otm, d.has⟩ : FlD), v2, v4, v6, v7, v9⟩ : FlV) :: post)) := fl_cell HKu3.out HNL.out HPL.out 3 (by decide) _ rfl rfl
      have HBs3 : Hid (Below base w ((u3).setCell ⟨g, k * 13 + 3, none⟩ (.string (markOf K3)))) := HBu3.out.setCell (p := ⟨g, k * 13 + 3, none⟩) HGB.out _
      have HFs3 : Hid (FarR (flAll (.slice (some ⟨g, 0, none⟩) n cap) kv) w ((u3).setCell ⟨g, k * 13 + 3, none⟩ (.string (markOf K3)))) := fun j hj hne => (heap_setCell_other _ _ j _ (fun e => hne (flRow (.slice (some ⟨g, 0, none⟩) n cap) kv) (by simp [flAll]) (by rw [e]; rfl))).trans (HFu3.out j hj hne)
      have bb3 := HBB3.out
      obtain ⟨c4, f4⟩ := fl_at HKs3.out HNL.out HPL.out 4 (by decide) _ rfl
      go_wp2_with fail
      rw [E4.out]
      refine (markIFrom_any v4 d.who.length base d.who _ ((FlsO.item HKs3.out (x := (⟨(⟨(K : Int), markOf K1, mkG K2 d.qfs d.qfs.length, markOf K3, d.who, d.opa, d.oxs, d.oys, d.ost, d.ofs, d.obd, d.otm, d.has⟩ : FlD), v2, v4, v6, v7, v9⟩ : FlV)) (List.mem_append_right _ List.mem_cons_self)).own (⟨3, 1, v4, d.who.length, d.who.map (Value.int .i64)⟩ : Rw) (by simp [flR])) (Nat.le_trans hb HBs3.out.size) K4 b4.out.1 b4.out.2).mono ?_
      rintro e u4 ⟨rfl, mk, bm, far⟩
      have HKu4 : Hid (FlsO u4 base (.slice (some ⟨g, 0, none⟩) n cap) (pre ++ (⟨(⟨(K : Int), markOf K1, mkG K2 d.qfs d.qfs.length, markOf K3, mkI K4 d.who d.who.length, d.opa, d.oxs, d.oys, d.ost, d.ofs, d.obd, d.otm, d.has⟩ : FlD), v2, v4, v6, v7, v9⟩ : FlV) :: post)) := fl_row (r := (⟨3, 1, v4, d.who.length, d.who.map (Value.int .i64)⟩ : Rw)) (r' := (⟨3, 1, v4, (mkI K4 d.who d.who.length).length, (mkI K4 d.who d.who.length).map (Value.int .i64)⟩ : Rw)) (a := [(⟨135, 2, v2, (mkG K2 d.qfs d.qfs.length).length, flatF (mkG K2 d.qfs d.qfs.length)⟩ : Rw)]) (b := [(⟨9, 1, v6, d.oxs.length, d.oxs.map Value.string⟩ : Rw), (⟨9, 1, v7, d.oys.length, d.oys.map Value.string⟩ : Rw), (⟨135, 2, v9, d.ofs.length, flatF d.ofs⟩ : Rw)]) HKs3.out rfl (by first | rfl | simp [flR]) rfl rfl (by unfold Rw.own; simp only [mkI_len]; exact mk) far
      have HBu4 : Hid (Below base w u4) := HBs3.out.trans bm
      have HFu4 : Hid (FarR (flAll (.slice (some ⟨g, 0, none⟩) n cap) kv) w u4) := fun j hj hne => (far j (Nat.lt_of_lt_of_le hj HBs3.out.size) (hne (⟨3, 1, v4, d.who.length, d.who.map (Value.int .i64)⟩ : Rw) HIN4.out)).trans (HFs3.out j hj hne)
      clear mk bm far c3 f3 bb3 c4 f4
      rw [E5.out]
      go_wp2_with fail
      refine (markText_any K5 _ b5.out.1 b5.out.2).mono ?_
      rintro e u5 ⟨rfl, bw⟩
      have HKu5 : Hid (FlsO u5 base (.slice (some ⟨g, 0, none⟩) n cap) (pre ++ (⟨(⟨(K : Int), markOf K1, mkG K2 d.qfs d.qfs.length, markOf K3, mkI K4 d.who d.who.length, d.opa, d.oxs, d.oys, d.ost, d.ofs, d.obd, d.otm, d.has⟩ : FlD), v2, v4, v6, v7, v9⟩ : FlV) :: post)) := FlsO.below HKu4.out bw
      have HBu5 : Hid (Below base w u5) := HBu4.out.trans (bw.mono (Nat.le_trans hb HBu4.out.size))
      have HFu5 : Hid (FarR (flAll (.slice (some ⟨g, 0, none⟩) n cap) kv) w u5) := fun j hj hne => (bw.block j (Nat.lt_of_lt_of_le hj HBu4.out.size)).trans (HFu4.out j hj hne)
      clear bw
      obtain ⟨c5, f5⟩ := fl_at HKu5.out HNL.out HPL.out 5 (by decide) _ rfl
      have HKs5 : Hid (FlsO ((u5).setCell ⟨g, k * 13 + 5, none⟩ (.string (markOf K5))) base (.slice (some ⟨g, 0, none⟩) n cap) (pre ++ (⟨(⟨(K : Int), markOf K1, mkG K2 d.qfs d.qfs.length, markOf K3, mkI K4 d.who d.who.length, markOf K5, d.oxs, d.oys, d.ost, d.ofs, d.obd, d.otm, d.has⟩ : FlD), v2, v4, v6, v7, v9⟩ : FlV) :: post)) := fl_cell HKu5.out HNL.out HPL.out 5 (by decide) _ rfl rfl
      have HBs5 : Hid (Below base w ((u5).setCell ⟨g, k * 13 + 5, none⟩ (.string (markOf K5)))) := HBu5.out.setCell (p := ⟨g, k * 13 + 5, none⟩) HGB.out _
      have HFs5 : Hid (FarR (flAll (.slice (some ⟨g, 0, none⟩) n cap) kv) w ((u5).setCell ⟨g, k * 13 + 5, none⟩ (.string (markOf K5)))) := fun j hj hne => (heap_setCell_other _ _ j _ (fun e => hne (flRow (.slice (some ⟨g, 0, none⟩) n cap) kv) (by simp [flAll]) (by rw [e]; rfl))).trans (HFu5.out j hj hne)
      have bb5 := HBB5.out
      obtain ⟨c6, f6⟩ := fl_at HKs5.out HNL.out HPL.out 6 (by decide) _ rfl
      go_wp2_with fail
      rw [E6.out]
      refine (markTFrom_any v6 d.oxs.length base d.oxs _ ((FlsO.item HKs5.out (x := (⟨(⟨(K : Int), markOf K1, mkG K2 d.qfs d.qfs.length, markOf K3, mkI K4 d.who d.who.length, markOf K5, d.oxs, d.oys, d.ost, d.ofs, d.obd, d.otm, d.has⟩ : FlD), v2, v4, v6, v7, v9⟩ : FlV)) (List.mem_append_right _ List.mem_cons_self)).own (⟨9, 1, v6, d.oxs.length, d.oxs.map Value.string⟩ : Rw) (by simp [flR])) (Nat.le_trans hb HBs5.out.size) K6 b6.out.1 b6.out.2).mono ?_
      rintro e u6 ⟨rfl, mk, bm, far⟩
      have HKu6 : Hid (FlsO u6 base (.slice (some ⟨g, 0, none⟩) n cap) (pre ++ (⟨(⟨(K : Int), markOf K1, mkG K2 d.qfs d.qfs.length, markOf K3, mkI K4 d.who d.who.length, markOf K5, mkT K6 d.oxs d.oxs.length, d.oys, d.ost, d.ofs, d.obd, d.otm, d.has⟩ : FlD), v2, v4, v6, v7, v9⟩ : FlV) :: post)) := fl_row (r := (⟨9, 1, v6, d.oxs.length, d.oxs.map Value.string⟩ : Rw)) (r' := (⟨9, 1, v6, (mkT K6 d.oxs d.oxs.length).length, (mkT K6 d.oxs d.oxs.length).map Value.string⟩ : Rw)) (a := [(⟨135, 2, v2, (mkG K2 d.qfs d.qfs.length).length, flatF (mkG K2 d.qfs d.qfs.length)⟩ : Rw), (⟨3, 1, v4, (mkI K4 d.who d.who.length).length, (mkI K4 d.who d.who.length).map (Value.int .i64)⟩ : Rw)]) (b := [(⟨9, 1, v7, d.oys.length, d.oys.map Value.string⟩ : Rw), (⟨135, 2, v9, d.ofs.length, flatF d.ofs⟩ : Rw)]) HKs5.out rfl (by first | rfl | simp [flR]) rfl rfl (by unfold Rw.own; simp only [mkT_len]; exact mk) far
      have HBu6 : Hid (Below base w u6) := HBs5.out.trans bm
      have HFu6 : Hid (FarR (flAll (.slice (some ⟨g, 0, none⟩) n cap) kv) w u6) := fun j hj hne => (far j (Nat.lt_of_lt_of_le hj HBs5.out.size) (hne (⟨9, 1, v6, d.oxs.length, d.oxs.map Value.string⟩ : Rw) HIN6.out)).trans (HFs5.out j hj hne)
      clear mk bm far c5 f5 bb5 c6 f6
      rw [E7.out]
      obtain ⟨c7, f7⟩ := fl_at HKu6.out HNL.out HPL.out 7 (by decide) _ rfl
      go_wp2_with fail
      refine (markTFrom_any v7 d.oys.length base d.oys _ ((FlsO.item HKu6.out (x := (⟨(⟨(K : Int), markOf K1, mkG K2 d.qfs d.qfs.length, markOf K3, mkI K4 d.who d.who.length, markOf K5, mkT K6 d.oxs d.oxs.length, d.oys, d.ost, d.ofs, d.obd, d.otm, d.has⟩ : FlD), v2, v4, v6, v7, v9⟩ : FlV)) (List.mem_append_right _ List.mem_cons_self)).own (⟨9, 1, v7, d.oys.length, d.oys.map Value.string⟩ : Rw) (by simp [flR])) (Nat.le_trans hb HBu6.out.size) K7 b7.out.1 b7.out.2).mono ?_
      rintro e u7 ⟨rfl, mk, bm, far⟩
      have HKu7 : Hid (FlsO u7 base (.slice (some ⟨g, 0, none⟩) n cap) (pre ++ (⟨(⟨(K : Int), markOf K1, mkG K2 d.qfs d.qfs.length, markOf K3, mkI K4 d.who d.who.length, markOf K5, mkT K6 d.oxs d.oxs.length, mkT K7 d.oys d.oys.length, d.ost, d.ofs, d.obd, d.otm, d.has⟩ : FlD), v2, v4, v6, v7, v9⟩ : FlV) :: post)) := fl_row (r := (⟨9, 1, v7, d.oys.length, d.oys.map Value.string⟩ : Rw)) (r' := (⟨9, 1, v7, (mkT K7 d.oys d.oys.length).length, (mkT K7 d.oys d.oys.length).map Value.string⟩ : Rw)) (a := [(⟨135, 2, v2, (mkG K2 d.qfs d.qfs.length).length, flatF (mkG K2 d.qfs d.qfs.length)⟩ : Rw), (⟨3, 1, v4, (mkI K4 d.who d.who.length).length, (mkI K4 d.who d.who.length).map (Value.int .i64)⟩ : Rw), (⟨9, 1, v6, (mkT K6 d.oxs d.oxs.length).length, (mkT K6 d.oxs d.oxs.length).map Value.string⟩ : Rw)]) (b := [(⟨135, 2, v9, d.ofs.length, flatF d.ofs⟩ : Rw)]) HKu6.out rfl (by first | rfl | simp [flR]) rfl rfl (by unfold Rw.own; simp only [mkT_len]; exact mk) far
      have HBu7 : Hid (Below base w u7) := HBu6.out.trans bm
      have HFu7 : Hid (FarR (flAll (.slice (some ⟨g, 0, none⟩) n cap) kv) w u7) := fun j hj hne => (far j (Nat.lt_of_lt_of_le hj HBu6.out.size) (hne (⟨9, 1, v7, d.oys.length, d.oys.map Value.string⟩ : Rw) HIN7.out)).trans (HFu6.out j hj hne)
      clear mk bm far c7 f7
      rw [E8.out]
      obtain ⟨c8, f8⟩ := fl_at HKu7.out HNL.out HPL.out 8 (by decide) _ rfl
      have HKs8 : Hid (FlsO ((u7).setCell ⟨g, k * 13 + 8, none⟩ (.int .i64 (K8 : Int))) base (.slice (some ⟨g, 0, none⟩) n cap) (pre ++ (⟨(⟨(K : Int), markOf K1, mkG K2 d.qfs d.qfs.length, markOf K3, mkI K4 d.who d.who.length, markOf K5, mkT K6 d.oxs d.oxs.length, mkT K7 d.oys d.oys.length, (K8 : Int), d.ofs, d.obd, d.otm, d.has⟩ : FlD), v2, v4, v6, v7, v9⟩ : FlV) :: post)) := fl_cell HKu7.out HNL.out HPL.out 8 (by decide) _ rfl rfl
      have HBs8 : Hid (Below base w ((u7).setCell ⟨g, k * 13 + 8, none⟩ (.int .i64 (K8 : Int)))) := HBu7.out.setCell (p := ⟨g, k * 13 + 8, none⟩) HGB.out _
      have HFs8 : Hid (FarR (flAll (.slice (some ⟨g, 0, none⟩) n cap) kv) w ((u7).setCell ⟨g, k * 13 + 8, none⟩ (.int .i64 (K8 : Int)))) := fun j hj hne => (heap_setCell_other _ _ j _ (fun e => hne (flRow (.slice (some ⟨g, 0, none⟩) n cap) kv) (by simp [flAll]) (by rw [e]; rfl))).trans (HFu7.out j hj hne)
      have bb8 := HBB8.out
      obtain ⟨c9, f9⟩ := fl_at HKs8.out HNL.out HPL.out 9 (by decide) _ rfl
      go_wp2_with fail
      rw [E9.out]
      refine (markFrom_any v9 d.ofs.length base d.ofs _ ((FlsO.item HKs8.out (x := (⟨(⟨(K : Int), markOf K1, mkG K2 d.qfs d.qfs.length, markOf K3, mkI K4 d.who d.who.length, markOf K5, mkT K6 d.oxs d.oxs.length, mkT K7 d.oys d.oys.length, (K8 : Int), d.ofs, d.obd, d.otm, d.has⟩ : FlD), v2, v4, v6, v7, v9⟩ : FlV)) (List.mem_append_right _ List.mem_cons_self)).own (⟨135, 2, v9, d.ofs.length, flatF d.ofs⟩ : Rw) (by simp [flR])) (Nat.le_trans hb HBs8.out.size) K9 b9.out.1 b9.out.2).mono ?_
      rintro e u8 ⟨rfl, mk, bm, far⟩
      have HKu8 : Hid (FlsO u8 base (.slice (some ⟨g, 0, none⟩) n cap) (pre ++ (⟨(⟨(K : Int), markOf K1, mkG K2 d.qfs d.qfs.length, markOf K3, mkI K4 d.who d.who.length, markOf K5, mkT K6 d.oxs d.oxs.length, mkT K7 d.oys d.oys.length, (K8 : Int), mkG K9 d.ofs d.ofs.length, d.obd, d.otm, d.has⟩ : FlD), v2, v4, v6, v7, v9⟩ : FlV) :: post)) := fl_row (r := (⟨135, 2, v9, d.ofs.length, flatF d.ofs⟩ : Rw)) (r' := (⟨135, 2, v9, (mkG K9 d.ofs d.ofs.length).length, flatF (mkG K9 d.ofs d.ofs.length)⟩ : Rw)) (a := [(⟨135, 2, v2, (mkG K2 d.qfs d.qfs.length).length, flatF (mkG K2 d.qfs d.qfs.length)⟩ : Rw), (⟨3, 1, v4, (mkI K4 d.who d.who.length).length, (mkI K4 d.who d.who.length).map (Value.int .i64)⟩ : Rw), (⟨9, 1, v6, (mkT K6 d.oxs d.oxs.length).length, (mkT K6 d.oxs d.oxs.length).map Value.string⟩ : Rw), (⟨9, 1, v7, (mkT K7 d.oys d.oys.length).length, (mkT K7 d.oys d.oys.length).map Value.string⟩ : Rw)]) (b := []) HKs8.out rfl (by first | rfl | simp [flR]) rfl rfl (by unfold Rw.own; simp only [mkG_len]; exact mk) far
      have HBu8 : Hid (Below base w u8) := HBs8.out.trans bm
      have HFu8 : Hid (FarR (flAll (.slice (some ⟨g, 0, none⟩) n cap) kv) w u8) := fun j hj hne => (far j (Nat.lt_of_lt_of_le hj HBs8.out.size) (hne (⟨135, 2, v9, d.ofs.length, flatF d.ofs⟩ : Rw) HIN9.out)).trans (HFs8.out j hj hne)
      clear mk bm far c8 f8 bb8 c9 f9
      rw [E10.out]
      go_wp2_with fail
      refine (markText_any K10 _ b10.out.1 b10.out.2).mono ?_
      rintro e u9 ⟨rfl, bw⟩
      have HKu9 : Hid (FlsO u9 base (.slice (some ⟨g, 0, none⟩) n cap) (pre ++ (⟨(⟨(K : Int), markOf K1, mkG K2 d.qfs d.qfs.length, markOf K3, mkI K4 d.who d.who.length, markOf K5, mkT K6 d.oxs d.oxs.length, mkT K7 d.oys d.oys.length, (K8 : Int), mkG K9 d.ofs d.ofs.length, d.obd, d.otm, d.has⟩ : FlD), v2, v4, v6, v7, v9⟩ : FlV) :: post)) := FlsO.below HKu8.out bw
      have HBu9 : Hid (Below base w u9) := HBu8.out.trans (bw.mono (Nat.le_trans hb HBu8.out.size))
      have HFu9 : Hid (FarR (flAll (.slice (some ⟨g, 0, none⟩) n cap) kv) w u9) := fun j hj hne => (bw.block j (Nat.lt_of_lt_of_le hj HBu8.out.size)).trans (HFu8.out j hj hne)
      clear bw
      obtain ⟨c10, f10⟩ := fl_at HKu9.out HNL.out HPL.out 10 (by decide) _ rfl
      have HKs10 : Hid (FlsO ((u9).setCell ⟨g, k * 13 + 10, none⟩ (.string (markOf K10))) base (.slice (some ⟨g, 0, none⟩) n cap) (pre ++ (⟨(⟨(K : Int), markOf K1, mkG K2 d.qfs d.qfs.length, markOf K3, mkI K4 d.who d.who.length, markOf K5, mkT K6 d.oxs d.oxs.length, mkT K7 d.oys d.oys.length, (K8 : Int), mkG K9 d.ofs d.ofs.length, markOf K10, d.otm, d.has⟩ : FlD), v2, v4, v6, v7, v9⟩ : FlV) :: post)) := fl_cell HKu9.out HNL.out HPL.out 10 (by decide) _ rfl rfl
      have HBs10 : Hid (Below base w ((u9).setCell ⟨g, k * 13 + 10, none⟩ (.string (markOf K10)))) := HBu9.out.setCell (p := ⟨g, k * 13 + 10, none⟩) HGB.out _
      have HFs10 : Hid (FarR (flAll (.slice (some ⟨g, 0, none⟩) n cap) kv) w ((u9).setCell ⟨g, k * 13 + 10, none⟩ (.string (markOf K10)))) := fun j hj hne => (heap_setCell_other _ _ j _ (fun e => hne (flRow (.slice (some ⟨g, 0, none⟩) n cap) kv) (by simp [flAll]) (by rw [e]; rfl))).trans (HFu9.out j hj hne)
      have bb10 := HBB10.out
      have e11 := E11.out
      obtain ⟨c11, f11⟩ := fl_at HKs10.out HNL.out HPL.out 11 (by decide) _ rfl
      have HKs11 : Hid (FlsO ((((u9).setCell ⟨g, k * 13 + 10, none⟩ (.string (markOf K10)))).setCell ⟨g, k * 13 + 11, none⟩ (.int .i64 (K11 : Int))) base (.slice (some ⟨g, 0, none⟩) n cap) (pre ++ (⟨(⟨(K : Int), markOf K1, mkG K2 d.qfs d.qfs.length, markOf K3, mkI K4 d.who d.who.length, markOf K5, mkT K6 d.oxs d.oxs.length, mkT K7 d.oys d.oys.length, (K8 : Int), mkG K9 d.ofs d.ofs.length, markOf K10, (K11 : Int), d.has⟩ : FlD), v2, v4, v6, v7, v9⟩ : FlV) :: post)) := fl_cell HKs10.out HNL.out HPL.out 11 (by decide) _ rfl rfl
      have HBs11 : Hid (Below base w ((((u9).setCell ⟨g, k * 13 + 10, none⟩ (.string (markOf K10)))).setCell ⟨g, k * 13 + 11, none⟩ (.int .i64 (K11 : Int)))) := HBs10.out.setCell (p := ⟨g, k * 13 + 11, none⟩) HGB.out _
      have HFs11 : Hid (FarR (flAll (.slice (some ⟨g, 0, none⟩) n cap) kv) w ((((u9).setCell ⟨g, k * 13 + 10, none⟩ (.string (markOf K10)))).setCell ⟨g, k * 13 + 11, none⟩ (.int .i64 (K11 : Int)))) := fun j hj hne => (heap_setCell_other _ _ j _ (fun e => hne (flRow (.slice (some ⟨g, 0, none⟩) n cap) kv) (by simp [flAll]) (by rw [e]; rfl))).trans (HFs10.out j hj hne)
      have bb11 := HBB11.out
      have e12 := E12.out
      obtain ⟨c12, f12⟩ := fl_at HKs11.out HNL.out HPL.out 12 (by decide) _ rfl
      have HKs12 : Hid (FlsO ((((((u9).setCell ⟨g, k * 13 + 10, none⟩ (.string (markOf K10)))).setCell ⟨g, k * 13 + 11, none⟩ (.int .i64 (K11 : Int)))).setCell ⟨g, k * 13 + 12, none⟩ (.bool (mkBit K12))) base (.slice (some ⟨g, 0, none⟩) n cap) (pre ++ (⟨(⟨(K : Int), markOf K1, mkG K2 d.qfs d.qfs.length, markOf K3, mkI K4 d.who d.who.length, markOf K5, mkT K6 d.oxs d.oxs.length, mkT K7 d.oys d.oys.length, (K8 : Int), mkG K9 d.ofs d.ofs.length, markOf K10, (K11 : Int), mkBit K12⟩ : FlD), v2, v4, v6, v7, v9⟩ : FlV) :: post)) := fl_cell HKs11.out HNL.out HPL.out 12 (by decide) _ rfl rfl
      have HBs12 : Hid (Below base w ((((((u9).setCell ⟨g, k * 13 + 10, none⟩ (.string (markOf K10)))).setCell ⟨g, k * 13 + 11, none⟩ (.int .i64 (K11 : Int)))).setCell ⟨g, k * 13 + 12, none⟩ (.bool (mkBit K12)))) := HBs11.out.setCell (p := ⟨g, k * 13 + 12, none⟩) HGB.out _
      have HFs12 : Hid (FarR (flAll (.slice (some ⟨g, 0, none⟩) n cap) kv) w ((((((u9).setCell ⟨g, k * 13 + 10, none⟩ (.string (markOf K10)))).setCell ⟨g, k * 13 + 11, none⟩ (.int .i64 (K11 : Int)))).setCell ⟨g, k * 13 + 12, none⟩ (.bool (mkBit K12)))) := fun j hj hne => (heap_setCell_other _ _ j _ (fun e => hne (flRow (.slice (some ⟨g, 0, none⟩) n cap) kv) (by simp [flAll]) (by rw [e]; rfl))).trans (HFs11.out j hj hne)
      have bb12 := HBB12.out
      have e13 := E13.out
      have HFIN : Hid (mkFlV K x0 = (⟨(⟨(K : Int), markOf K1, mkG K2 d.qfs d.qfs.length, markOf K3, mkI K4 d.who d.who.length, markOf K5, mkT K6 d.oxs d.oxs.length, mkT K7 d.oys d.oys.length, (K8 : Int), mkG K9 d.ofs d.ofs.length, markOf K10, (K11 : Int), mkBit K12⟩ : FlD), v2, v4, v6, v7, v9⟩ : FlV)) := by
        show _ = _
        rw [HX0.out]
        unfold mkFlV mkFlD
        rw [HQ1.out, HQ2.out, HQ3.out, HQ4.out, HQ5.out, HQ6.out, HQ7.out, HQ8.out, HQ9.out, HQ10.out, HQ11.out, HQ12.out]
      have HKN : Hid (K13 = k0 + wmsFl (kv.take (k + 1))) := by
        have h1 : k0 + wmsFl (kv.take (k + 1)) = K + wmFl d := by have h := HKE2.out; rw [HX0.out] at h; exact h
        have h2 : wmFl d = 8 + 2 * d.qfs.length + d.who.length + d.oxs.length + d.oys.length + 2 * d.ofs.length := rfl
        have h3 := HQ13.out
        show _ = _
        omega
      go_wp2
      go_roundw
      case rel => exact ⟨k + 1, K13, by omega, by go_num, rfl, b13.out, HKN, HBs12, by show FlsO _ _ _ _; rw [HEND.out, HFIN.out]; exact HKs12.out, HFs12⟩
      case measure => simp [intOf]; omega
    · have HE : Hid (k0 + TW = K ∧ FlsO wr base (.slice oa n cap) (mkFls k0 kv)) := by
        have e1 := HKE.out
        have e2 := HK0'.out
        rw [List.take_of_length_le (by rw [HLN.out]; omega)] at e1 e2
        rw [List.drop_eq_nil_of_le (by rw [HLN.out]; omega), List.append_nil] at e2
        exact ⟨by rw [HTW.out, e1], e2⟩
      go_wp2
      go_ret
      exact ⟨by rw [HE.out.1]; rfl, HE.out.2, HB0.out, HF0.out⟩

end Go.Proofs.YtajccgffallajaaGreat

namespace Go.Proofs.YtajccgffallajaaGreat
open Go.RowKit
open Go.Lib hiding intOf

theorem se_at {W : World} {base g n cap k : Nat} {pre post : List SeV} {x : SeV} (h : SesO W base (.slice (some ⟨g, 0, none⟩) n cap) (pre ++ x :: post)) (hn : (pre ++ x :: post).length = n) (hk : pre.length = k) (j : Nat) (hj : j < 8) (u : Value) (hu : (seC x)[j]? = some u) : W.cell? ⟨g, k * 8 + j, none⟩ = some u ∧ W.frozen? ⟨g, k * 8 + j, none⟩ = false := by
  have hr := h.row
  rw [hn] at hr
  refine owns_cellC hr (k * 8 + j) u ?_
  rw [← hk, items_at seC 8 seC_len (pre ++ x :: post) pre.length j (by simp) hj]
  simpa using hu
theorem se_cell {W : World} {base g n cap k : Nat} {pre post : List SeV} {x x' : SeV} (h : SesO W base (.slice (some ⟨g, 0, none⟩) n cap) (pre ++ x :: post)) (hn : (pre ++ x :: post).length = n) (hk : pre.length = k) (j : Nat) (hj : j < 8) (u : Value) (hc : seC x' = (seC x).set j u) (hr : seR x' = seR x) : SesO (W.setCell ⟨g, k * 8 + j, none⟩ u) base (.slice (some ⟨g, 0, none⟩) n cap) (pre ++ x' :: post) := by
  have hrow := h.row
  rw [hn] at hrow
  have h1 := owns_setC hrow (k * 8 + j) u
  have e1 : ((pre ++ x :: post).flatMap seC).set (k * 8 + j) u = (pre ++ x' :: post).flatMap seC := by
    rw [List.flatMap_append, List.flatMap_cons, List.flatMap_append, List.flatMap_cons, List.set_append_right _ _ (by rw [items_len seC 8 seC_len, hk]; omega), items_len seC 8 seC_len, hk, Nat.add_sub_cancel_left, List.set_append_left _ _ (by rw [seC_len]; exact hj), ← hc]
  rw [e1] at h1
  have e2 : (pre ++ x' :: post).flatMap seR = (pre ++ x :: post).flatMap seR := by rw [List.flatMap_append, List.flatMap_cons, List.flatMap_append, List.flatMap_cons, hr]
  have hl : (pre ++ x' :: post).length = n := by rw [← hn]; simp
  have h2 : RowsO W base ([] ++ seRow (.slice (some ⟨g, 0, none⟩) n cap) (pre ++ x :: post) :: (pre ++ x :: post).flatMap seR) := h
  have hown : (seRow (.slice (some ⟨g, 0, none⟩) n cap) (pre ++ x' :: post)).own (W.setCell ⟨g, k * 8 + j, none⟩ u) base := by
    unfold Rw.own seRow
    rw [hl]
    exact h1
  have h3 := h2.turn (r' := seRow (.slice (some ⟨g, 0, none⟩) n cap) (pre ++ x' :: post)) rfl hown (fun j' _ hne => heap_setCell_other _ _ j' _ (fun e => hne (by rw [e]; rfl)))
  unfold SesO seAll
  rw [e2]
  exact h3
theorem se_row {W W' : World} {base : Nat} {V : Value} {pre post : List SeV} {x x' : SeV} (h : SesO W base V (pre ++ x :: post)) {r r' : Rw} {a b : List Rw} (ha : seR x = a ++ r :: b) (hb : seR x' = a ++ r' :: b) (hc : seC x' = seC x) (hv : r'.v = r.v) (ho : r'.own W' base) (hs : ∀ j, j < W.heap.size → r.v.ownBlock ≠ some j → W'.heap[j]? = W.heap[j]?) : SesO W' base V (pre ++ x' :: post) := by
  have e1 : seAll V (pre ++ x :: post) = (seRow V (pre ++ x :: post) :: (pre.flatMap seR ++ a)) ++ r :: (b ++ post.flatMap seR) := by
    unfold seAll
    rw [List.flatMap_append, List.flatMap_cons, ha]
    simp
  have e2 : seAll V (pre ++ x' :: post) = (seRow V (pre ++ x :: post) :: (pre.flatMap seR ++ a)) ++ r' :: (b ++ post.flatMap seR) := by
    have e3 : seRow V (pre ++ x' :: post) = seRow V (pre ++ x :: post) := by
      unfold seRow
      rw [List.flatMap_append, List.flatMap_cons, List.flatMap_append, List.flatMap_cons, hc]
      simp
    unfold seAll
    rw [e3, List.flatMap_append, List.flatMap_cons, hb]
    simp
  have h1 : RowsO W base ((seRow V (pre ++ x :: post) :: (pre.flatMap seR ++ a)) ++ r :: (b ++ post.flatMap seR)) := by rw [← e1]; exact h
  have h2 := h1.turn hv ho hs
  unfold SesO
  rw [e2]
  exact h2
/-- How many numbers one takes. -/
def wmSe (d : SeD) : Nat := 6 + 2 * d.qfs.length + 2 * d.rfs.length
def wmsSe : List SeV → Nat
  | [] => 0
  | x :: r => wmSe x.d + wmsSe r
theorem wmsSe_snoc (x : SeV) : ∀ l : List SeV, wmsSe (l ++ [x]) = wmsSe l + wmSe x.d
  | [] => by simp [wmsSe]
  | y :: l => by rw [List.cons_append, wmsSe, wmsSe_snoc x l, wmsSe]; omega
theorem wmsSe_append : ∀ (l m : List SeV), wmsSe (l ++ m) = wmsSe l + wmsSe m
  | [], m => by simp [wmsSe]
  | y :: l, m => by rw [List.cons_append, wmsSe, wmsSe_append l m, wmsSe]; omega
/-- One marked from K on. -/
def mkSeD (K : Nat) (d : SeD) : SeD := ⟨((K : Nat) : Int), markOf (K + 1), mkG (K + 2) d.qfs d.qfs.length, markOf (K + 2 + 2 * d.qfs.length), ((K + 3 + 2 * d.qfs.length : Nat) : Int), mkG (K + 4 + 2 * d.qfs.length) d.rfs d.rfs.length, markOf (K + 4 + 2 * d.qfs.length + 2 * d.rfs.length), ((K + 5 + 2 * d.qfs.length + 2 * d.rfs.length : Nat) : Int)⟩
def mkSeV (K : Nat) (x : SeV) : SeV := ⟨mkSeD K x.d, x.v2, x.v5⟩
def mkSes (k : Nat) : List SeV → List SeV
  | [] => []
  | x :: r => mkSeV k x :: mkSes (k + wmSe x.d) r
theorem mkSes_len : ∀ (k : Nat) (l : List SeV), (mkSes k l).length = l.length
  | _, [] => rfl
  | k, x :: r => by rw [mkSes, List.length_cons, mkSes_len _ r, List.length_cons]
theorem mkSes_snoc (x : SeV) : ∀ (k : Nat) (l : List SeV), mkSes k (l ++ [x]) = mkSes k l ++ [mkSeV (k + wmsSe l) x]
  | _, [] => by simp [mkSes, wmsSe]
  | k, y :: l => by rw [List.cons_append, mkSes, mkSes_snoc x _ l, mkSes, wmsSe]; simp [Nat.add_assoc]
theorem mkSes_v (V : Value) : ∀ (kv : List SeV) (k : Nat), (seAll V (mkSes k kv)).map (·.v) = (seAll V kv).map (·.v) := by
  have key : ∀ (kv : List SeV) (k : Nat), ((mkSes k kv).flatMap seR).map (·.v) = (kv.flatMap seR).map (·.v) := by
    intro kv
    induction kv with
    | nil => intro k; rfl
    | cons x r ih =>
      intro k
      rw [mkSes, List.flatMap_cons, List.flatMap_cons, List.map_append, List.map_append, ih]
      rfl
  intro kv k
  unfold seAll
  rw [List.map_cons, List.map_cons, key]
  rfl

set_option maxHeartbeats 8000000 in
set_option maxRecDepth 100000 in
theorem markSeenS_any (V : Value) (kv : List SeV) (base : Nat) (w : World) (h1 : SesO w base V kv) (hb : base ≤ w.heap.size) (k0 : Nat) (hk0 : 1 ≤ k0) (hn : k0 + wmsSe kv ≤ 99999998) (hm : kv.length ≤ 2000000) :
    Calls Tryz.prog 32 #[V, .int .i64 (k0 : Int)] w fun e w' => e = .returned (.int .i64 ((k0 + wmsSe kv : Nat) : Int)) ∧ SesO w' base V (mkSes k0 kv) ∧ Below base w w' ∧ FarR (seAll V kv) w w' := by
  obtain ⟨n, hnn⟩ : ∃ n, n = kv.length := ⟨_, rfl⟩
  obtain ⟨oa, cap, e1⟩ := h1.len
  rw [← hnn] at e1 hm
  subst e1
  have HLN : Hid (kv.length = n) := hnn.symm
  have H1 : Hid (SesO w base (.slice oa n cap) kv) := h1
  obtain ⟨TW, hTW⟩ : ∃ m, m = wmsSe kv := ⟨_, rfl⟩
  have HTW : Hid (TW = wmsSe kv) := hTW
  rw [← hTW] at hn ⊢
  clear h1 hnn hTW
  go_enter Tryz.func32, Tryz.ntmps32
  go_wp2
  go_loopw [1, 5] (fun q i wr => ∃ (k K : Nat), k ≤ n ∧ i = .int .i64 (k : Int) ∧ q = .int .i64 (K : Int) ∧ 1 ≤ K ∧ Hid (K = k0 + wmsSe (kv.take k)) ∧ Hid (Below base w wr) ∧ Hid (SesO wr base (.slice oa n cap) (mkSes k0 (kv.take k) ++ kv.drop k)) ∧ Hid (FarR (seAll (.slice oa n cap) kv) w wr)) (fun _ i _ => n - (intOf i).toNat)
  case atStart => exact ⟨0, k0, Nat.zero_le _, rfl, rfl, hk0, by simp [Hid, wmsSe], Below.refl _ _, by simpa [Hid, mkSes] using H1.out, fun _ _ _ => rfl⟩
  case round =>
    obtain ⟨k, K, hk, rfl, rfl, hK1, HKE, HB0, HK0', HF0⟩ := hrel
    by_cases hlt : k < n
    · have hlt2 : (k : Int) < (n : Int) := by omega
      have hkl : k < kv.length := by rw [HLN.out]; exact hlt
      obtain ⟨x0, hx0⟩ : ∃ x, x = kv[k]'hkl := ⟨_, rfl⟩
      have HX : Hid (x0 ∈ kv) := by show _ ∈ _; rw [hx0]; exact List.getElem_mem hkl
      have hdrop : kv.drop k = x0 :: kv.drop (k + 1) := by rw [hx0]; exact List.drop_eq_getElem_cons hkl
      have htake : kv.take (k + 1) = kv.take k ++ [x0] := by rw [hx0]; exact List.take_succ_eq_append_getElem hkl
      have hww : wmsSe kv = wmsSe (kv.take k) + (wmSe x0.d + wmsSe (kv.drop (k + 1))) := by
        have e := wmsSe_append (kv.take k) (kv.drop k)
        rw [List.take_append_drop, hdrop, wmsSe] at e
        exact e
      have hbd : K + wmSe x0.d ≤ 99999998 := by have := HKE.out; have := HTW.out; omega
      obtain ⟨pre, hpre⟩ : ∃ l, l = mkSes k0 (kv.take k) := ⟨_, rfl⟩
      obtain ⟨post, hpost⟩ : ∃ l, l = kv.drop (k + 1) := ⟨_, rfl⟩
      have HPL : Hid (pre.length = k) := by show _ = _; rw [hpre, mkSes_len, List.length_take, Nat.min_eq_left (Nat.le_of_lt hkl)]
      have HNL0 : Hid (∀ y : SeV, (pre ++ y :: post).length = n) := fun y => by rw [List.length_append, List.length_cons, HPL.out, hpost, List.length_drop, HLN.out]; omega
      have HKE2 : Hid (k0 + wmsSe (kv.take (k + 1)) = K + wmSe x0.d) := by show _ = _; have h := HKE.out; rw [htake, wmsSe_snoc]; omega
      have HEND : Hid (mkSes k0 (kv.take (k + 1)) ++ kv.drop (k + 1) = pre ++ mkSeV K x0 :: post) := by show _ = _; rw [htake, mkSes_snoc, ← HKE.out, hpre, hpost]; simp
      have HK00 : Hid (SesO wr base (.slice oa n cap) (pre ++ x0 :: post)) := by
        have h := HK0'.out
        rw [hdrop, ← hpre, ← hpost] at h
        exact h
      obtain ⟨g, rfl⟩ := owns_some (by have h := HK00.out.row; rw [HNL0.out] at h; exact h) (by omega)
      have HGB : Hid (base ≤ g) := owns_ge HK00.out.row rfl
      clear hx0 hdrop htake hww hpre hpost HK0' hkl
      obtain ⟨x1, hx1⟩ : ∃ x, x = x0 := ⟨_, rfl⟩
      obtain ⟨d, v2, v5⟩ := x1
      have HX0 : Hid (x0 = (⟨d, v2, v5⟩ : SeV)) := hx1.symm
      have HNL : ∀ {y : SeV}, Hid ((pre ++ y :: post).length = n) := fun {y} => HNL0.out y
      have hbd2 : K + (6 + 2 * d.qfs.length + 2 * d.rfs.length) ≤ 99999998 := by have h : K + wmSe d ≤ 99999998 := (by have h := hbd; rw [HX0.out] at h; exact h); unfold wmSe at h; omega
      have HK0 : Hid (SesO wr base (.slice (some ⟨g, 0, none⟩) n cap) (pre ++ (⟨(⟨d.qmt, d.qpa, d.qfs, d.qbd, d.rst, d.rfs, d.rbd, d.tim⟩ : SeD), v2, v5⟩ : SeV) :: post)) := by
        have h := HK00.out
        rw [HX0.out] at h
        exact h
      have HIN2 : Hid ((⟨135, 2, v2, d.qfs.length, flatF d.qfs⟩ : Rw) ∈ seAll (.slice (some ⟨g, 0, none⟩) n cap) kv) := List.mem_cons_of_mem _ (List.mem_flatMap.2 ⟨(⟨d, v2, v5⟩ : SeV), (by have h := HX.out; rw [HX0.out] at h; exact h), by simp [seR]⟩)
      have HIN5 : Hid ((⟨135, 2, v5, d.rfs.length, flatF d.rfs⟩ : Rw) ∈ seAll (.slice (some ⟨g, 0, none⟩) n cap) kv) := List.mem_cons_of_mem _ (List.mem_flatMap.2 ⟨(⟨d, v2, v5⟩ : SeV), (by have h := HX.out; rw [HX0.out] at h; exact h), by simp [seR]⟩)
      clear hx1 hbd HK00 HX
      obtain ⟨K1, HQ1⟩ : ∃ m : Nat, Hid (m = K + 1) := ⟨_, rfl⟩
      obtain ⟨K2, HQ2⟩ : ∃ m : Nat, Hid (m = K + 2) := ⟨_, rfl⟩
      obtain ⟨K3, HQ3⟩ : ∃ m : Nat, Hid (m = K + 2 + 2 * d.qfs.length) := ⟨_, rfl⟩
      obtain ⟨K4, HQ4⟩ : ∃ m : Nat, Hid (m = K + 3 + 2 * d.qfs.length) := ⟨_, rfl⟩
      obtain ⟨K5, HQ5⟩ : ∃ m : Nat, Hid (m = K + 4 + 2 * d.qfs.length) := ⟨_, rfl⟩
      obtain ⟨K6, HQ6⟩ : ∃ m : Nat, Hid (m = K + 4 + 2 * d.qfs.length + 2 * d.rfs.length) := ⟨_, rfl⟩
      obtain ⟨K7, HQ7⟩ : ∃ m : Nat, Hid (m = K + 5 + 2 * d.qfs.length + 2 * d.rfs.length) := ⟨_, rfl⟩
      obtain ⟨K8, HQ8⟩ : ∃ m : Nat, Hid (m = K + 6 + 2 * d.qfs.length + 2 * d.rfs.length) := ⟨_, rfl⟩
      have E1 : Hid ((K : Int) + 1 = (K1 : Int)) := by show _ = _; have q1 := HQ1.out; omega
      have E2 : Hid ((K1 : Int) + 1 = (K2 : Int)) := by show _ = _; have q1 := HQ1.out; have q2 := HQ2.out; omega
      have E3 : Hid ((K2 : Int) + 2 * (d.qfs.length : Int) = (K3 : Int)) := by show _ = _; have q2 := HQ2.out; have q3 := HQ3.out; omega
      have E4 : Hid ((K3 : Int) + 1 = (K4 : Int)) := by show _ = _; have q3 := HQ3.out; have q4 := HQ4.out; omega
      have E5 : Hid ((K4 : Int) + 1 = (K5 : Int)) := by show _ = _; have q4 := HQ4.out; have q5 := HQ5.out; omega
      have E6 : Hid ((K5 : Int) + 2 * (d.rfs.length : Int) = (K6 : Int)) := by show _ = _; have q5 := HQ5.out; have q6 := HQ6.out; omega
      have E7 : Hid ((K6 : Int) + 1 = (K7 : Int)) := by show _ = _; have q6 := HQ6.out; have q7 := HQ7.out; omega
      have E8 : Hid ((K7 : Int) + 1 = (K8 : Int)) := by show _ = _; have q7 := HQ7.out; have q8 := HQ8.out; omega
      have HBB0 : Hid (K ≤ 99999999) := by show _ ≤ _; omega
      have b1 : Hid (1 ≤ K1 ∧ K1 ≤ 99999999) := by show _ ∧ _; have q1 := HQ1.out; omega
      have HBB1 : Hid (K1 ≤ 99999999) := by show _ ≤ _; have q1 := HQ1.out; omega
      have b2 : Hid (1 ≤ K2 ∧ K2 + 2 * d.qfs.length ≤ 99999999) := by show _ ∧ _; have q2 := HQ2.out; omega
      have HBB2 : Hid (K2 ≤ 99999999) := by show _ ≤ _; have q2 := HQ2.out; omega
      have b3 : Hid (1 ≤ K3 ∧ K3 ≤ 99999999) := by show _ ∧ _; have q3 := HQ3.out; omega
      have HBB3 : Hid (K3 ≤ 99999999) := by show _ ≤ _; have q3 := HQ3.out; omega
      have HBB4 : Hid (K4 ≤ 99999999) := by show _ ≤ _; have q4 := HQ4.out; omega
      have b5 : Hid (1 ≤ K5 ∧ K5 + 2 * d.rfs.length ≤ 99999999) := by show _ ∧ _; have q5 := HQ5.out; omega
      have HBB5 : Hid (K5 ≤ 99999999) := by show _ ≤ _; have q5 := HQ5.out; omega
      have b6 : Hid (1 ≤ K6 ∧ K6 ≤ 99999999) := by show _ ∧ _; have q6 := HQ6.out; omega
      have HBB6 : Hid (K6 ≤ 99999999) := by show _ ≤ _; have q6 := HQ6.out; omega
      have HBB7 : Hid (K7 ≤ 99999999) := by show _ ≤ _; have q7 := HQ7.out; omega
      have b8 : Hid (1 ≤ K8) := by show _ ≤ _; have q8 := HQ8.out; omega
      obtain ⟨c0, f0⟩ := se_at HK0.out HNL.out HPL.out 0 (by decide) _ rfl
      rw [Nat.add_zero] at c0 f0
      have HKs0 : Hid (SesO ((wr).setCell ⟨g, k * 8, none⟩ (.int .i64 (K : Int))) base (.slice (some ⟨g, 0, none⟩) n cap) (pre ++ (⟨(⟨(K : Int), d.qpa, d.qfs, d.qbd, d.rst, d.rfs, d.rbd, d.tim⟩ : SeD), v2, v5⟩ : SeV) :: post)) := se_cell HK0.out HNL.out HPL.out 0 (by decide) _ rfl rfl
      have HBs0 : Hid (Below base w ((wr).setCell ⟨g, k * 8, none⟩ (.int .i64 (K : Int)))) := HB0.out.setCell (p := ⟨g, k * 8, none⟩) HGB.out _
      have HFs0 : Hid (FarR (seAll (.slice (some ⟨g, 0, none⟩) n cap) kv) w ((wr).setCell ⟨g, k * 8, none⟩ (.int .i64 (K : Int)))) := fun j hj hne => (heap_setCell_other _ _ j _ (fun e => hne (seRow (.slice (some ⟨g, 0, none⟩) n cap) kv) (by simp [seAll]) (by rw [e]; rfl))).trans (HF0.out j hj hne)
      have bb0 := HBB0.out
      go_wp2_with fail
      rw [E1.out]
      refine (markText_any K1 _ b1.out.1 b1.out.2).mono ?_
      rintro e u1 ⟨rfl, bw⟩
      have HKu1 : Hid (SesO u1 base (.slice (some ⟨g, 0, none⟩) n cap) (pre ++ (⟨(⟨(K : Int), d.qpa, d.qfs, d.qbd, d.rst, d.rfs, d.rbd, d.tim⟩ : SeD), v2, v5⟩ : SeV) :: post)) := SesO.below HKs0.out bw
      have HBu1 : Hid (Below base w u1) := HBs0.out.trans (bw.mono (Nat.le_trans hb HBs0.out.size))
      have HFu1 : Hid (FarR (seAll (.slice (some ⟨g, 0, none⟩) n cap) kv) w u1) := fun j hj hne => (bw.block j (Nat.lt_of_lt_of_le hj HBs0.out.size)).trans (HFs0.out j hj hne)
      clear bw c0 f0 bb0
      obtain ⟨c1, f1⟩ := se_at HKu1.out HNL.out HPL.out 1 (by decide) _ rfl
      have HKs1 : Hid (SesO ((u1).setCell ⟨g, k * 8 + 1, none⟩ (.string (markOf K1))) base (.slice (some ⟨g, 0, none⟩) n cap) (pre ++ (⟨(⟨(K : Int), markOf K1, d.qfs, d.qbd, d.rst, d.rfs, d.rbd, d.tim⟩ : SeD), v2, v5⟩ : SeV) :: post)) := se_cell HKu1.out HNL.out HPL.out 1 (by decide) _ rfl rfl
      have HBs1 : Hid (Below base w ((u1).setCell ⟨g, k * 8 + 1, none⟩ (.string (markOf K1)))) := HBu1.out.setCell (p := ⟨g, k * 8 + 1, none⟩) HGB.out _
      have HFs1 : Hid (FarR (seAll (.slice (some ⟨g, 0, none⟩) n cap) kv) w ((u1).setCell ⟨g, k * 8 + 1, none⟩ (.string (markOf K1)))) := fun j hj hne => (heap_setCell_other _ _ j _ (fun e => hne (seRow (.slice (some ⟨g, 0, none⟩) n cap) kv) (by simp [seAll]) (by rw [e]; rfl))).trans (HFu1.out j hj hne)
      have bb1 := HBB1.out
      obtain ⟨c2, f2⟩ := se_at HKs1.out HNL.out HPL.out 2 (by decide) _ rfl
      go_wp2_with fail
      rw [E2.out]
      refine (markFrom_any v2 d.qfs.length base d.qfs _ ((SesO.item HKs1.out (x := (⟨(⟨(K : Int), markOf K1, d.qfs, d.qbd, d.rst, d.rfs, d.rbd, d.tim⟩ : SeD), v2, v5⟩ : SeV)) (List.mem_append_right _ List.mem_cons_self)).own (⟨135, 2, v2, d.qfs.length, flatF d.qfs⟩ : Rw) (by simp [seR])) (Nat.le_trans hb HBs1.out.size) K2 b2.out.1 b2.out.2).mono ?_
      rintro e u2 ⟨rfl, mk, bm, far⟩
      have HKu2 : Hid (SesO u2 base (.slice (some ⟨g, 0, none⟩) n cap) (pre ++ (⟨(⟨(K : Int), markOf K1, mkG K2 d.qfs d.qfs.length, d.qbd, d.rst, d.rfs, d.rbd, d.tim⟩ : SeD), v2, v5⟩ : SeV) :: post)) := se_row (r := (⟨135, 2, v2, d.qfs.length, flatF d.qfs⟩ : Rw)) (r' := (⟨135, 2, v2, (mkG K2 d.qfs d.qfs.length).length, flatF (mkG K2 d.qfs d.qfs.length)⟩ : Rw)) (a := []) (b := [(⟨135, 2, v5, d.rfs.length, flatF d.rfs⟩ : Rw)]) HKs1.out rfl (by first | rfl | simp [seR]) rfl rfl (by unfold Rw.own; simp only [mkG_len]; exact mk) far
      have HBu2 : Hid (Below base w u2) := HBs1.out.trans bm
      have HFu2 : Hid (FarR (seAll (.slice (some ⟨g, 0, none⟩) n cap) kv) w u2) := fun j hj hne => (far j (Nat.lt_of_lt_of_le hj HBs1.out.size) (hne (⟨135, 2, v2, d.qfs.length, flatF d.qfs⟩ : Rw) HIN2.out)).trans (HFs1.out j hj hne)
      clear mk bm far c1 f1 bb1 c2 f2
      rw [E3.out]
      go_wp2_with fail
      refine (markText_any K3 _ b3.out.1 b3.out.2).mono ?_
      rintro e u3 ⟨rfl, bw⟩
      have HKu3 : Hid (SesO u3 base (.slice (some ⟨g, 0, none⟩) n cap) (pre ++ (⟨(⟨(K : Int), markOf K1, mkG K2 d.qfs d.qfs.length, d.qbd, d.rst, d.rfs, d.rbd, d.tim⟩ : SeD), v2, v5⟩ : SeV) :: post)) := SesO.below HKu2.out bw
      have HBu3 : Hid (Below base w u3) := HBu2.out.trans (bw.mono (Nat.le_trans hb HBu2.out.size))
      have HFu3 : Hid (FarR (seAll (.slice (some ⟨g, 0, none⟩) n cap) kv) w u3) := fun j hj hne => (bw.block j (Nat.lt_of_lt_of_le hj HBu2.out.size)).trans (HFu2.out j hj hne)
      clear bw
      obtain ⟨c3, f3⟩ := se_at HKu3.out HNL.out HPL.out 3 (by decide) _ rfl
      have HKs3 : Hid (SesO ((u3).setCell ⟨g, k * 8 + 3, none⟩ (.string (markOf K3))) base (.slice (some ⟨g, 0, none⟩) n cap) (pre ++ (⟨(⟨(K : Int), markOf K1, mkG K2 d.qfs d.qfs.length, markOf K3, d.rst, d.rfs, d.rbd, d.tim⟩ : SeD), v2, v5⟩ : SeV) :: post)) := se_cell HKu3.out HNL.out HPL.out 3 (by decide) _ rfl rfl
      have HBs3 : Hid (Below base w ((u3).setCell ⟨g, k * 8 + 3, none⟩ (.string (markOf K3)))) := HBu3.out.setCell (p := ⟨g, k * 8 + 3, none⟩) HGB.out _
      have HFs3 : Hid (FarR (seAll (.slice (some ⟨g, 0, none⟩) n cap) kv) w ((u3).setCell ⟨g, k * 8 + 3, none⟩ (.string (markOf K3)))) := fun j hj hne => (heap_setCell_other _ _ j _ (fun e => hne (seRow (.slice (some ⟨g, 0, none⟩) n cap) kv) (by simp [seAll]) (by rw [e]; rfl))).trans (HFu3.out j hj hne)
      have bb3 := HBB3.out
      have e4 := E4.out
      obtain ⟨c4, f4⟩ := se_at HKs3.out HNL.out HPL.out 4 (by decide) _ rfl
      have HKs4 : Hid (SesO ((((u3).setCell ⟨g, k * 8 + 3, none⟩ (.string (markOf K3)))).setCell ⟨g, k * 8 + 4, none⟩ (.int .i64 (K4 : Int))) base (.slice (some ⟨g, 0, none⟩) n cap) (pre ++ (⟨(⟨(K : Int), markOf K1, mkG K2 d.qfs d.qfs.length, markOf K3, (K4 : Int), d.rfs, d.rbd, d.tim⟩ : SeD), v2, v5⟩ : SeV) :: post)) := se_cell HKs3.out HNL.out HPL.out 4 (by decide) _ rfl rfl
      have HBs4 : Hid (Below base w ((((u3).setCell ⟨g, k * 8 + 3, none⟩ (.string (markOf K3)))).setCell ⟨g, k * 8 + 4, none⟩ (.int .i64 (K4 : Int)))) := HBs3.out.setCell (p := ⟨g, k * 8 + 4, none⟩) HGB.out _
      have HFs4 : Hid (FarR (seAll (.slice (some ⟨g, 0, none⟩) n cap) kv) w ((((u3).setCell ⟨g, k * 8 + 3, none⟩ (.string (markOf K3)))).setCell ⟨g, k * 8 + 4, none⟩ (.int .i64 (K4 : Int)))) := fun j hj hne => (heap_setCell_other _ _ j _ (fun e => hne (seRow (.slice (some ⟨g, 0, none⟩) n cap) kv) (by simp [seAll]) (by rw [e]; rfl))).trans (HFs3.out j hj hne)
      have bb4 := HBB4.out
      obtain ⟨c5, f5⟩ := se_at HKs4.out HNL.out HPL.out 5 (by decide) _ rfl
      go_wp2_with fail
      rw [E5.out]
      refine (markFrom_any v5 d.rfs.length base d.rfs _ ((SesO.item HKs4.out (x := (⟨(⟨(K : Int), markOf K1, mkG K2 d.qfs d.qfs.length, markOf K3, (K4 : Int), d.rfs, d.rbd, d.tim⟩ : SeD), v2, v5⟩ : SeV)) (List.mem_append_right _ List.mem_cons_self)).own (⟨135, 2, v5, d.rfs.length, flatF d.rfs⟩ : Rw) (by simp [seR])) (Nat.le_trans hb HBs4.out.size) K5 b5.out.1 b5.out.2).mono ?_
      rintro e u4 ⟨rfl, mk, bm, far⟩
      have HKu4 : Hid (SesO u4 base (.slice (some ⟨g, 0, none⟩) n cap) (pre ++ (⟨(⟨(K : Int), markOf K1, mkG K2 d.qfs d.qfs.length, markOf K3, (K4 : Int), mkG K5 d.rfs d.rfs.length, d.rbd, d.tim⟩ : SeD), v2, v5⟩ : SeV) :: post)) := se_row (r := (⟨135, 2, v5, d.rfs.length, flatF d.rfs⟩ : Rw)) (r' := (⟨135, 2, v5, (mkG K5 d.rfs d.rfs.length).length, flatF (mkG K5 d.rfs d.rfs.length)⟩ : Rw)) (a := [(⟨135, 2, v2, (mkG K2 d.qfs d.qfs.length).length, flatF (mkG K2 d.qfs d.qfs.length)⟩ : Rw)]) (b := []) HKs4.out rfl (by first | rfl | simp [seR]) rfl rfl (by unfold Rw.own; simp only [mkG_len]; exact mk) far
      have HBu4 : Hid (Below base w u4) := HBs4.out.trans bm
      have HFu4 : Hid (FarR (seAll (.slice (some ⟨g, 0, none⟩) n cap) kv) w u4) := fun j hj hne => (far j (Nat.lt_of_lt_of_le hj HBs4.out.size) (hne (⟨135, 2, v5, d.rfs.length, flatF d.rfs⟩ : Rw) HIN5.out)).trans (HFs4.out j hj hne)
      clear mk bm far c3 f3 bb3 e4 c4 f4 bb4 c5 f5
      rw [E6.out]
      go_wp2_with fail
      refine (markText_any K6 _ b6.out.1 b6.out.2).mono ?_
      rintro e u5 ⟨rfl, bw⟩
      have HKu5 : Hid (SesO u5 base (.slice (some ⟨g, 0, none⟩) n cap) (pre ++ (⟨(⟨(K : Int), markOf K1, mkG K2 d.qfs d.qfs.length, markOf K3, (K4 : Int), mkG K5 d.rfs d.rfs.length, d.rbd, d.tim⟩ : SeD), v2, v5⟩ : SeV) :: post)) := SesO.below HKu4.out bw
      have HBu5 : Hid (Below base w u5) := HBu4.out.trans (bw.mono (Nat.le_trans hb HBu4.out.size))
      have HFu5 : Hid (FarR (seAll (.slice (some ⟨g, 0, none⟩) n cap) kv) w u5) := fun j hj hne => (bw.block j (Nat.lt_of_lt_of_le hj HBu4.out.size)).trans (HFu4.out j hj hne)
      clear bw
      obtain ⟨c6, f6⟩ := se_at HKu5.out HNL.out HPL.out 6 (by decide) _ rfl
      have HKs6 : Hid (SesO ((u5).setCell ⟨g, k * 8 + 6, none⟩ (.string (markOf K6))) base (.slice (some ⟨g, 0, none⟩) n cap) (pre ++ (⟨(⟨(K : Int), markOf K1, mkG K2 d.qfs d.qfs.length, markOf K3, (K4 : Int), mkG K5 d.rfs d.rfs.length, markOf K6, d.tim⟩ : SeD), v2, v5⟩ : SeV) :: post)) := se_cell HKu5.out HNL.out HPL.out 6 (by decide) _ rfl rfl
      have HBs6 : Hid (Below base w ((u5).setCell ⟨g, k * 8 + 6, none⟩ (.string (markOf K6)))) := HBu5.out.setCell (p := ⟨g, k * 8 + 6, none⟩) HGB.out _
      have HFs6 : Hid (FarR (seAll (.slice (some ⟨g, 0, none⟩) n cap) kv) w ((u5).setCell ⟨g, k * 8 + 6, none⟩ (.string (markOf K6)))) := fun j hj hne => (heap_setCell_other _ _ j _ (fun e => hne (seRow (.slice (some ⟨g, 0, none⟩) n cap) kv) (by simp [seAll]) (by rw [e]; rfl))).trans (HFu5.out j hj hne)
      have bb6 := HBB6.out
      have e7 := E7.out
      obtain ⟨c7, f7⟩ := se_at HKs6.out HNL.out HPL.out 7 (by decide) _ rfl
      have HKs7 : Hid (SesO ((((u5).setCell ⟨g, k * 8 + 6, none⟩ (.string (markOf K6)))).setCell ⟨g, k * 8 + 7, none⟩ (.int .i64 (K7 : Int))) base (.slice (some ⟨g, 0, none⟩) n cap) (pre ++ (⟨(⟨(K : Int), markOf K1, mkG K2 d.qfs d.qfs.length, markOf K3, (K4 : Int), mkG K5 d.rfs d.rfs.length, markOf K6, (K7 : Int)⟩ : SeD), v2, v5⟩ : SeV) :: post)) := se_cell HKs6.out HNL.out HPL.out 7 (by decide) _ rfl rfl
      have HBs7 : Hid (Below base w ((((u5).setCell ⟨g, k * 8 + 6, none⟩ (.string (markOf K6)))).setCell ⟨g, k * 8 + 7, none⟩ (.int .i64 (K7 : Int)))) := HBs6.out.setCell (p := ⟨g, k * 8 + 7, none⟩) HGB.out _
      have HFs7 : Hid (FarR (seAll (.slice (some ⟨g, 0, none⟩) n cap) kv) w ((((u5).setCell ⟨g, k * 8 + 6, none⟩ (.string (markOf K6)))).setCell ⟨g, k * 8 + 7, none⟩ (.int .i64 (K7 : Int)))) := fun j hj hne => (heap_setCell_other _ _ j _ (fun e => hne (seRow (.slice (some ⟨g, 0, none⟩) n cap) kv) (by simp [seAll]) (by rw [e]; rfl))).trans (HFs6.out j hj hne)
      have bb7 := HBB7.out
      have e8 := E8.out
      have HFIN : Hid (mkSeV K x0 = (⟨(⟨(K : Int), markOf K1, mkG K2 d.qfs d.qfs.length, markOf K3, (K4 : Int), mkG K5 d.rfs d.rfs.length, markOf K6, (K7 : Int)⟩ : SeD), v2, v5⟩ : SeV)) := by
        show _ = _
        rw [HX0.out]
        unfold mkSeV mkSeD
        rw [HQ1.out, HQ2.out, HQ3.out, HQ4.out, HQ5.out, HQ6.out, HQ7.out]
      have HKN : Hid (K8 = k0 + wmsSe (kv.take (k + 1))) := by
        have h1 : k0 + wmsSe (kv.take (k + 1)) = K + wmSe d := by have h := HKE2.out; rw [HX0.out] at h; exact h
        have h2 : wmSe d = 6 + 2 * d.qfs.length + 2 * d.rfs.length := rfl
        have h3 := HQ8.out
        show _ = _
        omega
      go_wp2
      go_roundw
      case rel => exact ⟨k + 1, K8, by omega, by go_num, rfl, b8.out, HKN, HBs7, by show SesO _ _ _ _; rw [HEND.out, HFIN.out]; exact HKs7.out, HFs7⟩
      case measure => simp [intOf]; omega
    · have HE : Hid (k0 + TW = K ∧ SesO wr base (.slice oa n cap) (mkSes k0 kv)) := by
        have e1 := HKE.out
        have e2 := HK0'.out
        rw [List.take_of_length_le (by rw [HLN.out]; omega)] at e1 e2
        rw [List.drop_eq_nil_of_le (by rw [HLN.out]; omega), List.append_nil] at e2
        exact ⟨by rw [HTW.out, e1], e2⟩
      go_wp2
      go_ret
      exact ⟨by rw [HE.out.1]; rfl, HE.out.2, HB0.out, HF0.out⟩

end Go.Proofs.YtajccgffallajaaGreat

namespace Go.Proofs.YtajccgffallajaaGreat
open Go.RowKit
open Go.Lib hiding intOf

theorem rp_at {W : World} {base g n cap k : Nat} {pre post : List RpV} {x : RpV} (h : RpsO W base (.slice (some ⟨g, 0, none⟩) n cap) (pre ++ x :: post)) (hn : (pre ++ x :: post).length = n) (hk : pre.length = k) (j : Nat) (hj : j < 18) (u : Value) (hu : (rpC x)[j]? = some u) : W.cell? ⟨g, k * 18 + j, none⟩ = some u ∧ W.frozen? ⟨g, k * 18 + j, none⟩ = false := by
  have hr := h.row
  rw [hn] at hr
  refine owns_cellC hr (k * 18 + j) u ?_
  rw [← hk, items_at rpC 18 rpC_len (pre ++ x :: post) pre.length j (by simp) hj]
  simpa using hu
theorem rp_cell {W : World} {base g n cap k : Nat} {pre post : List RpV} {x x' : RpV} (h : RpsO W base (.slice (some ⟨g, 0, none⟩) n cap) (pre ++ x :: post)) (hn : (pre ++ x :: post).length = n) (hk : pre.length = k) (j : Nat) (hj : j < 18) (u : Value) (hc : rpC x' = (rpC x).set j u) (hr : rpR x' = rpR x) : RpsO (W.setCell ⟨g, k * 18 + j, none⟩ u) base (.slice (some ⟨g, 0, none⟩) n cap) (pre ++ x' :: post) := by
  have hrow := h.row
  rw [hn] at hrow
  have h1 := owns_setC hrow (k * 18 + j) u
  have e1 : ((pre ++ x :: post).flatMap rpC).set (k * 18 + j) u = (pre ++ x' :: post).flatMap rpC := by
    rw [List.flatMap_append, List.flatMap_cons, List.flatMap_append, List.flatMap_cons, List.set_append_right _ _ (by rw [items_len rpC 18 rpC_len, hk]; omega), items_len rpC 18 rpC_len, hk, Nat.add_sub_cancel_left, List.set_append_left _ _ (by rw [rpC_len]; exact hj), ← hc]
  rw [e1] at h1
  have e2 : (pre ++ x' :: post).flatMap rpR = (pre ++ x :: post).flatMap rpR := by rw [List.flatMap_append, List.flatMap_cons, List.flatMap_append, List.flatMap_cons, hr]
  have hl : (pre ++ x' :: post).length = n := by rw [← hn]; simp
  have h2 : RowsO W base ([] ++ rpRow (.slice (some ⟨g, 0, none⟩) n cap) (pre ++ x :: post) :: (pre ++ x :: post).flatMap rpR) := h
  have hown : (rpRow (.slice (some ⟨g, 0, none⟩) n cap) (pre ++ x' :: post)).own (W.setCell ⟨g, k * 18 + j, none⟩ u) base := by
    unfold Rw.own rpRow
    rw [hl]
    exact h1
  have h3 := h2.turn (r' := rpRow (.slice (some ⟨g, 0, none⟩) n cap) (pre ++ x' :: post)) rfl hown (fun j' _ hne => heap_setCell_other _ _ j' _ (fun e => hne (by rw [e]; rfl)))
  unfold RpsO rpAll
  rw [e2]
  exact h3
theorem rp_row {W W' : World} {base : Nat} {V : Value} {pre post : List RpV} {x x' : RpV} (h : RpsO W base V (pre ++ x :: post)) {r r' : Rw} {a b : List Rw} (ha : rpR x = a ++ r :: b) (hb : rpR x' = a ++ r' :: b) (hc : rpC x' = rpC x) (hv : r'.v = r.v) (ho : r'.own W' base) (hs : ∀ j, j < W.heap.size → r.v.ownBlock ≠ some j → W'.heap[j]? = W.heap[j]?) : RpsO W' base V (pre ++ x' :: post) := by
  have e1 : rpAll V (pre ++ x :: post) = (rpRow V (pre ++ x :: post) :: (pre.flatMap rpR ++ a)) ++ r :: (b ++ post.flatMap rpR) := by
    unfold rpAll
    rw [List.flatMap_append, List.flatMap_cons, ha]
    simp
  have e2 : rpAll V (pre ++ x' :: post) = (rpRow V (pre ++ x :: post) :: (pre.flatMap rpR ++ a)) ++ r' :: (b ++ post.flatMap rpR) := by
    have e3 : rpRow V (pre ++ x' :: post) = rpRow V (pre ++ x :: post) := by
      unfold rpRow
      rw [List.flatMap_append, List.flatMap_cons, List.flatMap_append, List.flatMap_cons, hc]
      simp
    unfold rpAll
    rw [e3, List.flatMap_append, List.flatMap_cons, hb]
    simp
  have h1 : RowsO W base ((rpRow V (pre ++ x :: post) :: (pre.flatMap rpR ++ a)) ++ r :: (b ++ post.flatMap rpR)) := by rw [← e1]; exact h
  have h2 := h1.turn hv ho hs
  unfold RpsO
  rw [e2]
  exact h2
/-- How many numbers one takes. -/
def wmRp (d : RpD) : Nat := 13 + 2 * d.qfs.length + 2 * d.rfs.length + d.oxs.length + d.oys.length + 2 * d.ofs.length
def wmsRp : List RpV → Nat
  | [] => 0
  | x :: r => wmRp x.d + wmsRp r
theorem wmsRp_snoc (x : RpV) : ∀ l : List RpV, wmsRp (l ++ [x]) = wmsRp l + wmRp x.d
  | [] => by simp [wmsRp]
  | y :: l => by rw [List.cons_append, wmsRp, wmsRp_snoc x l, wmsRp]; omega
theorem wmsRp_append : ∀ (l m : List RpV), wmsRp (l ++ m) = wmsRp l + wmsRp m
  | [], m => by simp [wmsRp]
  | y :: l, m => by rw [List.cons_append, wmsRp, wmsRp_append l m, wmsRp]; omega
/-- One marked from K on. -/
def mkRpD (K : Nat) (d : RpD) : RpD := ⟨((K : Nat) : Int), ((K + 1 : Nat) : Int), markOf (K + 2), mkG (K + 3) d.qfs d.qfs.length, markOf (K + 3 + 2 * d.qfs.length), ((K + 4 + 2 * d.qfs.length : Nat) : Int), mkG (K + 5 + 2 * d.qfs.length) d.rfs d.rfs.length, markOf (K + 5 + 2 * d.qfs.length + 2 * d.rfs.length), ((K + 6 + 2 * d.qfs.length + 2 * d.rfs.length : Nat) : Int), ((K + 7 + 2 * d.qfs.length + 2 * d.rfs.length : Nat) : Int), markOf (K + 8 + 2 * d.qfs.length + 2 * d.rfs.length), mkT (K + 9 + 2 * d.qfs.length + 2 * d.rfs.length) d.oxs d.oxs.length, mkT (K + 9 + 2 * d.qfs.length + 2 * d.rfs.length + d.oxs.length) d.oys d.oys.length, ((K + 9 + 2 * d.qfs.length + 2 * d.rfs.length + d.oxs.length + d.oys.length : Nat) : Int), mkG (K + 10 + 2 * d.qfs.length + 2 * d.rfs.length + d.oxs.length + d.oys.length) d.ofs d.ofs.length, markOf (K + 10 + 2 * d.qfs.length + 2 * d.rfs.length + d.oxs.length + d.oys.length + 2 * d.ofs.length), ((K + 11 + 2 * d.qfs.length + 2 * d.rfs.length + d.oxs.length + d.oys.length + 2 * d.ofs.length : Nat) : Int), ((K + 12 + 2 * d.qfs.length + 2 * d.rfs.length + d.oxs.length + d.oys.length + 2 * d.ofs.length : Nat) : Int)⟩
def mkRpV (K : Nat) (x : RpV) : RpV := ⟨mkRpD K x.d, x.v3, x.v6, x.v11, x.v12, x.v14⟩
def mkRps (k : Nat) : List RpV → List RpV
  | [] => []
  | x :: r => mkRpV k x :: mkRps (k + wmRp x.d) r
theorem mkRps_len : ∀ (k : Nat) (l : List RpV), (mkRps k l).length = l.length
  | _, [] => rfl
  | k, x :: r => by rw [mkRps, List.length_cons, mkRps_len _ r, List.length_cons]
theorem mkRps_snoc (x : RpV) : ∀ (k : Nat) (l : List RpV), mkRps k (l ++ [x]) = mkRps k l ++ [mkRpV (k + wmsRp l) x]
  | _, [] => by simp [mkRps, wmsRp]
  | k, y :: l => by rw [List.cons_append, mkRps, mkRps_snoc x _ l, mkRps, wmsRp]; simp [Nat.add_assoc]
theorem mkRps_v (V : Value) : ∀ (kv : List RpV) (k : Nat), (rpAll V (mkRps k kv)).map (·.v) = (rpAll V kv).map (·.v) := by
  have key : ∀ (kv : List RpV) (k : Nat), ((mkRps k kv).flatMap rpR).map (·.v) = (kv.flatMap rpR).map (·.v) := by
    intro kv
    induction kv with
    | nil => intro k; rfl
    | cons x r ih =>
      intro k
      rw [mkRps, List.flatMap_cons, List.flatMap_cons, List.map_append, List.map_append, ih]
      rfl
  intro kv k
  unfold rpAll
  rw [List.map_cons, List.map_cons, key]
  rfl

set_option maxHeartbeats 8000000 in
set_option maxRecDepth 100000 in
theorem markReplyS_any (V : Value) (kv : List RpV) (base : Nat) (w : World) (h1 : RpsO w base V kv) (hb : base ≤ w.heap.size) (k0 : Nat) (hk0 : 1 ≤ k0) (hn : k0 + wmsRp kv ≤ 99999998) (hm : kv.length ≤ 2000000) :
    Calls Tryz.prog 33 #[V, .int .i64 (k0 : Int)] w fun e w' => e = .returned (.int .i64 ((k0 + wmsRp kv : Nat) : Int)) ∧ RpsO w' base V (mkRps k0 kv) ∧ Below base w w' ∧ FarR (rpAll V kv) w w' := by
  obtain ⟨n, hnn⟩ : ∃ n, n = kv.length := ⟨_, rfl⟩
  obtain ⟨oa, cap, e1⟩ := h1.len
  rw [← hnn] at e1 hm
  subst e1
  have HLN : Hid (kv.length = n) := hnn.symm
  have H1 : Hid (RpsO w base (.slice oa n cap) kv) := h1
  obtain ⟨TW, hTW⟩ : ∃ m, m = wmsRp kv := ⟨_, rfl⟩
  have HTW : Hid (TW = wmsRp kv) := hTW
  rw [← hTW] at hn ⊢
  clear h1 hnn hTW
  go_enter Tryz.func33, Tryz.ntmps33
  go_wp2
  go_loopw [1, 5] (fun q i wr => ∃ (k K : Nat), k ≤ n ∧ i = .int .i64 (k : Int) ∧ q = .int .i64 (K : Int) ∧ 1 ≤ K ∧ Hid (K = k0 + wmsRp (kv.take k)) ∧ Hid (Below base w wr) ∧ Hid (RpsO wr base (.slice oa n cap) (mkRps k0 (kv.take k) ++ kv.drop k)) ∧ Hid (FarR (rpAll (.slice oa n cap) kv) w wr)) (fun _ i _ => n - (intOf i).toNat)
  case atStart => exact ⟨0, k0, Nat.zero_le _, rfl, rfl, hk0, by simp [Hid, wmsRp], Below.refl _ _, by simpa [Hid, mkRps] using H1.out, fun _ _ _ => rfl⟩
  case round =>
    obtain ⟨k, K, hk, rfl, rfl, hK1, HKE, HB0, HK0', HF0⟩ := hrel
    by_cases hlt : k < n
    · have hlt2 : (k : Int) < (n : Int) := by omega
      have hkl : k < kv.length := by rw [HLN.out]; exact hlt
      obtain ⟨x0, hx0⟩ : ∃ x, x = kv[k]'hkl := ⟨_, rfl⟩
      have HX : Hid (x0 ∈ kv) := by show _ ∈ _; rw [hx0]; exact List.getElem_mem hkl
      have hdrop : kv.drop k = x0 :: kv.drop (k + 1) := by rw [hx0]; exact List.drop_eq_getElem_cons hkl
      have htake : kv.take (k + 1) = kv.take k ++ [x0] := by rw [hx0]; exact List.take_succ_eq_append_getElem hkl
      have hww : wmsRp kv = wmsRp (kv.take k) + (wmRp x0.d + wmsRp (kv.drop (k + 1))) := by
        have e := wmsRp_append (kv.take k) (kv.drop k)
        rw [List.take_append_drop, hdrop, wmsRp] at e
        exact e
      have hbd : K + wmRp x0.d ≤ 99999998 := by have := HKE.out; have := HTW.out; omega
      obtain ⟨pre, hpre⟩ : ∃ l, l = mkRps k0 (kv.take k) := ⟨_, rfl⟩
      obtain ⟨post, hpost⟩ : ∃ l, l = kv.drop (k + 1) := ⟨_, rfl⟩
      have HPL : Hid (pre.length = k) := by show _ = _; rw [hpre, mkRps_len, List.length_take, Nat.min_eq_left (Nat.le_of_lt hkl)]
      have HNL0 : Hid (∀ y : RpV, (pre ++ y :: post).length = n) := fun y => by rw [List.length_append, List.length_cons, HPL.out, hpost, List.length_drop, HLN.out]; omega
      have HKE2 : Hid (k0 + wmsRp (kv.take (k + 1)) = K + wmRp x0.d) := by show _ = _; have h := HKE.out; rw [htake, wmsRp_snoc]; omega
      have HEND : Hid (mkRps k0 (kv.take (k + 1)) ++ kv.drop (k + 1) = pre ++ mkRpV K x0 :: post) := by show _ = _; rw [htake, mkRps_snoc, ← HKE.out, hpre, hpost]; simp
      have HK00 : Hid (RpsO wr base (.slice oa n cap) (pre ++ x0 :: post)) := by
        have h := HK0'.out
        rw [hdrop, ← hpre, ← hpost] at h
        exact h
      obtain ⟨g, rfl⟩ := owns_some (by have h := HK00.out.row; rw [HNL0.out] at h; exact h) (by omega)
      have HGB : Hid (base ≤ g) := owns_ge HK00.out.row rfl
      clear hx0 hdrop htake hww hpre hpost HK0' hkl
      obtain ⟨x1, hx1⟩ : ∃ x, x = x0 := ⟨_, rfl⟩
      obtain ⟨d, v3, v6, v11, v12, v14⟩ := x1
      have HX0 : Hid (x0 = (⟨d, v3, v6, v11, v12, v14⟩ : RpV)) := hx1.symm
      have HNL : ∀ {y : RpV}, Hid ((pre ++ y :: post).length = n) := fun {y} => HNL0.out y
      have hbd2 : K + (13 + 2 * d.qfs.length + 2 * d.rfs.length + d.oxs.length + d.oys.length + 2 * d.ofs.length) ≤ 99999998 := by have h : K + wmRp d ≤ 99999998 := (by have h := hbd; rw [HX0.out] at h; exact h); unfold wmRp at h; omega
      have HK0 : Hid (RpsO wr base (.slice (some ⟨g, 0, none⟩) n cap) (pre ++ (⟨(⟨d.cli, d.qmt, d.qpa, d.qfs, d.qbd, d.rst, d.rfs, d.rbd, d.knd, d.tim, d.opa, d.oxs, d.oys, d.ost, d.ofs, d.obd, d.otm, d.bns⟩ : RpD), v3, v6, v11, v12, v14⟩ : RpV) :: post)) := by
        have h := HK00.out
        rw [HX0.out] at h
        exact h
      have HIN3 : Hid ((⟨135, 2, v3, d.qfs.length, flatF d.qfs⟩ : Rw) ∈ rpAll (.slice (some ⟨g, 0, none⟩) n cap) kv) := List.mem_cons_of_mem _ (List.mem_flatMap.2 ⟨(⟨d, v3, v6, v11, v12, v14⟩ : RpV), (by have h := HX.out; rw [HX0.out] at h; exact h), by simp [rpR]⟩)
      have HIN6 : Hid ((⟨135, 2, v6, d.rfs.length, flatF d.rfs⟩ : Rw) ∈ rpAll (.slice (some ⟨g, 0, none⟩) n cap) kv) := List.mem_cons_of_mem _ (List.mem_flatMap.2 ⟨(⟨d, v3, v6, v11, v12, v14⟩ : RpV), (by have h := HX.out; rw [HX0.out] at h; exact h), by simp [rpR]⟩)
      have HIN11 : Hid ((⟨9, 1, v11, d.oxs.length, d.oxs.map Value.string⟩ : Rw) ∈ rpAll (.slice (some ⟨g, 0, none⟩) n cap) kv) := List.mem_cons_of_mem _ (List.mem_flatMap.2 ⟨(⟨d, v3, v6, v11, v12, v14⟩ : RpV), (by have h := HX.out; rw [HX0.out] at h; exact h), by simp [rpR]⟩)
      have HIN12 : Hid ((⟨9, 1, v12, d.oys.length, d.oys.map Value.string⟩ : Rw) ∈ rpAll (.slice (some ⟨g, 0, none⟩) n cap) kv) := List.mem_cons_of_mem _ (List.mem_flatMap.2 ⟨(⟨d, v3, v6, v11, v12, v14⟩ : RpV), (by have h := HX.out; rw [HX0.out] at h; exact h), by simp [rpR]⟩)
      have HIN14 : Hid ((⟨135, 2, v14, d.ofs.length, flatF d.ofs⟩ : Rw) ∈ rpAll (.slice (some ⟨g, 0, none⟩) n cap) kv) := List.mem_cons_of_mem _ (List.mem_flatMap.2 ⟨(⟨d, v3, v6, v11, v12, v14⟩ : RpV), (by have h := HX.out; rw [HX0.out] at h; exact h), by simp [rpR]⟩)
      clear hx1 hbd HK00 HX
      obtain ⟨K1, HQ1⟩ : ∃ m : Nat, Hid (m = K + 1) := ⟨_, rfl⟩
      obtain ⟨K2, HQ2⟩ : ∃ m : Nat, Hid (m = K + 2) := ⟨_, rfl⟩
      obtain ⟨K3, HQ3⟩ : ∃ m : Nat, Hid (m = K + 3) := ⟨_, rfl⟩
      obtain ⟨K4, HQ4⟩ : ∃ m : Nat, Hid (m = K + 3 + 2 * d.qfs.length) := ⟨_, rfl⟩
      obtain ⟨K5, HQ5⟩ : ∃ m : Nat, Hid (m = K + 4 + 2 * d.qfs.length) := ⟨_, rfl⟩
      obtain ⟨K6, HQ6⟩ : ∃ m : Nat, Hid (m = K + 5 + 2 * d.qfs.length) := ⟨_, rfl⟩
      obtain ⟨K7, HQ7⟩ : ∃ m : Nat, Hid (m = K + 5 + 2 * d.qfs.length + 2 * d.rfs.length) := ⟨_, rfl⟩
      obtain ⟨K8, HQ8⟩ : ∃ m : Nat, Hid (m = K + 6 + 2 * d.qfs.length + 2 * d.rfs.length) := ⟨_, rfl⟩
      obtain ⟨K9, HQ9⟩ : ∃ m : Nat, Hid (m = K + 7 + 2 * d.qfs.length + 2 * d.rfs.length) := ⟨_, rfl⟩
      obtain ⟨K10, HQ10⟩ : ∃ m : Nat, Hid (m = K + 8 + 2 * d.qfs.length + 2 * d.rfs.length) := ⟨_, rfl⟩
      obtain ⟨K11, HQ11⟩ : ∃ m : Nat, Hid (m = K + 9 + 2 * d.qfs.length + 2 * d.rfs.length) := ⟨_, rfl⟩
      obtain ⟨K12, HQ12⟩ : ∃ m : Nat, Hid (m = K + 9 + 2 * d.qfs.length + 2 * d.rfs.length + d.oxs.length) := ⟨_, rfl⟩
      obtain ⟨K13, HQ13⟩ : ∃ m : Nat, Hid (m = K + 9 + 2 * d.qfs.length + 2 * d.rfs.length + d.oxs.length + d.oys.length) := ⟨_, rfl⟩
      obtain ⟨K14, HQ14⟩ : ∃ m : Nat, Hid (m = K + 10 + 2 * d.qfs.length + 2 * d.rfs.length + d.oxs.length + d.oys.length) := ⟨_, rfl⟩
      obtain ⟨K15, HQ15⟩ : ∃ m : Nat, Hid (m = K + 10 + 2 * d.qfs.length + 2 * d.rfs.length + d.oxs.length + d.oys.length + 2 * d.ofs.length) := ⟨_, rfl⟩
      obtain ⟨K16, HQ16⟩ : ∃ m : Nat, Hid (m = K + 11 + 2 * d.qfs.length + 2 * d.rfs.length + d.oxs.length + d.oys.length + 2 * d.ofs.length) := ⟨_, rfl⟩
      obtain ⟨K17, HQ17⟩ : ∃ m : Nat, Hid (m = K + 12 + 2 * d.qfs.length + 2 * d.rfs.length + d.oxs.length + d.oys.length + 2 * d.ofs.length) := ⟨_, rfl⟩
      obtain ⟨K18, HQ18⟩ : ∃ m : Nat, Hid (m = K + 13 + 2 * d.qfs.length + 2 * d.rfs.length + d.oxs.length + d.oys.length + 2 * d.ofs.length) := ⟨_, rfl⟩
      have E1 : Hid ((K : Int) + 1 = (K1 : Int)) := by show _ = _; have q1 := HQ1.out; omega
      have E2 : Hid ((K1 : Int) + 1 = (K2 : Int)) := by show _ = _; have q1 := HQ1.out; have q2 := HQ2.out; omega
      have E3 : Hid ((K2 : Int) + 1 = (K3 : Int)) := by show _ = _; have q2 := HQ2.out; have q3 := HQ3.out; omega
      have E4 : Hid ((K3 : Int) + 2 * (d.qfs.length : Int) = (K4 : Int)) := by show _ = _; have q3 := HQ3.out; have q4 := HQ4.out; omega
      have E5 : Hid ((K4 : Int) + 1 = (K5 : Int)) := by show _ = _; have q4 := HQ4.out; have q5 := HQ5.out; omega
      have E6 : Hid ((K5 : Int) + 1 = (K6 : Int)) := by show _ = _; have q5 := HQ5.out; have q6 := HQ6.out; omega
      have E7 : Hid ((K6 : Int) + 2 * (d.rfs.length : Int) = (K7 : Int)) := by show _ = _; have q6 := HQ6.out; have q7 := HQ7.out; omega
      have E8 : Hid ((K7 : Int) + 1 = (K8 : Int)) := by show _ = _; have q7 := HQ7.out; have q8 := HQ8.out; omega
      have E9 : Hid ((K8 : Int) + 1 = (K9 : Int)) := by show _ = _; have q8 := HQ8.out; have q9 := HQ9.out; omega
      have E10 : Hid ((K9 : Int) + 1 = (K10 : Int)) := by show _ = _; have q9 := HQ9.out; have q10 := HQ10.out; omega
      have E11 : Hid ((K10 : Int) + 1 = (K11 : Int)) := by show _ = _; have q10 := HQ10.out; have q11 := HQ11.out; omega
      have E12 : Hid ((K11 : Int) + (d.oxs.length : Int) = (K12 : Int)) := by show _ = _; have q11 := HQ11.out; have q12 := HQ12.out; omega
      have E13 : Hid ((K12 : Int) + (d.oys.length : Int) = (K13 : Int)) := by show _ = _; have q12 := HQ12.out; have q13 := HQ13.out; omega
      have E14 : Hid ((K13 : Int) + 1 = (K14 : Int)) := by show _ = _; have q13 := HQ13.out; have q14 := HQ14.out; omega
      have E15 : Hid ((K14 : Int) + 2 * (d.ofs.length : Int) = (K15 : Int)) := by show _ = _; have q14 := HQ14.out; have q15 := HQ15.out; omega
      have E16 : Hid ((K15 : Int) + 1 = (K16 : Int)) := by show _ = _; have q15 := HQ15.out; have q16 := HQ16.out; omega
      have E17 : Hid ((K16 : Int) + 1 = (K17 : Int)) := by show _ = _; have q16 := HQ16.out; have q17 := HQ17.out; omega
      have E18 : Hid ((K17 : Int) + 1 = (K18 : Int)) := by show _ = _; have q17 := HQ17.out; have q18 := HQ18.out; omega
      have HBB0 : Hid (K ≤ 99999999) := by show _ ≤ _; omega
      have HBB1 : Hid (K1 ≤ 99999999) := by show _ ≤ _; have q1 := HQ1.out; omega
      have b2 : Hid (1 ≤ K2 ∧ K2 ≤ 99999999) := by show _ ∧ _; have q2 := HQ2.out; omega
      have HBB2 : Hid (K2 ≤ 99999999) := by show _ ≤ _; have q2 := HQ2.out; omega
      have b3 : Hid (1 ≤ K3 ∧ K3 + 2 * d.qfs.length ≤ 99999999) := by show _ ∧ _; have q3 := HQ3.out; omega
      have HBB3 : Hid (K3 ≤ 99999999) := by show _ ≤ _; have q3 := HQ3.out; omega
      have b4 : Hid (1 ≤ K4 ∧ K4 ≤ 99999999) := by show _ ∧ _; have q4 := HQ4.out; omega
      have HBB4 : Hid (K4 ≤ 99999999) := by show _ ≤ _; have q4 := HQ4.out; omega
      have HBB5 : Hid (K5 ≤ 99999999) := by show _ ≤ _; have q5 := HQ5.out; omega
      have b6 : Hid (1 ≤ K6 ∧ K6 + 2 * d.rfs.length ≤ 99999999) := by show _ ∧ _; have q6 := HQ6.out; omega
      have HBB6 : Hid (K6 ≤ 99999999) := by show _ ≤ _; have q6 := HQ6.out; omega
      have b7 : Hid (1 ≤ K7 ∧ K7 ≤ 99999999) := by show _ ∧ _; have q7 := HQ7.out; omega
      have HBB7 : Hid (K7 ≤ 99999999) := by show _ ≤ _; have q7 := HQ7.out; omega
      have HBB8 : Hid (K8 ≤ 99999999) := by show _ ≤ _; have q8 := HQ8.out; omega
      have HBB9 : Hid (K9 ≤ 99999999) := by show _ ≤ _; have q9 := HQ9.out; omega
      have b10 : Hid (1 ≤ K10 ∧ K10 ≤ 99999999) := by show _ ∧ _; have q10 := HQ10.out; omega
      have HBB10 : Hid (K10 ≤ 99999999) := by show _ ≤ _; have q10 := HQ10.out; omega
      have b11 : Hid (1 ≤ K11 ∧ K11 + d.oxs.length ≤ 99999998) := by show _ ∧ _; have q11 := HQ11.out; omega
      have HBB11 : Hid (K11 ≤ 99999999) := by show _ ≤ _; have q11 := HQ11.out; omega
      have b12 : Hid (1 ≤ K12 ∧ K12 + d.oys.length ≤ 99999998) := by show _ ∧ _; have q12 := HQ12.out; omega
      have HBB12 : Hid (K12 ≤ 99999999) := by show _ ≤ _; have q12 := HQ12.out; omega
      have HBB13 : Hid (K13 ≤ 99999999) := by show _ ≤ _; have q13 := HQ13.out; omega
      have b14 : Hid (1 ≤ K14 ∧ K14 + 2 * d.ofs.length ≤ 99999999) := by show _ ∧ _; have q14 := HQ14.out; omega
      have HBB14 : Hid (K14 ≤ 99999999) := by show _ ≤ _; have q14 := HQ14.out; omega
      have b15 : Hid (1 ≤ K15 ∧ K15 ≤ 99999999) := by show _ ∧ _; have q15 := HQ15.out; omega
      have HBB15 : Hid (K15 ≤ 99999999) := by show _ ≤ _; have q15 := HQ15.out; omega
      have HBB16 : Hid (K16 ≤ 99999999) := by show _ ≤ _; have q16 := HQ16.out; omega
      have HBB17 : Hid (K17 ≤ 99999999) := by show _ ≤ _; have q17 := HQ17.out; omega
      have b18 : Hid (1 ≤ K18) := by show _ ≤ _; have q18 := HQ18.out; omega
      obtain ⟨c0, f0⟩ := rp_at HK0.out HNL.out HPL.out 0 (by decide) _ rfl
      rw [Nat.add_zero] at c0 f0
      have HKs0 : Hid (RpsO ((wr).setCell ⟨g, k * 18, none⟩ (.int .i64 (K : Int))) base (.slice (some ⟨g, 0, none⟩) n cap) (pre ++ (⟨(⟨(K : Int), d.qmt, d.qpa, d.qfs, d.qbd, d.rst, d.rfs, d.rbd, d.knd, d.tim, d.opa, d.oxs, d.oys, d.ost, d.ofs, d.obd, d.otm, d.bns⟩ : RpD), v3, v6, v11, v12, v14⟩ : RpV) :: post)) := rp_cell HK0.out HNL.out HPL.out 0 (by decide) _ rfl rfl
      have HBs0 : Hid (Below base w ((wr).setCell ⟨g, k * 18, none⟩ (.int .i64 (K : Int)))) := HB0.out.setCell (p := ⟨g, k * 18, none⟩) HGB.out _
      have HFs0 : Hid (FarR (rpAll (.slice (some ⟨g, 0, none⟩) n cap) kv) w ((wr).setCell ⟨g, k * 18, none⟩ (.int .i64 (K : Int)))) := fun j hj hne => (heap_setCell_other _ _ j _ (fun e => hne (rpRow (.slice (some ⟨g, 0, none⟩) n cap) kv) (by simp [rpAll]) (by rw [e]; rfl))).trans (HF0.out j hj hne)
      have bb0 := HBB0.out
      have e1 := E1.out
      obtain ⟨c1, f1⟩ := rp_at HKs0.out HNL.out HPL.out 1 (by decide) _ rfl
      have HKs1 : Hid (RpsO ((((wr).setCell ⟨g, k * 18, none⟩ (.int .i64 (K : Int)))).setCell ⟨g, k * 18 + 1, none⟩ (.int .i64 (K1 : Int))) base (.slice (some ⟨g, 0, none⟩) n cap) (pre ++ (⟨(⟨(K : Int), (K1 : Int), d.qpa, d.qfs, d.qbd, d.rst, d.rfs, d.rbd, d.knd, d.tim, d.opa, d.oxs, d.oys, d.ost, d.ofs, d.obd, d.otm, d.bns⟩ : RpD), v3, v6, v11, v12, v14⟩ : RpV) :: post)) := rp_cell HKs0.out HNL.out HPL.out 1 (by decide) _ rfl rfl
      have HBs1 : Hid (Below base w ((((wr).setCell ⟨g, k * 18, none⟩ (.int .i64 (K : Int)))).setCell ⟨g, k * 18 + 1, none⟩ (.int .i64 (K1 : Int)))) := HBs0.out.setCell (p := ⟨g, k * 18 + 1, none⟩) HGB.out _
      have HFs1 : Hid (FarR (rpAll (.slice (some ⟨g, 0, none⟩) n cap) kv) w ((((wr).setCell ⟨g, k * 18, none⟩ (.int .i64 (K : Int)))).setCell ⟨g, k * 18 + 1, none⟩ (.int .i64 (K1 : Int)))) := fun j hj hne => (heap_setCell_other _ _ j _ (fun e => hne (rpRow (.slice (some ⟨g, 0, none⟩) n cap) kv) (by simp [rpAll]) (by rw [e]; rfl))).trans (HFs0.out j hj hne)
      have bb1 := HBB1.out
      go_wp2_with fail
      rw [E2.out]
      refine (markText_any K2 _ b2.out.1 b2.out.2).mono ?_
      rintro e u1 ⟨rfl, bw⟩
      have HKu1 : Hid (RpsO u1 base (.slice (some ⟨g, 0, none⟩) n cap) (pre ++ (⟨(⟨(K : Int), (K1 : Int), d.qpa, d.qfs, d.qbd, d.rst, d.rfs, d.rbd, d.knd, d.tim, d.opa, d.oxs, d.oys, d.ost, d.ofs, d.obd, d.otm, d.bns⟩ : RpD), v3, v6, v11, v12, v14⟩ : RpV) :: post)) := RpsO.below HKs1.out bw
      have HBu1 : Hid (Below base w u1) := HBs1.out.trans (bw.mono (Nat.le_trans hb HBs1.out.size))
      have HFu1 : Hid (FarR (rpAll (.slice (some ⟨g, 0, none⟩) n cap) kv) w u1) := fun j hj hne => (bw.block j (Nat.lt_of_lt_of_le hj HBs1.out.size)).trans (HFs1.out j hj hne)
      clear bw c0 f0 bb0 e1 c1 f1 bb1
      obtain ⟨c2, f2⟩ := rp_at HKu1.out HNL.out HPL.out 2 (by decide) _ rfl
      have HKs2 : Hid (RpsO ((u1).setCell ⟨g, k * 18 + 2, none⟩ (.string (markOf K2))) base (.slice (some ⟨g, 0, none⟩) n cap) (pre ++ (⟨(⟨(K : Int), (K1 : Int), markOf K2, d.qfs, d.qbd, d.rst, d.rfs, d.rbd, d.knd, d.tim, d.opa, d.oxs, d.oys, d.ost, d.ofs, d.obd, d.otm, d.bns⟩ : RpD), v3, v6, v11, v12, v14⟩ : RpV) :: post)) := rp_cell HKu1.out HNL.out HPL.out 2 (by decide) _ rfl rfl
      have HBs2 : Hid (Below base w ((u1).setCell ⟨g, k * 18 + 2, none⟩ (.string (markOf K2)))) := HBu1.out.setCell (p := ⟨g, k * 18 + 2, none⟩) HGB.out _
      have HFs2 : Hid (FarR (rpAll (.slice (some ⟨g, 0, none⟩) n cap) kv) w ((u1).setCell ⟨g, k * 18 + 2, none⟩ (.string (markOf K2)))) := fun j hj hne => (heap_setCell_other _ _ j _ (fun e => hne (rpRow (.slice (some ⟨g, 0, none⟩) n cap) kv) (by simp [rpAll]) (by rw [e]; rfl))).trans (HFu1.out j hj hne)
      have bb2 := HBB2.out
      obtain ⟨c3, f3⟩ := rp_at HKs2.out HNL.out HPL.out 3 (by decide) _ rfl
      go_wp2_with fail
      rw [E3.out]
      refine (markFrom_any v3 d.qfs.length base d.qfs _ ((RpsO.item HKs2.out (x := (⟨(⟨(K : Int), (K1 : Int), markOf K2, d.qfs, d.qbd, d.rst, d.rfs, d.rbd, d.knd, d.tim, d.opa, d.oxs, d.oys, d.ost, d.ofs, d.obd, d.otm, d.bns⟩ : RpD), v3, v6, v11, v12, v14⟩ : RpV)) (List.mem_append_right _ List.mem_cons_self)).own (⟨135, 2, v3, d.qfs.length, flatF d.qfs⟩ : Rw) (by simp [rpR])) (Nat.le_trans hb HBs2.out.size) K3 b3.out.1 b3.out.2).mono ?_
      rintro e u2 ⟨rfl, mk, bm, far⟩
      have HKu2 : Hid (RpsO u2 base (.slice (some ⟨g, 0, none⟩) n cap) (pre ++ (⟨(⟨(K : Int), (K1 : Int), markOf K2, mkG K3 d.qfs d.qfs.length, d.qbd, d.rst, d.rfs, d.rbd, d.knd, d.tim, d.opa, d.oxs, d.oys, d.ost, d.ofs, d.obd, d.otm, d.bns⟩ : RpD), v3, v6, v11, v12, v14⟩ : RpV) :: post)) := rp_row (r := (⟨135, 2, v3, d.qfs.length, flatF d.qfs⟩ : Rw)) (r' := (⟨135, 2, v3, (mkG K3 d.qfs d.qfs.length).length, flatF (mkG K3 d.qfs d.qfs.length)⟩ : Rw)) (a := []) (b := [(⟨135, 2, v6, d.rfs.length, flatF d.rfs⟩ : Rw), (⟨9, 1, v11, d.oxs.length, d.oxs.map Value.string⟩ : Rw), (⟨9, 1, v12, d.oys.length, d.oys.map Value.string⟩ : Rw), (⟨135, 2, v14, d.ofs.length, flatF d.ofs⟩ : Rw)]) HKs2.out rfl (by first | rfl | simp [rpR]) rfl rfl (by unfold Rw.own; simp only [mkG_len]; exact mk) far
      have HBu2 : Hid (Below base w u2) := HBs2.out.trans bm
      have HFu2 : Hid (FarR (rpAll (.slice (some ⟨g, 0, none⟩) n cap) kv) w u2) := fun j hj hne => (far j (Nat.lt_of_lt_of_le hj HBs2.out.size) (hne (⟨135, 2, v3, d.qfs.length, flatF d.qfs⟩ : Rw) HIN3.out)).trans (HFs2.out j hj hne)
      clear mk bm far c2 f2 bb2 c3 f3
      rw [E4.out]
      go_wp2_with fail
      refine (markText_any K4 _ b4.out.1 b4.out.2).mono ?_
      rintro e u3 ⟨rfl, bw⟩
      have HKu3 : Hid (RpsO u3 base (.slice (some ⟨g, 0, none⟩) n cap) (pre ++ (⟨(⟨(K : Int), (K1 : Int), markOf K2, mkG K3 d.qfs d.qfs.length, d.qbd, d.rst, d.rfs, d.rbd, d.knd, d.tim, d.opa, d.oxs, d.oys, d.ost, d.ofs, d.obd, d.otm, d.bns⟩ : RpD), v3, v6, v11, v12, v14⟩ : RpV) :: post)) := RpsO.below HKu2.out bw
      have HBu3 : Hid (Below base w u3) := HBu2.out.trans (bw.mono (Nat.le_trans hb HBu2.out.size))
      have HFu3 : Hid (FarR (rpAll (.slice (some ⟨g, 0, none⟩) n cap) kv) w u3) := fun j hj hne => (bw.block j (Nat.lt_of_lt_of_le hj HBu2.out.size)).trans (HFu2.out j hj hne)
      clear bw
      obtain ⟨c4, f4⟩ := rp_at HKu3.out HNL.out HPL.out 4 (by decide) _ rfl
      have HKs4 : Hid (RpsO ((u3).setCell ⟨g, k * 18 + 4, none⟩ (.string (markOf K4))) base (.slice (some ⟨g, 0, none⟩) n cap) (pre ++ (⟨(⟨(K : Int), (K1 : Int), markOf K2, mkG K3 d.qfs d.qfs.length, markOf K4, d.rst, d.rfs, d.rbd, d.knd, d.tim, d.opa, d.oxs, d.oys, d.ost, d.ofs, d.obd, d.otm, d.bns⟩ : RpD), v3, v6, v11, v12, v14⟩ : RpV) :: post)) := rp_cell HKu3.out HNL.out HPL.out 4 (by decide) _ rfl rfl
      have HBs4 : Hid (Below base w ((u3).setCell ⟨g, k * 18 + 4, none⟩ (.string (markOf K4)))) := HBu3.out.setCell (p := ⟨g, k * 18 + 4, none⟩) HGB.out _
      have HFs4 : Hid (FarR (rpAll (.slice (some ⟨g, 0, none⟩) n cap) kv) w ((u3).setCell ⟨g, k * 18 + 4, none⟩ (.string (markOf K4)))) := fun j hj hne => (heap_setCell_other _ _ j _ (fun e => hne (rpRow (.slice (some ⟨g, 0, none⟩) n cap) kv) (by simp [rpAll]) (by rw [e]; rfl))).trans (HFu3.out j hj hne)
      have bb4 := HBB4.out
      have e5 := E5.out
      obtain ⟨c5, f5⟩ := rp_at HKs4.out HNL.out HPL.out 5 (by decide) _ rfl
      have HKs5 : Hid (RpsO ((((u3).setCell ⟨g, k * 18 + 4, none⟩ (.string (markOf K4)))).setCell ⟨g, k * 18 + 5, none⟩ (.int .i64 (K5 : Int))) base (.slice (some ⟨g, 0, none⟩) n cap) (pre ++ (⟨(⟨(K : Int), (K1 : Int), markOf K2, mkG K3 d.qfs d.qfs.length, markOf K4, (K5 : Int), d.rfs, d.rbd, d.knd, d.tim, d.opa, d.oxs, d.oys, d.ost, d.ofs, d.obd, d.otm, d.bns⟩ : RpD), v3, v6, v11, v12, v14⟩ : RpV) :: post)) := rp_cell HKs4.out HNL.out HPL.out 5 (by decide) _ rfl rfl
      have HBs5 : Hid (Below base w ((((u3).setCell ⟨g, k * 18 + 4, none⟩ (.string (markOf K4)))).setCell ⟨g, k * 18 + 5, none⟩ (.int .i64 (K5 : Int)))) := HBs4.out.setCell (p := ⟨g, k * 18 + 5, none⟩) HGB.out _
      have HFs5 : Hid (FarR (rpAll (.slice (some ⟨g, 0, none⟩) n cap) kv) w ((((u3).setCell ⟨g, k * 18 + 4, none⟩ (.string (markOf K4)))).setCell ⟨g, k * 18 + 5, none⟩ (.int .i64 (K5 : Int)))) := fun j hj hne => (heap_setCell_other _ _ j _ (fun e => hne (rpRow (.slice (some ⟨g, 0, none⟩) n cap) kv) (by simp [rpAll]) (by rw [e]; rfl))).trans (HFs4.out j hj hne)
      have bb5 := HBB5.out
      obtain ⟨c6, f6⟩ := rp_at HKs5.out HNL.out HPL.out 6 (by decide) _ rfl
      go_wp2_with fail
      rw [E6.out]
      refine (markFrom_any v6 d.rfs.length base d.rfs _ ((RpsO.item HKs5.out (x := (⟨(⟨(K : Int), (K1 : Int), markOf K2, mkG K3 d.qfs d.qfs.length, markOf K4, (K5 : Int), d.rfs, d.rbd, d.knd, d.tim, d.opa, d.oxs, d.oys, d.ost, d.ofs, d.obd, d.otm, d.bns⟩ : RpD), v3, v6, v11, v12, v14⟩ : RpV)) (List.mem_append_right _ List.mem_cons_self)).own (⟨135, 2, v6, d.rfs.length, flatF d.rfs⟩ : Rw) (by simp [rpR])) (Nat.le_trans hb HBs5.out.size) K6 b6.out.1 b6.out.2).mono ?_
      rintro e u4 ⟨rfl, mk, bm, far⟩
      have HKu4 : Hid (RpsO u4 base (.slice (some ⟨g, 0, none⟩) n cap) (pre ++ (⟨(⟨(K : Int), (K1 : Int), markOf K2, mkG K3 d.qfs d.qfs.length, markOf K4, (K5 : Int), mkG K6 d.rfs d.rfs.length, d.rbd, d.knd, d.tim, d.opa, d.oxs, d.oys, d.ost, d.ofs, d.obd, d.otm, d.bns⟩ : RpD), v3, v6, v11, v12, v14⟩ : RpV) :: post)) := rp_row (r := (⟨135, 2, v6, d.rfs.length, flatF d.rfs⟩ : Rw)) (r' := (⟨135, 2, v6, (mkG K6 d.rfs d.rfs.length).length, flatF (mkG K6 d.rfs d.rfs.length)⟩ : Rw)) (a := [(⟨135, 2, v3, (mkG K3 d.qfs d.qfs.length).length, flatF (mkG K3 d.qfs d.qfs.length)⟩ : Rw)]) (b := [(⟨9, 1, v11, d.oxs.length, d.oxs.map Value.string⟩ : Rw), (⟨9, 1, v12, d.oys.length, d.oys.map Value.string⟩ : Rw), (⟨135, 2, v14, d.ofs.length, flatF d.ofs⟩ : Rw)]) HKs5.out rfl (by first | rfl | simp [rpR]) rfl rfl (by unfold Rw.own; simp only [mkG_len]; exact mk) far
      have HBu4 : Hid (Below base w u4) := HBs5.out.trans bm
      have HFu4 : Hid (FarR (rpAll (.slice (some ⟨g, 0, none⟩) n cap) kv) w u4) := fun j hj hne => (far j (Nat.lt_of_lt_of_le hj HBs5.out.size) (hne (⟨135, 2, v6, d.rfs.length, flatF d.rfs⟩ : Rw) HIN6.out)).trans (HFs5.out j hj hne)
      clear mk bm far c4 f4 bb4 e5 c5 f5 bb5 c6 f6
      rw [E7.out]
      go_wp2_with fail
      refine (markText_any K7 _ b7.out.1 b7.out.2).mono ?_
      rintro e u5 ⟨rfl, bw⟩
      have HKu5 : Hid (RpsO u5 base (.slice (some ⟨g, 0, none⟩) n cap) (pre ++ (⟨(⟨(K : Int), (K1 : Int), markOf K2, mkG K3 d.qfs d.qfs.length, markOf K4, (K5 : Int), mkG K6 d.rfs d.rfs.length, d.rbd, d.knd, d.tim, d.opa, d.oxs, d.oys, d.ost, d.ofs, d.obd, d.otm, d.bns⟩ : RpD), v3, v6, v11, v12, v14⟩ : RpV) :: post)) := RpsO.below HKu4.out bw
      have HBu5 : Hid (Below base w u5) := HBu4.out.trans (bw.mono (Nat.le_trans hb HBu4.out.size))
      have HFu5 : Hid (FarR (rpAll (.slice (some ⟨g, 0, none⟩) n cap) kv) w u5) := fun j hj hne => (bw.block j (Nat.lt_of_lt_of_le hj HBu4.out.size)).trans (HFu4.out j hj hne)
      clear bw
      obtain ⟨c7, f7⟩ := rp_at HKu5.out HNL.out HPL.out 7 (by decide) _ rfl
      have HKs7 : Hid (RpsO ((u5).setCell ⟨g, k * 18 + 7, none⟩ (.string (markOf K7))) base (.slice (some ⟨g, 0, none⟩) n cap) (pre ++ (⟨(⟨(K : Int), (K1 : Int), markOf K2, mkG K3 d.qfs d.qfs.length, markOf K4, (K5 : Int), mkG K6 d.rfs d.rfs.length, markOf K7, d.knd, d.tim, d.opa, d.oxs, d.oys, d.ost, d.ofs, d.obd, d.otm, d.bns⟩ : RpD), v3, v6, v11, v12, v14⟩ : RpV) :: post)) := rp_cell HKu5.out HNL.out HPL.out 7 (by decide) _ rfl rfl
      have HBs7 : Hid (Below base w ((u5).setCell ⟨g, k * 18 + 7, none⟩ (.string (markOf K7)))) := HBu5.out.setCell (p := ⟨g, k * 18 + 7, none⟩) HGB.out _
      have HFs7 : Hid (FarR (rpAll (.slice (some ⟨g, 0, none⟩) n cap) kv) w ((u5).setCell ⟨g, k * 18 + 7, none⟩ (.string (markOf K7)))) := fun j hj hne => (heap_setCell_other _ _ j _ (fun e => hne (rpRow (.slice (some ⟨g, 0, none⟩) n cap) kv) (by simp [rpAll]) (by rw [e]; rfl))).trans (HFu5.out j hj hne)
      have bb7 := HBB7.out
      have e8 := E8.out
      obtain ⟨c8, f8⟩ := rp_at HKs7.out HNL.out HPL.out 8 (by decide) _ rfl
      have HKs8 : Hid (RpsO ((((u5).setCell ⟨g, k * 18 + 7, none⟩ (.string (markOf K7)))).setCell ⟨g, k * 18 + 8, none⟩ (.int .i64 (K8 : Int))) base (.slice (some ⟨g, 0, none⟩) n cap) (pre ++ (⟨(⟨(K : Int), (K1 : Int), markOf K2, mkG K3 d.qfs d.qfs.length, markOf K4, (K5 : Int), mkG K6 d.rfs d.rfs.length, markOf K7, (K8 : Int), d.tim, d.opa, d.oxs, d.oys, d.ost, d.ofs, d.obd, d.otm, d.bns⟩ : RpD), v3, v6, v11, v12, v14⟩ : RpV) :: post)) := rp_cell HKs7.out HNL.out HPL.out 8 (by decide) _ rfl rfl
      have HBs8 : Hid (Below base w ((((u5).setCell ⟨g, k * 18 + 7, none⟩ (.string (markOf K7)))).setCell ⟨g, k * 18 + 8, none⟩ (.int .i64 (K8 : Int)))) := HBs7.out.setCell (p := ⟨g, k * 18 + 8, none⟩) HGB.out _
      have HFs8 : Hid (FarR (rpAll (.slice (some ⟨g, 0, none⟩) n cap) kv) w ((((u5).setCell ⟨g, k * 18 + 7, none⟩ (.string (markOf K7)))).setCell ⟨g, k * 18 + 8, none⟩ (.int .i64 (K8 : Int)))) := fun j hj hne => (heap_setCell_other _ _ j _ (fun e => hne (rpRow (.slice (some ⟨g, 0, none⟩) n cap) kv) (by simp [rpAll]) (by rw [e]; rfl))).trans (HFs7.out j hj hne)
      have bb8 := HBB8.out
      have e9 := E9.out
      obtain ⟨c9, f9⟩ := rp_at HKs8.out HNL.out HPL.out 9 (by decide) _ rfl
      have HKs9 : Hid (RpsO ((((((u5).setCell ⟨g, k * 18 + 7, none⟩ (.string (markOf K7)))).setCell ⟨g, k * 18 + 8, none⟩ (.int .i64 (K8 : Int)))).setCell ⟨g, k * 18 + 9, none⟩ (.int .i64 (K9 : Int))) base (.slice (some ⟨g, 0, none⟩) n cap) (pre ++ (⟨(⟨(K : Int), (K1 : Int), markOf K2, mkG K3 d.qfs d.qfs.length, markOf K4, (K5 : Int), mkG K6 d.rfs d.rfs.length, markOf K7, (K8 : Int), (K9 : Int), d.opa, d.oxs, d.oys, d.ost, d.ofs, d.obd, d.otm, d.bns⟩ : RpD), v3, v6, v11, v12, v14⟩ : RpV) :: post)) := rp_cell HKs8.out HNL.out HPL.out 9 (by decide) _ rfl rfl
      have HBs9 : Hid (Below base w ((((((u5).setCell ⟨g, k * 18 + 7, none⟩ (.string (markOf K7)))).setCell ⟨g, k * 18 + 8, none⟩ (.int .i64 (K8 : Int)))).setCell ⟨g, k * 18 + 9, none⟩ (.int .i64 (K9 : Int)))) := HBs8.out.setCell (p := ⟨g, k * 18 + 9, none⟩) HGB.out _
      have HFs9 : Hid (FarR (rpAll (.slice (some ⟨g, 0, none⟩) n cap) kv) w ((((((u5).setCell ⟨g, k * 18 + 7, none⟩ (.string (markOf K7)))).setCell ⟨g, k * 18 + 8, none⟩ (.int .i64 (K8 : Int)))).setCell ⟨g, k * 18 + 9, none⟩ (.int .i64 (K9 : Int)))) := fun j hj hne => (heap_setCell_other _ _ j _ (fun e => hne (rpRow (.slice (some ⟨g, 0, none⟩) n cap) kv) (by simp [rpAll]) (by rw [e]; rfl))).trans (HFs8.out j hj hne)
      have bb9 := HBB9.out
      go_wp2_with fail
      rw [E10.out]
      refine (markText_any K10 _ b10.out.1 b10.out.2).mono ?_
      rintro e u6 ⟨rfl, bw⟩
      have HKu6 : Hid (RpsO u6 base (.slice (some ⟨g, 0, none⟩) n cap) (pre ++ (⟨(⟨(K : Int), (K1 : Int), markOf K2, mkG K3 d.qfs d.qfs.length, markOf K4, (K5 : Int), mkG K6 d.rfs d.rfs.length, markOf K7, (K8 : Int), (K9 : Int), d.opa, d.oxs, d.oys, d.ost, d.ofs, d.obd, d.otm, d.bns⟩ : RpD), v3, v6, v11, v12, v14⟩ : RpV) :: post)) := RpsO.below HKs9.out bw
      have HBu6 : Hid (Below base w u6) := HBs9.out.trans (bw.mono (Nat.le_trans hb HBs9.out.size))
      have HFu6 : Hid (FarR (rpAll (.slice (some ⟨g, 0, none⟩) n cap) kv) w u6) := fun j hj hne => (bw.block j (Nat.lt_of_lt_of_le hj HBs9.out.size)).trans (HFs9.out j hj hne)
      clear bw c7 f7 bb7 e8 c8 f8 bb8 e9 c9 f9 bb9
      obtain ⟨c10, f10⟩ := rp_at HKu6.out HNL.out HPL.out 10 (by decide) _ rfl
      have HKs10 : Hid (RpsO ((u6).setCell ⟨g, k * 18 + 10, none⟩ (.string (markOf K10))) base (.slice (some ⟨g, 0, none⟩) n cap) (pre ++ (⟨(⟨(K : Int), (K1 : Int), markOf K2, mkG K3 d.qfs d.qfs.length, markOf K4, (K5 : Int), mkG K6 d.rfs d.rfs.length, markOf K7, (K8 : Int), (K9 : Int), markOf K10, d.oxs, d.oys, d.ost, d.ofs, d.obd, d.otm, d.bns⟩ : RpD), v3, v6, v11, v12, v14⟩ : RpV) :: post)) := rp_cell HKu6.out HNL.out HPL.out 10 (by decide) _ rfl rfl
      have HBs10 : Hid (Below base w ((u6).setCell ⟨g, k * 18 + 10, none⟩ (.string (markOf K10)))) := HBu6.out.setCell (p := ⟨g, k * 18 + 10, none⟩) HGB.out _
      have HFs10 : Hid (FarR (rpAll (.slice (some ⟨g, 0, none⟩) n cap) kv) w ((u6).setCell ⟨g, k * 18 + 10, none⟩ (.string (markOf K10)))) := fun j hj hne => (heap_setCell_other _ _ j _ (fun e => hne (rpRow (.slice (some ⟨g, 0, none⟩) n cap) kv) (by simp [rpAll]) (by rw [e]; rfl))).trans (HFu6.out j hj hne)
      have bb10 := HBB10.out
      obtain ⟨c11, f11⟩ := rp_at HKs10.out HNL.out HPL.out 11 (by decide) _ rfl
      go_wp2_with fail
      rw [E11.out]
      refine (markTFrom_any v11 d.oxs.length base d.oxs _ ((RpsO.item HKs10.out (x := (⟨(⟨(K : Int), (K1 : Int), markOf K2, mkG K3 d.qfs d.qfs.length, markOf K4, (K5 : Int), mkG K6 d.rfs d.rfs.length, markOf K7, (K8 : Int), (K9 : Int), markOf K10, d.oxs, d.oys, d.ost, d.ofs, d.obd, d.otm, d.bns⟩ : RpD), v3, v6, v11, v12, v14⟩ : RpV)) (List.mem_append_right _ List.mem_cons_self)).own (⟨9, 1, v11, d.oxs.length, d.oxs.map Value.string⟩ : Rw) (by simp [rpR])) (Nat.le_trans hb HBs10.out.size) K11 b11.out.1 b11.out.2).mono ?_
      rintro e u7 ⟨rfl, mk, bm, far⟩
      have HKu7 : Hid (RpsO u7 base (.slice (some ⟨g, 0, none⟩) n cap) (pre ++ (⟨(⟨(K : Int), (K1 : Int), markOf K2, mkG K3 d.qfs d.qfs.length, markOf K4, (K5 : Int), mkG K6 d.rfs d.rfs.length, markOf K7, (K8 : Int), (K9 : Int), markOf K10, mkT K11 d.oxs d.oxs.length, d.oys, d.ost, d.ofs, d.obd, d.otm, d.bns⟩ : RpD), v3, v6, v11, v12, v14⟩ : RpV) :: post)) := rp_row (r := (⟨9, 1, v11, d.oxs.length, d.oxs.map Value.string⟩ : Rw)) (r' := (⟨9, 1, v11, (mkT K11 d.oxs d.oxs.length).length, (mkT K11 d.oxs d.oxs.length).map Value.string⟩ : Rw)) (a := [(⟨135, 2, v3, (mkG K3 d.qfs d.qfs.length).length, flatF (mkG K3 d.qfs d.qfs.length)⟩ : Rw), (⟨135, 2, v6, (mkG K6 d.rfs d.rfs.length).length, flatF (mkG K6 d.rfs d.rfs.length)⟩ : Rw)]) (b := [(⟨9, 1, v12, d.oys.length, d.oys.map Value.string⟩ : Rw), (⟨135, 2, v14, d.ofs.length, flatF d.ofs⟩ : Rw)]) HKs10.out rfl (by first | rfl | simp [rpR]) rfl rfl (by unfold Rw.own; simp only [mkT_len]; exact mk) far
      have HBu7 : Hid (Below base w u7) := HBs10.out.trans bm
      have HFu7 : Hid (FarR (rpAll (.slice (some ⟨g, 0, none⟩) n cap) kv) w u7) := fun j hj hne => (far j (Nat.lt_of_lt_of_le hj HBs10.out.size) (hne (⟨9, 1, v11, d.oxs.length, d.oxs.map Value.string⟩ : Rw) HIN11.out)).trans (HFs10.out j hj hne)
      clear mk bm far c10 f10 bb10 c11 f11
      rw [E12.out]
      obtain ⟨c12, f12⟩ := rp_at HKu7.out HNL.out HPL.out 12 (by decide) _ rfl
      go_wp2_with fail
      refine (markTFrom_any v12 d.oys.length base d.oys _ ((RpsO.item HKu7.out (x := (⟨(⟨(K : Int), (K1 : Int), markOf K2, mkG K3 d.qfs d.qfs.length, markOf K4, (K5 : Int), mkG K6 d.rfs d.rfs.length, markOf K7, (K8 : Int), (K9 : Int), markOf K10, mkT K11 d.oxs d.oxs.length, d.oys, d.ost, d.ofs, d.obd, d.otm, d.bns⟩ : RpD), v3, v6, v11, v12, v14⟩ : RpV)) (List.mem_append_right _ List.mem_cons_self)).own (⟨9, 1, v12, d.oys.length, d.oys.map Value.string⟩ : Rw) (by simp [rpR])) (Nat.le_trans hb HBu7.out.size) K12 b12.out.1 b12.out.2).mono ?_
      rintro e u8 ⟨rfl, mk, bm, far⟩
      have HKu8 : Hid (RpsO u8 base (.slice (some ⟨g, 0, none⟩) n cap) (pre ++ (⟨(⟨(K : Int), (K1 : Int), markOf K2, mkG K3 d.qfs d.qfs.length, markOf K4, (K5 : Int), mkG K6 d.rfs d.rfs.length, markOf K7, (K8 : Int), (K9 : Int), markOf K10, mkT K11 d.oxs d.oxs.length, mkT K12 d.oys d.oys.length, d.ost, d.ofs, d.obd, d.otm, d.bns⟩ : RpD), v3, v6, v11, v12, v14⟩ : RpV) :: post)) := rp_row (r := (⟨9, 1, v12, d.oys.length, d.oys.map Value.string⟩ : Rw)) (r' := (⟨9, 1, v12, (mkT K12 d.oys d.oys.length).length, (mkT K12 d.oys d.oys.length).map Value.string⟩ : Rw)) (a := [(⟨135, 2, v3, (mkG K3 d.qfs d.qfs.length).length, flatF (mkG K3 d.qfs d.qfs.length)⟩ : Rw), (⟨135, 2, v6, (mkG K6 d.rfs d.rfs.length).length, flatF (mkG K6 d.rfs d.rfs.length)⟩ : Rw), (⟨9, 1, v11, (mkT K11 d.oxs d.oxs.length).length, (mkT K11 d.oxs d.oxs.length).map Value.string⟩ : Rw)]) (b := [(⟨135, 2, v14, d.ofs.length, flatF d.ofs⟩ : Rw)]) HKu7.out rfl (by first | rfl | simp [rpR]) rfl rfl (by unfold Rw.own; simp only [mkT_len]; exact mk) far
      have HBu8 : Hid (Below base w u8) := HBu7.out.trans bm
      have HFu8 : Hid (FarR (rpAll (.slice (some ⟨g, 0, none⟩) n cap) kv) w u8) := fun j hj hne => (far j (Nat.lt_of_lt_of_le hj HBu7.out.size) (hne (⟨9, 1, v12, d.oys.length, d.oys.map Value.string⟩ : Rw) HIN12.out)).trans (HFu7.out j hj hne)
      clear mk bm far c12 f12
      rw [E13.out]
      obtain ⟨c13, f13⟩ := rp_at HKu8.out HNL.out HPL.out 13 (by decide) _ rfl
      have HKs13 : Hid (RpsO ((u8).setCell ⟨g, k * 18 + 13, none⟩ (.int .i64 (K13 : Int))) base (.slice (some ⟨g, 0, none⟩) n cap) (pre ++ (⟨(⟨(K : Int), (K1 : Int), markOf K2, mkG K3 d.qfs d.qfs.length, markOf K4, (K5 : Int), mkG K6 d.rfs d.rfs.length, markOf K7, (K8 : Int), (K9 : Int), markOf K10, mkT K11 d.oxs d.oxs.length, mkT K12 d.oys d.oys.length, (K13 : Int), d.ofs, d.obd, d.otm, d.bns⟩ : RpD), v3, v6, v11, v12, v14⟩ : RpV) :: post)) := rp_cell HKu8.out HNL.out HPL.out 13 (by decide) _ rfl rfl
      have HBs13 : Hid (Below base w ((u8).setCell ⟨g, k * 18 + 13, none⟩ (.int .i64 (K13 : Int)))) := HBu8.out.setCell (p := ⟨g, k * 18 + 13, none⟩) HGB.out _
      have HFs13 : Hid (FarR (rpAll (.slice (some ⟨g, 0, none⟩) n cap) kv) w ((u8).setCell ⟨g, k * 18 + 13, none⟩ (.int .i64 (K13 : Int)))) := fun j hj hne => (heap_setCell_other _ _ j _ (fun e => hne (rpRow (.slice (some ⟨g, 0, none⟩) n cap) kv) (by simp [rpAll]) (by rw [e]; rfl))).trans (HFu8.out j hj hne)
      have bb13 := HBB13.out
      obtain ⟨c14, f14⟩ := rp_at HKs13.out HNL.out HPL.out 14 (by decide) _ rfl
      go_wp2_with fail
      rw [E14.out]
      refine (markFrom_any v14 d.ofs.length base d.ofs _ ((RpsO.item HKs13.out (x := (⟨(⟨(K : Int), (K1 : Int), markOf K2, mkG K3 d.qfs d.qfs.length, markOf K4, (K5 : Int), mkG K6 d.rfs d.rfs.length, markOf K7, (K8 : Int), (K9 : Int), markOf K10, mkT K11 d.oxs d.oxs.length, mkT K12 d.oys d.oys.length, (K13 : Int), d.ofs, d.obd, d.otm, d.bns⟩ : RpD), v3, v6, v11, v12, v14⟩ : RpV)) (List.mem_append_right _ List.mem_cons_self)).own (⟨135, 2, v14, d.ofs.length, flatF d.ofs⟩ : Rw) (by simp [rpR])) (Nat.le_trans hb HBs13.out.size) K14 b14.out.1 b14.out.2).mono ?_
      rintro e u9 ⟨rfl, mk, bm, far⟩
      have HKu9 : Hid (RpsO u9 base (.slice (some ⟨g, 0, none⟩) n cap) (pre ++ (⟨(⟨(K : Int), (K1 : Int), markOf K2, mkG K3 d.qfs d.qfs.length, markOf K4, (K5 : Int), mkG K6 d.rfs d.rfs.length, markOf K7, (K8 : Int), (K9 : Int), markOf K10, mkT K11 d.oxs d.oxs.length, mkT K12 d.oys d.oys.length, (K13 : Int), mkG K14 d.ofs d.ofs.length, d.obd, d.otm, d.bns⟩ : RpD), v3, v6, v11, v12, v14⟩ : RpV) :: post)) := rp_row (r := (⟨135, 2, v14, d.ofs.length, flatF d.ofs⟩ : Rw)) (r' := (⟨135, 2, v14, (mkG K14 d.ofs d.ofs.length).length, flatF (mkG K14 d.ofs d.ofs.length)⟩ : Rw)) (a := [(⟨135, 2, v3, (mkG K3 d.qfs d.qfs.length).length, flatF (mkG K3 d.qfs d.qfs.length)⟩ : Rw), (⟨135, 2, v6, (mkG K6 d.rfs d.rfs.length).length, flatF (mkG K6 d.rfs d.rfs.length)⟩ : Rw), (⟨9, 1, v11, (mkT K11 d.oxs d.oxs.length).length, (mkT K11 d.oxs d.oxs.length).map Value.string⟩ : Rw), (⟨9, 1, v12, (mkT K12 d.oys d.oys.length).length, (mkT K12 d.oys d.oys.length).map Value.string⟩ : Rw)]) (b := []) HKs13.out rfl (by first | rfl | simp [rpR]) rfl rfl (by unfold Rw.own; simp only [mkG_len]; exact mk) far
      have HBu9 : Hid (Below base w u9) := HBs13.out.trans bm
      have HFu9 : Hid (FarR (rpAll (.slice (some ⟨g, 0, none⟩) n cap) kv) w u9) := fun j hj hne => (far j (Nat.lt_of_lt_of_le hj HBs13.out.size) (hne (⟨135, 2, v14, d.ofs.length, flatF d.ofs⟩ : Rw) HIN14.out)).trans (HFs13.out j hj hne)
      clear mk bm far c13 f13 bb13 c14 f14
      rw [E15.out]
      go_wp2_with fail
      refine (markText_any K15 _ b15.out.1 b15.out.2).mono ?_
      rintro e u10 ⟨rfl, bw⟩
      have HKu10 : Hid (RpsO u10 base (.slice (some ⟨g, 0, none⟩) n cap) (pre ++ (⟨(⟨(K : Int), (K1 : Int), markOf K2, mkG K3 d.qfs d.qfs.length, markOf K4, (K5 : Int), mkG K6 d.rfs d.rfs.length, markOf K7, (K8 : Int), (K9 : Int), markOf K10, mkT K11 d.oxs d.oxs.length, mkT K12 d.oys d.oys.length, (K13 : Int), mkG K14 d.ofs d.ofs.length, d.obd, d.otm, d.bns⟩ : RpD), v3, v6, v11, v12, v14⟩ : RpV) :: post)) := RpsO.below HKu9.out bw
      have HBu10 : Hid (Below base w u10) := HBu9.out.trans (bw.mono (Nat.le_trans hb HBu9.out.size))
      have HFu10 : Hid (FarR (rpAll (.slice (some ⟨g, 0, none⟩) n cap) kv) w u10) := fun j hj hne => (bw.block j (Nat.lt_of_lt_of_le hj HBu9.out.size)).trans (HFu9.out j hj hne)
      clear bw
      obtain ⟨c15, f15⟩ := rp_at HKu10.out HNL.out HPL.out 15 (by decide) _ rfl
      have HKs15 : Hid (RpsO ((u10).setCell ⟨g, k * 18 + 15, none⟩ (.string (markOf K15))) base (.slice (some ⟨g, 0, none⟩) n cap) (pre ++ (⟨(⟨(K : Int), (K1 : Int), markOf K2, mkG K3 d.qfs d.qfs.length, markOf K4, (K5 : Int), mkG K6 d.rfs d.rfs.length, markOf K7, (K8 : Int), (K9 : Int), markOf K10, mkT K11 d.oxs d.oxs.length, mkT K12 d.oys d.oys.length, (K13 : Int), mkG K14 d.ofs d.ofs.length, markOf K15, d.otm, d.bns⟩ : RpD), v3, v6, v11, v12, v14⟩ : RpV) :: post)) := rp_cell HKu10.out HNL.out HPL.out 15 (by decide) _ rfl rfl
      have HBs15 : Hid (Below base w ((u10).setCell ⟨g, k * 18 + 15, none⟩ (.string (markOf K15)))) := HBu10.out.setCell (p := ⟨g, k * 18 + 15, none⟩) HGB.out _
      have HFs15 : Hid (FarR (rpAll (.slice (some ⟨g, 0, none⟩) n cap) kv) w ((u10).setCell ⟨g, k * 18 + 15, none⟩ (.string (markOf K15)))) := fun j hj hne => (heap_setCell_other _ _ j _ (fun e => hne (rpRow (.slice (some ⟨g, 0, none⟩) n cap) kv) (by simp [rpAll]) (by rw [e]; rfl))).trans (HFu10.out j hj hne)
      have bb15 := HBB15.out
      have e16 := E16.out
      obtain ⟨c16, f16⟩ := rp_at HKs15.out HNL.out HPL.out 16 (by decide) _ rfl
      have HKs16 : Hid (RpsO ((((u10).setCell ⟨g, k * 18 + 15, none⟩ (.string (markOf K15)))).setCell ⟨g, k * 18 + 16, none⟩ (.int .i64 (K16 : Int))) base (.slice (some ⟨g, 0, none⟩) n cap) (pre ++ (⟨(⟨(K : Int), (K1 : Int), markOf K2, mkG K3 d.qfs d.qfs.length, markOf K4, (K5 : Int), mkG K6 d.rfs d.rfs.length, markOf K7, (K8 : Int), (K9 : Int), markOf K10, mkT K11 d.oxs d.oxs.length, mkT K12 d.oys d.oys.length, (K13 : Int), mkG K14 d.ofs d.ofs.length, markOf K15, (K16 : Int), d.bns⟩ : RpD), v3, v6, v11, v12, v14⟩ : RpV) :: post)) := rp_cell HKs15.out HNL.out HPL.out 16 (by decide) _ rfl rfl
      have HBs16 : Hid (Below base w ((((u10).setCell ⟨g, k * 18 + 15, none⟩ (.string (markOf K15)))).setCell ⟨g, k * 18 + 16, none⟩ (.int .i64 (K16 : Int)))) := HBs15.out.setCell (p := ⟨g, k * 18 + 16, none⟩) HGB.out _
      have HFs16 : Hid (FarR (rpAll (.slice (some ⟨g, 0, none⟩) n cap) kv) w ((((u10).setCell ⟨g, k * 18 + 15, none⟩ (.string (markOf K15)))).setCell ⟨g, k * 18 + 16, none⟩ (.int .i64 (K16 : Int)))) := fun j hj hne => (heap_setCell_other _ _ j _ (fun e => hne (rpRow (.slice (some ⟨g, 0, none⟩) n cap) kv) (by simp [rpAll]) (by rw [e]; rfl))).trans (HFs15.out j hj hne)
      have bb16 := HBB16.out
      have e17 := E17.out
      obtain ⟨c17, f17⟩ := rp_at HKs16.out HNL.out HPL.out 17 (by decide) _ rfl
      have HKs17 : Hid (RpsO ((((((u10).setCell ⟨g, k * 18 + 15, none⟩ (.string (markOf K15)))).setCell ⟨g, k * 18 + 16, none⟩ (.int .i64 (K16 : Int)))).setCell ⟨g, k * 18 + 17, none⟩ (.int .i64 (K17 : Int))) base (.slice (some ⟨g, 0, none⟩) n cap) (pre ++ (⟨(⟨(K : Int), (K1 : Int), markOf K2, mkG K3 d.qfs d.qfs.length, markOf K4, (K5 : Int), mkG K6 d.rfs d.rfs.length, markOf K7, (K8 : Int), (K9 : Int), markOf K10, mkT K11 d.oxs d.oxs.length, mkT K12 d.oys d.oys.length, (K13 : Int), mkG K14 d.ofs d.ofs.length, markOf K15, (K16 : Int), (K17 : Int)⟩ : RpD), v3, v6, v11, v12, v14⟩ : RpV) :: post)) := rp_cell HKs16.out HNL.out HPL.out 17 (by decide) _ rfl rfl
      have HBs17 : Hid (Below base w ((((((u10).setCell ⟨g, k * 18 + 15, none⟩ (.string (markOf K15)))).setCell ⟨g, k * 18 + 16, none⟩ (.int .i64 (K16 : Int)))).setCell ⟨g, k * 18 + 17, none⟩ (.int .i64 (K17 : Int)))) := HBs16.out.setCell (p := ⟨g, k * 18 + 17, none⟩) HGB.out _
      have HFs17 : Hid (FarR (rpAll (.slice (some ⟨g, 0, none⟩) n cap) kv) w ((((((u10).setCell ⟨g, k * 18 + 15, none⟩ (.string (markOf K15)))).setCell ⟨g, k * 18 + 16, none⟩ (.int .i64 (K16 : Int)))).setCell ⟨g, k * 18 + 17, none⟩ (.int .i64 (K17 : Int)))) := fun j hj hne => (heap_setCell_other _ _ j _ (fun e => hne (rpRow (.slice (some ⟨g, 0, none⟩) n cap) kv) (by simp [rpAll]) (by rw [e]; rfl))).trans (HFs16.out j hj hne)
      have bb17 := HBB17.out
      have e18 := E18.out
      have HFIN : Hid (mkRpV K x0 = (⟨(⟨(K : Int), (K1 : Int), markOf K2, mkG K3 d.qfs d.qfs.length, markOf K4, (K5 : Int), mkG K6 d.rfs d.rfs.length, markOf K7, (K8 : Int), (K9 : Int), markOf K10, mkT K11 d.oxs d.oxs.length, mkT K12 d.oys d.oys.length, (K13 : Int), mkG K14 d.ofs d.ofs.length, markOf K15, (K16 : Int), (K17 : Int)⟩ : RpD), v3, v6, v11, v12, v14⟩ : RpV)) := by
        show _ = _
        rw [HX0.out]
        unfold mkRpV mkRpD
        rw [HQ1.out, HQ2.out, HQ3.out, HQ4.out, HQ5.out, HQ6.out, HQ7.out, HQ8.out, HQ9.out, HQ10.out, HQ11.out, HQ12.out, HQ13.out, HQ14.out, HQ15.out, HQ16.out, HQ17.out]
      have HKN : Hid (K18 = k0 + wmsRp (kv.take (k + 1))) := by
        have h1 : k0 + wmsRp (kv.take (k + 1)) = K + wmRp d := by have h := HKE2.out; rw [HX0.out] at h; exact h
        have h2 : wmRp d = 13 + 2 * d.qfs.length + 2 * d.rfs.length + d.oxs.length + d.oys.length + 2 * d.ofs.length := rfl
        have h3 := HQ18.out
        show _ = _
        omega
      go_wp2
      go_roundw
      case rel => exact ⟨k + 1, K18, by omega, by go_num, rfl, b18.out, HKN, HBs17, by show RpsO _ _ _ _; rw [HEND.out, HFIN.out]; exact HKs17.out, HFs17⟩
      case measure => simp [intOf]; omega
    · have HE : Hid (k0 + TW = K ∧ RpsO wr base (.slice oa n cap) (mkRps k0 kv)) := by
        have e1 := HKE.out
        have e2 := HK0'.out
        rw [List.take_of_length_le (by rw [HLN.out]; omega)] at e1 e2
        rw [List.drop_eq_nil_of_le (by rw [HLN.out]; omega), List.append_nil] at e2
        exact ⟨by rw [HTW.out, e1], e2⟩
      go_wp2
      go_ret
      exact ⟨by rw [HE.out.1]; rfl, HE.out.2, HB0.out, HF0.out⟩

end Go.Proofs.YtajccgffallajaaGreat

namespace Go.Proofs.YtajccgffallajaaGreat
open Go.RowKit
open Go.Lib hiding intOf

/-- Some rows turned where they lie: all others stay. -/
theorem RowsO.turns {w w' : World} {base : Nat} {pre xs xs' post : List Rw} (h : RowsO w base (pre ++ xs ++ post)) (hv : xs'.map (·.v) = xs.map (·.v)) (h' : RowsO w' base xs') (hs : ∀ g, g < w.heap.size → (∀ r ∈ xs, r.v.ownBlock ≠ some g) → w'.heap[g]? = w.heap[g]?) : RowsO w' base (pre ++ xs' ++ post) := by
  have hp := h.apart
  rw [List.pairwise_append, List.pairwise_append] at hp
  obtain ⟨⟨p1, _, p3⟩, p4, p5⟩ := hp
  have twin : ∀ r' ∈ xs', ∃ r ∈ xs, r.v = r'.v := fun r' hr => by
    have hm : r'.v ∈ xs'.map (·.v) := List.mem_map.2 ⟨r', hr, rfl⟩
    rw [hv] at hm
    exact List.mem_map.1 hm
  have keep : ∀ x, x ∈ pre ++ xs ++ post → (∀ r ∈ xs, x.ne r) → x.own w' base := fun x hx hne => owns_same (h.own x hx) (fun g hg => hs g (h.lt hx hg) (fun r hr => hne r hr g hg))
  have k1 : ∀ x ∈ pre, x.own w' base := fun x hx => keep x (by simp [hx]) (fun r hr => p3 x hx r hr)
  have k3 : ∀ x ∈ post, x.own w' base := fun x hx => keep x (by simp [hx]) (fun r hr => (p5 r (by simp [hr]) x hx).symm)
  refine ⟨fun x hx => ?_, ?_⟩
  · rcases List.mem_append.1 hx with hx | hx
    · rcases List.mem_append.1 hx with hx | hx
      · exact k1 x hx
      · exact h'.own x hx
    · exact k3 x hx
  · rw [List.pairwise_append, List.pairwise_append]
    refine ⟨⟨p1, h'.apart, fun a ha b hb => ?_⟩, p4, fun a ha b hb => ?_⟩
    · obtain ⟨r, hr, e⟩ := twin b hb
      have hne := p3 a ha r hr
      unfold Rw.ne at hne ⊢
      rw [← e]
      exact hne
    · rcases List.mem_append.1 ha with ha | ha
      · exact p5 a (by simp [ha]) b hb
      · obtain ⟨r, hr, e⟩ := twin a ha
        have hne := p5 r (by simp [hr]) b hb
        unfold Rw.ne at hne ⊢
        rw [← e]
        exact hne
theorem mkKs_v (V : Value) : ∀ (kv : List (KpD × Value × Value × Value)) (k : Nat), (kpAll V (mkKs k kv)).map (·.v) = (kpAll V kv).map (·.v) := by
  have key : ∀ (kv : List (KpD × Value × Value × Value)) (k : Nat), ((mkKs k kv).flatMap kpR).map (·.v) = (kv.flatMap kpR).map (·.v) := by
    intro kv
    induction kv with
    | nil => intro k; rfl
    | cons x r ih =>
      intro k
      rw [mkKs, List.flatMap_cons, List.flatMap_cons, List.map_append, List.map_append, ih]
      rfl
  intro kv k
  unfold kpAll
  rw [List.map_cons, List.map_cons, key]
  rfl

set_option maxHeartbeats 8000000 in
set_option maxRecDepth 100000 in
theorem markShelf_go (s : ShD) (n1 n2 n3 n4 : Nat) (oC oP oK oB : Option Addr) (pC pP pK pB : Nat) (kv : List (KpD × Value × Value × Value)) (B : Nat) (w : World) (hL1 : s.cs.length = n1) (hL2 : s.ws.length = n2) (hL3 : kv.length = n3) (hL4 : s.bl.length = n4) (HR : Hid (RowsO w B ([(⟨9, 1, (.slice oC n1 pC), n1, s.cs.map Value.string⟩ : Rw), (⟨184, 2, (.slice oP n2 pP), n2, flatWrite s.ws⟩ : Rw)] ++ kpAll (.slice oK n3 pK) kv ++ [(⟨163, 4, (.slice oB n4 pB), n4, flatBan s.bl⟩ : Rw)]))) (hB : B ≤ w.heap.size) (k0 : Nat) (hk0 : 1 ≤ k0) (hk : k0 + n1 + 2 * n2 + wms kv + 4 * n4 ≤ 99999998) (hn3 : n3 ≤ 2000000) (K1 K2 K3 : Nat) (HK1 : Hid (K1 = k0 + n1 + 2 * n2)) (HK2 : Hid (K2 = K1 + wms kv)) (HK3 : Hid (K3 = K2 + 4 * n4)) :
    Calls Tryz.prog 30 #[.agg #[(.slice oC n1 pC), (.slice oP n2 pP), (.slice oK n3 pK), (.slice oB n4 pB), .int .i64 s.nx, .int .i64 s.sq], .int .i64 (k0 : Int)] w fun e w' => e = .returned (.int .i64 (K3 : Int)) ∧ RowsO w' B ([(⟨9, 1, (.slice oC n1 pC), n1, (mkT k0 s.cs n1).map Value.string⟩ : Rw), (⟨184, 2, (.slice oP n2 pP), n2, flatWrite (mkWrite (k0 + n1) s.ws n2)⟩ : Rw)] ++ kpAll (.slice oK n3 pK) (mkKs K1 kv) ++ [(⟨163, 4, (.slice oB n4 pB), n4, flatBan (mkBan K2 s.bl n4)⟩ : Rw)]) ∧ Below B w w' ∧ FarR ([(⟨9, 1, (.slice oC n1 pC), n1, s.cs.map Value.string⟩ : Rw), (⟨184, 2, (.slice oP n2 pP), n2, flatWrite s.ws⟩ : Rw)] ++ kpAll (.slice oK n3 pK) kv ++ [(⟨163, 4, (.slice oB n4 pB), n4, flatBan s.bl⟩ : Rw)]) w w' := by
  have HL1 : Hid (s.cs.length = n1) := hL1
  have HL3 : Hid (kv.length = n3) := hL3
  have b0 : k0 + n1 + 2 * n2 ≤ 99999998 := by omega
  have b1 : 1 ≤ K1 ∧ K1 + wms kv ≤ 99999998 := by have := HK1.out; omega
  have b2 : 1 ≤ K2 ∧ K2 + 4 * n4 ≤ 99999999 := by have := HK1.out; have := HK2.out; omega
  have E1 : Hid (((k0 + n1 + 2 * n2 : Nat) : Int) = (K1 : Int)) := by show _ = _; rw [HK1.out]
  have E2 : Hid (((K1 + wms kv : Nat) : Int) = (K2 : Int)) := by show _ = _; rw [HK2.out]
  have E3 : Hid ((K2 : Int) + 4 * (n4 : Int) = (K3 : Int)) := by show _ = _; rw [HK3.out]; simp
  clear hL1 hL2 hL3 hL4 hk
  go_enter Tryz.func30, Tryz.ntmps30
  go_upto_region 1 with fail
  obtain ⟨q, hq⟩ : ∃ q, q = w.heap.size := ⟨_, rfl⟩
  obtain ⟨w1, hw1⟩ : ∃ W, W = w.alloc (.cells #[(.slice oC n1 pC), (.slice oP n2 pP), (.slice oK n3 pK), (.slice oB n4 pB), .int .i64 s.nx, .int .i64 s.sq] 47) := ⟨_, rfl⟩
  rw [← hw1, ← hq]
  have HX1 : Hid (w1.heap[q]? = some (.cells #[(.slice oC n1 pC), (.slice oP n2 pP), (.slice oK n3 pK), (.slice oB n4 pB), .int .i64 s.nx, .int .i64 s.sq] 47)) := by show _ = _; rw [hw1, hq]; exact heap_alloc_new _ _
  have bw1 : Below w.heap.size w w1 := by rw [hw1]; exact (Below.refl _ _).alloc (Nat.le_refl _) _
  have HR1 : Hid (RowsO w1 B ([] ++ [(⟨9, 1, (.slice oC n1 pC), n1, s.cs.map Value.string⟩ : Rw), (⟨184, 2, (.slice oP n2 pP), n2, flatWrite s.ws⟩ : Rw)] ++ (kpAll (.slice oK n3 pK) kv ++ [(⟨163, 4, (.slice oB n4 pB), n4, flatBan s.bl⟩ : Rw)]))) := by
    have h := HR.out.below bw1
    rw [List.append_assoc] at h
    exact h
  have HB1 : Hid (Below B w w1) := bw1.mono hB
  have HQ : Hid (∀ r ∈ ([(⟨9, 1, (.slice oC n1 pC), n1, s.cs.map Value.string⟩ : Rw), (⟨184, 2, (.slice oP n2 pP), n2, flatWrite s.ws⟩ : Rw)] ++ kpAll (.slice oK n3 pK) kv ++ [(⟨163, 4, (.slice oB n4 pB), n4, flatBan s.bl⟩ : Rw)]), r.v.ownBlock ≠ some q) := fun r hr e => by have h1 := HR.out.lt hr e; omega
  have HF1 : Hid (∀ j, j < w.heap.size → w1.heap[j]? = w.heap[j]?) := fun j hj => bw1.block j hj
  have hBw1 : B ≤ w1.heap.size := Nat.le_trans hB bw1.size
  have hqs : q < w1.heap.size := (Array.getElem?_eq_some_iff.1 HX1.out).1
  clear hw1 bw1 hq
  have c0 : w1.cell? ⟨q, 0, none⟩ = some (.slice oC n1 pC) := (cell_of HX1.out 0).trans rfl
  have c1 : w1.cell? ⟨q, 1, none⟩ = some (.slice oP n2 pP) := (cell_of HX1.out 1).trans rfl
  go_wp2_with fail
  refine (markDisk_any n1 s.cs n2 s.ws (.slice oC n1 pC) (.slice oP n2 pP) B _ ⟨HR1.out.own (⟨9, 1, (.slice oC n1 pC), n1, s.cs.map Value.string⟩ : Rw) (by simp), HR1.out.own (⟨184, 2, (.slice oP n2 pP), n2, flatWrite s.ws⟩ : Rw) (by simp)⟩ hBw1 k0 hk0 b0).mono ?_
  rintro e w2 ⟨rfl, hd, bm, far⟩
  have HR2 : Hid (RowsO w2 B ([(⟨9, 1, (.slice oC n1 pC), n1, (mkT k0 s.cs n1).map Value.string⟩ : Rw), (⟨184, 2, (.slice oP n2 pP), n2, flatWrite (mkWrite (k0 + n1) s.ws n2)⟩ : Rw)] ++ kpAll (.slice oK n3 pK) kv ++ [(⟨163, 4, (.slice oB n4 pB), n4, flatBan s.bl⟩ : Rw)])) := by
    have h := HR1.out.turns (xs' := [(⟨9, 1, (.slice oC n1 pC), n1, (mkT k0 s.cs n1).map Value.string⟩ : Rw), (⟨184, 2, (.slice oP n2 pP), n2, flatWrite (mkWrite (k0 + n1) s.ws n2)⟩ : Rw)]) rfl (disk_rows hd) (fun g hg hne => far g hg (hne (⟨9, 1, (.slice oC n1 pC), n1, s.cs.map Value.string⟩ : Rw) (by simp)) (hne (⟨184, 2, (.slice oP n2 pP), n2, flatWrite s.ws⟩ : Rw) (by simp)))
    rw [List.append_assoc]
    exact h
  have HX2 : Hid (w2.heap[q]? = some (.cells #[(.slice oC n1 pC), (.slice oP n2 pP), (.slice oK n3 pK), (.slice oB n4 pB), .int .i64 s.nx, .int .i64 s.sq] 47)) := (far q hqs (HQ.out (⟨9, 1, (.slice oC n1 pC), n1, s.cs.map Value.string⟩ : Rw) (by simp)) (HQ.out (⟨184, 2, (.slice oP n2 pP), n2, flatWrite s.ws⟩ : Rw) (by simp))).trans HX1.out
  have HB2 : Hid (Below B w w2) := HB1.out.trans bm
  have HF2 : Hid (FarR ([(⟨9, 1, (.slice oC n1 pC), n1, s.cs.map Value.string⟩ : Rw), (⟨184, 2, (.slice oP n2 pP), n2, flatWrite s.ws⟩ : Rw)] ++ kpAll (.slice oK n3 pK) kv ++ [(⟨163, 4, (.slice oB n4 pB), n4, flatBan s.bl⟩ : Rw)]) w w2) := fun j hj hne => (far j (Nat.lt_of_lt_of_le hj HB1.out.size) (hne (⟨9, 1, (.slice oC n1 pC), n1, s.cs.map Value.string⟩ : Rw) (by simp)) (hne (⟨184, 2, (.slice oP n2 pP), n2, flatWrite s.ws⟩ : Rw) (by simp))).trans (HF1.out j hj)
  have hBw2 : B ≤ w2.heap.size := Nat.le_trans hBw1 bm.size
  have hqs2 : q < w2.heap.size := Nat.lt_of_lt_of_le hqs bm.size
  clear hd bm far c0 c1 HX1 HR1 HB1
  rw [E1.out]
  have c2 : w2.cell? ⟨q, 2, none⟩ = some (.slice oK n3 pK) := (cell_of HX2.out 2).trans rfl
  go_wp2_with fail
  refine (markKeptS_any (.slice oK n3 pK) kv B _ (RowsO.sub HR2.out ((List.sublist_append_right _ _).trans (List.sublist_append_left _ _))) hBw2 K1 b1.1 b1.2 (by rw [HL3.out]; exact hn3)).mono ?_
  rintro e w3 ⟨rfl, hd, bm, far⟩
  have HR3 : Hid (RowsO w3 B ([(⟨9, 1, (.slice oC n1 pC), n1, (mkT k0 s.cs n1).map Value.string⟩ : Rw), (⟨184, 2, (.slice oP n2 pP), n2, flatWrite (mkWrite (k0 + n1) s.ws n2)⟩ : Rw)] ++ kpAll (.slice oK n3 pK) (mkKs K1 kv) ++ [(⟨163, 4, (.slice oB n4 pB), n4, flatBan s.bl⟩ : Rw)])) := HR2.out.turns (mkKs_v _ kv K1) hd far
  have HX3 : Hid (w3.heap[q]? = some (.cells #[(.slice oC n1 pC), (.slice oP n2 pP), (.slice oK n3 pK), (.slice oB n4 pB), .int .i64 s.nx, .int .i64 s.sq] 47)) := (far q hqs2 (fun r hr => HQ.out r (by simp [hr]))).trans HX2.out
  have HB3 : Hid (Below B w w3) := HB2.out.trans bm
  have HF3 : Hid (FarR ([(⟨9, 1, (.slice oC n1 pC), n1, s.cs.map Value.string⟩ : Rw), (⟨184, 2, (.slice oP n2 pP), n2, flatWrite s.ws⟩ : Rw)] ++ kpAll (.slice oK n3 pK) kv ++ [(⟨163, 4, (.slice oB n4 pB), n4, flatBan s.bl⟩ : Rw)]) w w3) := fun j hj hne => (far j (Nat.lt_of_lt_of_le hj HB2.out.size) (fun r hr => hne r (by simp [hr]))).trans (HF2.out j hj hne)
  have hBw3 : B ≤ w3.heap.size := Nat.le_trans hBw2 bm.size
  clear hd bm far c2 HX2 HR2 
  rw [E2.out]
  have c3 : w3.cell? ⟨q, 3, none⟩ = some (.slice oB n4 pB) := (cell_of HX3.out 3).trans rfl
  go_wp2_with fail
  refine (markBanS_any oB n4 pB B s.bl _ (HR3.out.own (⟨163, 4, (.slice oB n4 pB), n4, flatBan s.bl⟩ : Rw) (by simp)) hBw3 K2 b2.1 b2.2).mono ?_
  rintro e w4 ⟨rfl, hd, bm, far⟩
  have HR4 : Hid (RowsO w4 B ([(⟨9, 1, (.slice oC n1 pC), n1, (mkT k0 s.cs n1).map Value.string⟩ : Rw), (⟨184, 2, (.slice oP n2 pP), n2, flatWrite (mkWrite (k0 + n1) s.ws n2)⟩ : Rw)] ++ kpAll (.slice oK n3 pK) (mkKs K1 kv) ++ [(⟨163, 4, (.slice oB n4 pB), n4, flatBan (mkBan K2 s.bl n4)⟩ : Rw)])) := by
    have h : RowsO w3 B (([(⟨9, 1, (.slice oC n1 pC), n1, (mkT k0 s.cs n1).map Value.string⟩ : Rw), (⟨184, 2, (.slice oP n2 pP), n2, flatWrite (mkWrite (k0 + n1) s.ws n2)⟩ : Rw)] ++ kpAll (.slice oK n3 pK) (mkKs K1 kv)) ++ [(⟨163, 4, (.slice oB n4 pB), n4, flatBan s.bl⟩ : Rw)] ++ []) := by rw [List.append_nil]; exact HR3.out
    have h2 := h.turns (xs' := [(⟨163, 4, (.slice oB n4 pB), n4, flatBan (mkBan K2 s.bl n4)⟩ : Rw)]) rfl (RowsO.one hd) (fun g hg hne => far g hg (hne (⟨163, 4, (.slice oB n4 pB), n4, flatBan s.bl⟩ : Rw) (by simp)))
    rw [List.append_nil] at h2
    exact h2
  have HB4 : Hid (Below B w w4) := HB3.out.trans bm
  have HF4 : Hid (FarR ([(⟨9, 1, (.slice oC n1 pC), n1, s.cs.map Value.string⟩ : Rw), (⟨184, 2, (.slice oP n2 pP), n2, flatWrite s.ws⟩ : Rw)] ++ kpAll (.slice oK n3 pK) kv ++ [(⟨163, 4, (.slice oB n4 pB), n4, flatBan s.bl⟩ : Rw)]) w w4) := fun j hj hne => (far j (Nat.lt_of_lt_of_le hj HB3.out.size) (hne (⟨163, 4, (.slice oB n4 pB), n4, flatBan s.bl⟩ : Rw) (by simp))).trans (HF3.out j hj hne)
  clear hd bm far c3 HX3 HR3
  rw [E3.out]
  go_wp2_with fail
  go_ret
  exact ⟨rfl, HR4.out, HB4.out, HF4.out⟩

end Go.Proofs.YtajccgffallajaaGreat

namespace Go.Proofs.YtajccgffallajaaGreat
open Go.RowKit
open Go.Lib hiding intOf

set_option maxHeartbeats 8000000 in
set_option maxRecDepth 100000 in
theorem markCache_go (s : ShD) (now : Int) (n1 n2 n3 n4 n5 n6 n7 : Nat) (oC oP oK oB oF oE oR : Option Addr) (pC pP pK pB pF pE pR : Nat) (kv : List (KpD × Value × Value × Value)) (fv : List FlV) (ev : List SeV) (rv : List RpV) (B : Nat) (w : World) (hL1 : s.cs.length = n1) (hL2 : s.ws.length = n2) (hL3 : kv.length = n3) (hL4 : s.bl.length = n4) (hL5 : fv.length = n5) (hL6 : ev.length = n6) (hL7 : rv.length = n7) (HR : Hid (RowsO w B (((([(⟨9, 1, (.slice oC n1 pC), n1, s.cs.map Value.string⟩ : Rw), (⟨184, 2, (.slice oP n2 pP), n2, flatWrite s.ws⟩ : Rw)] ++ kpAll (.slice oK n3 pK) kv ++ [(⟨163, 4, (.slice oB n4 pB), n4, flatBan s.bl⟩ : Rw)]) ++ flAll (.slice oF n5 pF) fv) ++ seAll (.slice oE n6 pE) ev) ++ rpAll (.slice oR n7 pR) rv))) (hB : B ≤ w.heap.size) (k0 : Nat) (hk0 : 1 ≤ k0) (hk : k0 + n1 + 2 * n2 + wms kv + 4 * n4 + wmsFl fv + wmsSe ev + wmsRp rv ≤ 99999998) (hn3 : n3 ≤ 2000000 ∧ n5 ≤ 2000000 ∧ n6 ≤ 2000000 ∧ n7 ≤ 2000000) (K1 K2 K3 K4 K5 K6 : Nat) (HK1 : Hid (K1 = k0 + n1 + 2 * n2)) (HK2 : Hid (K2 = K1 + wms kv)) (HK3 : Hid (K3 = K2 + 4 * n4)) (HK4 : Hid (K4 = K3 + wmsFl fv)) (HK5 : Hid (K5 = K4 + wmsSe ev)) (HK6 : Hid (K6 = K5 + wmsRp rv)) :
    Calls Tryz.prog 10 #[.agg #[(.slice oC n1 pC), (.slice oP n2 pP), (.slice oK n3 pK), (.slice oB n4 pB), .int .i64 s.nx, .int .i64 s.sq, (.slice oF n5 pF), .int .i64 now, (.slice oE n6 pE), (.slice oR n7 pR)], .int .i64 (k0 : Int)] w fun e w' => e = .returned (.int .i64 (K6 : Int)) ∧ RowsO w' B (((([(⟨9, 1, (.slice oC n1 pC), n1, (mkT k0 s.cs n1).map Value.string⟩ : Rw), (⟨184, 2, (.slice oP n2 pP), n2, flatWrite (mkWrite (k0 + n1) s.ws n2)⟩ : Rw)] ++ kpAll (.slice oK n3 pK) (mkKs K1 kv) ++ [(⟨163, 4, (.slice oB n4 pB), n4, flatBan (mkBan K2 s.bl n4)⟩ : Rw)]) ++ flAll (.slice oF n5 pF) (mkFls K3 fv)) ++ seAll (.slice oE n6 pE) (mkSes K4 ev)) ++ rpAll (.slice oR n7 pR) (mkRps K5 rv)) ∧ Below B w w' ∧ FarR (((([(⟨9, 1, (.slice oC n1 pC), n1, s.cs.map Value.string⟩ : Rw), (⟨184, 2, (.slice oP n2 pP), n2, flatWrite s.ws⟩ : Rw)] ++ kpAll (.slice oK n3 pK) kv ++ [(⟨163, 4, (.slice oB n4 pB), n4, flatBan s.bl⟩ : Rw)]) ++ flAll (.slice oF n5 pF) fv) ++ seAll (.slice oE n6 pE) ev) ++ rpAll (.slice oR n7 pR) rv) w w' := by
  have HL5 : Hid (fv.length = n5) := hL5
  have HL6 : Hid (ev.length = n6) := hL6
  have HL7 : Hid (rv.length = n7) := hL7
  have hks : k0 + n1 + 2 * n2 + wms kv + 4 * n4 ≤ 99999998 := by omega
  have b3 : 1 ≤ K3 ∧ K3 + wmsFl fv ≤ 99999998 := by have := HK1.out; have := HK2.out; have := HK3.out; omega
  have b4 : 1 ≤ K4 ∧ K4 + wmsSe ev ≤ 99999998 := by have := HK1.out; have := HK2.out; have := HK3.out; have := HK4.out; omega
  have b5 : 1 ≤ K5 ∧ K5 + wmsRp rv ≤ 99999998 := by have := HK1.out; have := HK2.out; have := HK3.out; have := HK4.out; have := HK5.out; omega
  have E4 : Hid (((K3 + wmsFl fv : Nat) : Int) = (K4 : Int)) := by show _ = _; rw [HK4.out]
  have E5 : Hid (((K4 + wmsSe ev : Nat) : Int) = (K5 : Int)) := by show _ = _; rw [HK5.out]
  have E6 : Hid (((K5 + wmsRp rv : Nat) : Int) = (K6 : Int)) := by show _ = _; rw [HK6.out]
  clear hL5 hL6 hL7 hk
  go_enter Tryz.func10, Tryz.ntmps10
  go_upto_region 1 with fail
  obtain ⟨q, hq⟩ : ∃ q, q = w.heap.size := ⟨_, rfl⟩
  obtain ⟨w1, hw1⟩ : ∃ W, W = w.alloc (.cells #[(.slice oC n1 pC), (.slice oP n2 pP), (.slice oK n3 pK), (.slice oB n4 pB), .int .i64 s.nx, .int .i64 s.sq, (.slice oF n5 pF), .int .i64 now, (.slice oE n6 pE), (.slice oR n7 pR)] 52) := ⟨_, rfl⟩
  rw [← hw1, ← hq]
  have HX1 : Hid (w1.heap[q]? = some (.cells #[(.slice oC n1 pC), (.slice oP n2 pP), (.slice oK n3 pK), (.slice oB n4 pB), .int .i64 s.nx, .int .i64 s.sq, (.slice oF n5 pF), .int .i64 now, (.slice oE n6 pE), (.slice oR n7 pR)] 52)) := by show _ = _; rw [hw1, hq]; exact heap_alloc_new _ _
  have bw1 : Below w.heap.size w w1 := by rw [hw1]; exact (Below.refl _ _).alloc (Nat.le_refl _) _
  have HQ : Hid (∀ r ∈ (((([(⟨9, 1, (.slice oC n1 pC), n1, s.cs.map Value.string⟩ : Rw), (⟨184, 2, (.slice oP n2 pP), n2, flatWrite s.ws⟩ : Rw)] ++ kpAll (.slice oK n3 pK) kv ++ [(⟨163, 4, (.slice oB n4 pB), n4, flatBan s.bl⟩ : Rw)]) ++ flAll (.slice oF n5 pF) fv) ++ seAll (.slice oE n6 pE) ev) ++ rpAll (.slice oR n7 pR) rv), r.v.ownBlock ≠ some q) := fun r hr e => by have h1 := HR.out.lt hr e; omega
  have HR1 : Hid (RowsO w1 B (((([(⟨9, 1, (.slice oC n1 pC), n1, s.cs.map Value.string⟩ : Rw), (⟨184, 2, (.slice oP n2 pP), n2, flatWrite s.ws⟩ : Rw)] ++ kpAll (.slice oK n3 pK) kv ++ [(⟨163, 4, (.slice oB n4 pB), n4, flatBan s.bl⟩ : Rw)]) ++ flAll (.slice oF n5 pF) fv) ++ seAll (.slice oE n6 pE) ev) ++ rpAll (.slice oR n7 pR) rv)) := HR.out.below bw1
  have HB1 : Hid (Below B w w1) := bw1.mono hB
  have HF1 : Hid (∀ j, j < w.heap.size → w1.heap[j]? = w.heap[j]?) := fun j hj => bw1.block j hj
  have hBw1 : B ≤ w1.heap.size := Nat.le_trans hB bw1.size
  have hqs : q < w1.heap.size := (Array.getElem?_eq_some_iff.1 HX1.out).1
  clear hw1 bw1 hq
  have c0 : w1.cell? ⟨q, 0, none⟩ = some ((.slice oC n1 pC)) := (cell_of HX1.out 0).trans rfl
  have c1 : w1.cell? ⟨q, 1, none⟩ = some ((.slice oP n2 pP)) := (cell_of HX1.out 1).trans rfl
  have c2 : w1.cell? ⟨q, 2, none⟩ = some ((.slice oK n3 pK)) := (cell_of HX1.out 2).trans rfl
  have c3 : w1.cell? ⟨q, 3, none⟩ = some ((.slice oB n4 pB)) := (cell_of HX1.out 3).trans rfl
  have c4 : w1.cell? ⟨q, 4, none⟩ = some (.int .i64 s.nx) := (cell_of HX1.out 4).trans rfl
  have c5 : w1.cell? ⟨q, 5, none⟩ = some (.int .i64 s.sq) := (cell_of HX1.out 5).trans rfl
  have HSH1 : Hid (RowsO w1 B ([(⟨9, 1, (.slice oC n1 pC), n1, s.cs.map Value.string⟩ : Rw), (⟨184, 2, (.slice oP n2 pP), n2, flatWrite s.ws⟩ : Rw)] ++ kpAll (.slice oK n3 pK) kv ++ [(⟨163, 4, (.slice oB n4 pB), n4, flatBan s.bl⟩ : Rw)])) := RowsO.sub HR1.out ((List.sublist_append_left _ _).trans ((List.sublist_append_left _ _).trans (List.sublist_append_left _ _)))
  go_wp2_with fail
  refine (markShelf_go s n1 n2 n3 n4 oC oP oK oB pC pP pK pB kv B _ hL1 hL2 hL3 hL4 HSH1 hBw1 k0 hk0 hks hn3.1 K1 K2 K3 HK1 HK2 HK3).mono ?_
  rintro e w2 ⟨rfl, mk, bm, far⟩
  have HX2 : Hid (w2.heap[q]? = some (.cells #[(.slice oC n1 pC), (.slice oP n2 pP), (.slice oK n3 pK), (.slice oB n4 pB), .int .i64 s.nx, .int .i64 s.sq, (.slice oF n5 pF), .int .i64 now, (.slice oE n6 pE), (.slice oR n7 pR)] 52)) := (far q hqs (fun r hr => HQ.out r (by simp only [List.mem_append] at hr ⊢; exact .inl (.inl (.inl hr))))).trans HX1.out
  have HR2 : Hid (RowsO w2 B (((([(⟨9, 1, (.slice oC n1 pC), n1, (mkT k0 s.cs n1).map Value.string⟩ : Rw), (⟨184, 2, (.slice oP n2 pP), n2, flatWrite (mkWrite (k0 + n1) s.ws n2)⟩ : Rw)] ++ kpAll (.slice oK n3 pK) (mkKs K1 kv) ++ [(⟨163, 4, (.slice oB n4 pB), n4, flatBan (mkBan K2 s.bl n4)⟩ : Rw)]) ++ flAll (.slice oF n5 pF) fv) ++ seAll (.slice oE n6 pE) ev) ++ rpAll (.slice oR n7 pR) rv)) := by
    have h0 := HR1.out
    have h1 := RowsO.turns (pre := []) (xs := ([(⟨9, 1, (.slice oC n1 pC), n1, s.cs.map Value.string⟩ : Rw), (⟨184, 2, (.slice oP n2 pP), n2, flatWrite s.ws⟩ : Rw)] ++ kpAll (.slice oK n3 pK) kv ++ [(⟨163, 4, (.slice oB n4 pB), n4, flatBan s.bl⟩ : Rw)])) (xs' := ([(⟨9, 1, (.slice oC n1 pC), n1, (mkT k0 s.cs n1).map Value.string⟩ : Rw), (⟨184, 2, (.slice oP n2 pP), n2, flatWrite (mkWrite (k0 + n1) s.ws n2)⟩ : Rw)] ++ kpAll (.slice oK n3 pK) (mkKs K1 kv) ++ [(⟨163, 4, (.slice oB n4 pB), n4, flatBan (mkBan K2 s.bl n4)⟩ : Rw)])) (post := flAll (.slice oF n5 pF) fv ++ (seAll (.slice oE n6 pE) ev ++ rpAll (.slice oR n7 pR) rv)) (by simpa only [List.append_assoc, List.nil_append] using h0) (by simp only [List.map_append, mkKs_v]; rfl) mk far
    show RowsO _ _ _
    simpa only [List.append_assoc, List.nil_append] using h1
  have HB2 : Hid (Below B w w2) := HB1.out.trans bm
  have HS2 : Hid (w1.heap.size ≤ w2.heap.size) := bm.size
  have HF2 : Hid (FarR (((([(⟨9, 1, (.slice oC n1 pC), n1, s.cs.map Value.string⟩ : Rw), (⟨184, 2, (.slice oP n2 pP), n2, flatWrite s.ws⟩ : Rw)] ++ kpAll (.slice oK n3 pK) kv ++ [(⟨163, 4, (.slice oB n4 pB), n4, flatBan s.bl⟩ : Rw)]) ++ flAll (.slice oF n5 pF) fv) ++ seAll (.slice oE n6 pE) ev) ++ rpAll (.slice oR n7 pR) rv) w w2) := fun j hj hne => (far j (Nat.lt_of_lt_of_le hj HB1.out.size) (fun r hr => hne r (by simp only [List.mem_append] at hr ⊢; exact .inl (.inl (.inl hr))))).trans (HF1.out j hj)
  clear mk bm far HX1 HR1 HB1 HF1 HSH1 c0 c1 c2 c3 c4 c5 hL1 hL2 hL3 hL4 hks
  have c6 : w2.cell? ⟨q, 6, none⟩ = some ((.slice oF n5 pF)) := (cell_of HX2.out 6).trans rfl
  go_wp2_with fail
  refine (markFlightS_any (.slice oF n5 pF) fv B _ (RowsO.sub HR2.out ((List.sublist_append_right _ _).trans ((List.sublist_append_left _ _).trans (List.sublist_append_left _ _)))) (Nat.le_trans hB HB2.out.size) K3 b3.1 b3.2 (by rw [HL5.out]; omega)).mono ?_
  rintro e w3 ⟨rfl, mk, bm, far⟩
  have HR3 : Hid (RowsO w3 B (((([(⟨9, 1, (.slice oC n1 pC), n1, (mkT k0 s.cs n1).map Value.string⟩ : Rw), (⟨184, 2, (.slice oP n2 pP), n2, flatWrite (mkWrite (k0 + n1) s.ws n2)⟩ : Rw)] ++ kpAll (.slice oK n3 pK) (mkKs K1 kv) ++ [(⟨163, 4, (.slice oB n4 pB), n4, flatBan (mkBan K2 s.bl n4)⟩ : Rw)]) ++ flAll (.slice oF n5 pF) (mkFls K3 fv)) ++ seAll (.slice oE n6 pE) ev) ++ rpAll (.slice oR n7 pR) rv)) := by
    have h0 := HR2.out
    have h1 := RowsO.turns (pre := ([(⟨9, 1, (.slice oC n1 pC), n1, (mkT k0 s.cs n1).map Value.string⟩ : Rw), (⟨184, 2, (.slice oP n2 pP), n2, flatWrite (mkWrite (k0 + n1) s.ws n2)⟩ : Rw)] ++ kpAll (.slice oK n3 pK) (mkKs K1 kv) ++ [(⟨163, 4, (.slice oB n4 pB), n4, flatBan (mkBan K2 s.bl n4)⟩ : Rw)])) (post := seAll (.slice oE n6 pE) ev ++ rpAll (.slice oR n7 pR) rv) (xs := flAll (.slice oF n5 pF) fv) (by simpa only [List.append_assoc, List.append_nil] using h0) (mkFls_v _ fv K3) mk far
    show RowsO _ _ _
    simpa only [List.append_assoc, List.append_nil] using h1
  have HX3 : Hid (w3.heap[q]? = some (.cells #[(.slice oC n1 pC), (.slice oP n2 pP), (.slice oK n3 pK), (.slice oB n4 pB), .int .i64 s.nx, .int .i64 s.sq, (.slice oF n5 pF), .int .i64 now, (.slice oE n6 pE), (.slice oR n7 pR)] 52)) := (far q (Nat.lt_of_lt_of_le hqs (Nat.le_trans HS2.out (Nat.le_refl _))) (fun r hr => HQ.out r (List.Sublist.mem hr ((List.sublist_append_right _ _).trans ((List.sublist_append_left _ _).trans (List.sublist_append_left _ _)))))).trans HX2.out
  have HB3 : Hid (Below B w w3) := HB2.out.trans bm
  have HS3 : Hid (w1.heap.size ≤ w3.heap.size) := Nat.le_trans HS2.out bm.size
  have HF3 : Hid (FarR (((([(⟨9, 1, (.slice oC n1 pC), n1, s.cs.map Value.string⟩ : Rw), (⟨184, 2, (.slice oP n2 pP), n2, flatWrite s.ws⟩ : Rw)] ++ kpAll (.slice oK n3 pK) kv ++ [(⟨163, 4, (.slice oB n4 pB), n4, flatBan s.bl⟩ : Rw)]) ++ flAll (.slice oF n5 pF) fv) ++ seAll (.slice oE n6 pE) ev) ++ rpAll (.slice oR n7 pR) rv) w w3) := fun j hj hne => (far j (Nat.lt_of_lt_of_le hj HB2.out.size) (fun r hr => hne r (List.Sublist.mem hr ((List.sublist_append_right _ _).trans ((List.sublist_append_left _ _).trans (List.sublist_append_left _ _)))))).trans (HF2.out j hj hne)
  clear mk bm far c6 HX2 HR2 HB2 HF2
  rw [E4.out]
  have c8 : w3.cell? ⟨q, 8, none⟩ = some ((.slice oE n6 pE)) := (cell_of HX3.out 8).trans rfl
  go_wp2_with fail
  refine (markSeenS_any (.slice oE n6 pE) ev B _ (RowsO.sub HR3.out ((List.sublist_append_right _ _).trans (List.sublist_append_left _ _))) (Nat.le_trans hB HB3.out.size) K4 b4.1 b4.2 (by rw [HL6.out]; omega)).mono ?_
  rintro e w4 ⟨rfl, mk, bm, far⟩
  have HR4 : Hid (RowsO w4 B (((([(⟨9, 1, (.slice oC n1 pC), n1, (mkT k0 s.cs n1).map Value.string⟩ : Rw), (⟨184, 2, (.slice oP n2 pP), n2, flatWrite (mkWrite (k0 + n1) s.ws n2)⟩ : Rw)] ++ kpAll (.slice oK n3 pK) (mkKs K1 kv) ++ [(⟨163, 4, (.slice oB n4 pB), n4, flatBan (mkBan K2 s.bl n4)⟩ : Rw)]) ++ flAll (.slice oF n5 pF) (mkFls K3 fv)) ++ seAll (.slice oE n6 pE) (mkSes K4 ev)) ++ rpAll (.slice oR n7 pR) rv)) := by
    have h0 := HR3.out
    have h1 := RowsO.turns (pre := ([(⟨9, 1, (.slice oC n1 pC), n1, (mkT k0 s.cs n1).map Value.string⟩ : Rw), (⟨184, 2, (.slice oP n2 pP), n2, flatWrite (mkWrite (k0 + n1) s.ws n2)⟩ : Rw)] ++ kpAll (.slice oK n3 pK) (mkKs K1 kv) ++ [(⟨163, 4, (.slice oB n4 pB), n4, flatBan (mkBan K2 s.bl n4)⟩ : Rw)]) ++ flAll (.slice oF n5 pF) (mkFls K3 fv)) (post := rpAll (.slice oR n7 pR) rv) (xs := seAll (.slice oE n6 pE) ev) (by simpa only [List.append_assoc, List.append_nil] using h0) (mkSes_v _ ev K4) mk far
    show RowsO _ _ _
    simpa only [List.append_assoc, List.append_nil] using h1
  have HX4 : Hid (w4.heap[q]? = some (.cells #[(.slice oC n1 pC), (.slice oP n2 pP), (.slice oK n3 pK), (.slice oB n4 pB), .int .i64 s.nx, .int .i64 s.sq, (.slice oF n5 pF), .int .i64 now, (.slice oE n6 pE), (.slice oR n7 pR)] 52)) := (far q (Nat.lt_of_lt_of_le hqs (Nat.le_trans HS3.out (Nat.le_refl _))) (fun r hr => HQ.out r (List.Sublist.mem hr ((List.sublist_append_right _ _).trans (List.sublist_append_left _ _))))).trans HX3.out
  have HB4 : Hid (Below B w w4) := HB3.out.trans bm
  have HS4 : Hid (w1.heap.size ≤ w4.heap.size) := Nat.le_trans HS3.out bm.size
  have HF4 : Hid (FarR (((([(⟨9, 1, (.slice oC n1 pC), n1, s.cs.map Value.string⟩ : Rw), (⟨184, 2, (.slice oP n2 pP), n2, flatWrite s.ws⟩ : Rw)] ++ kpAll (.slice oK n3 pK) kv ++ [(⟨163, 4, (.slice oB n4 pB), n4, flatBan s.bl⟩ : Rw)]) ++ flAll (.slice oF n5 pF) fv) ++ seAll (.slice oE n6 pE) ev) ++ rpAll (.slice oR n7 pR) rv) w w4) := fun j hj hne => (far j (Nat.lt_of_lt_of_le hj HB3.out.size) (fun r hr => hne r (List.Sublist.mem hr ((List.sublist_append_right _ _).trans (List.sublist_append_left _ _))))).trans (HF3.out j hj hne)
  clear mk bm far c8 HX3 HR3 HB3 HF3
  rw [E5.out]
  have c9 : w4.cell? ⟨q, 9, none⟩ = some ((.slice oR n7 pR)) := (cell_of HX4.out 9).trans rfl
  go_wp2_with fail
  refine (markReplyS_any (.slice oR n7 pR) rv B _ (RowsO.sub HR4.out (List.sublist_append_right _ _)) (Nat.le_trans hB HB4.out.size) K5 b5.1 b5.2 (by rw [HL7.out]; omega)).mono ?_
  rintro e w5 ⟨rfl, mk, bm, far⟩
  have HR5 : Hid (RowsO w5 B (((([(⟨9, 1, (.slice oC n1 pC), n1, (mkT k0 s.cs n1).map Value.string⟩ : Rw), (⟨184, 2, (.slice oP n2 pP), n2, flatWrite (mkWrite (k0 + n1) s.ws n2)⟩ : Rw)] ++ kpAll (.slice oK n3 pK) (mkKs K1 kv) ++ [(⟨163, 4, (.slice oB n4 pB), n4, flatBan (mkBan K2 s.bl n4)⟩ : Rw)]) ++ flAll (.slice oF n5 pF) (mkFls K3 fv)) ++ seAll (.slice oE n6 pE) (mkSes K4 ev)) ++ rpAll (.slice oR n7 pR) (mkRps K5 rv))) := by
    have h0 := HR4.out
    have h1 := RowsO.turns (pre := (([(⟨9, 1, (.slice oC n1 pC), n1, (mkT k0 s.cs n1).map Value.string⟩ : Rw), (⟨184, 2, (.slice oP n2 pP), n2, flatWrite (mkWrite (k0 + n1) s.ws n2)⟩ : Rw)] ++ kpAll (.slice oK n3 pK) (mkKs K1 kv) ++ [(⟨163, 4, (.slice oB n4 pB), n4, flatBan (mkBan K2 s.bl n4)⟩ : Rw)]) ++ flAll (.slice oF n5 pF) (mkFls K3 fv)) ++ seAll (.slice oE n6 pE) (mkSes K4 ev)) (post := []) (xs := rpAll (.slice oR n7 pR) rv) (by simpa only [List.append_assoc, List.append_nil] using h0) (mkRps_v _ rv K5) mk far
    show RowsO _ _ _
    simpa only [List.append_assoc, List.append_nil] using h1
  have HX5 : Hid (w5.heap[q]? = some (.cells #[(.slice oC n1 pC), (.slice oP n2 pP), (.slice oK n3 pK), (.slice oB n4 pB), .int .i64 s.nx, .int .i64 s.sq, (.slice oF n5 pF), .int .i64 now, (.slice oE n6 pE), (.slice oR n7 pR)] 52)) := (far q (Nat.lt_of_lt_of_le hqs (Nat.le_trans HS4.out (Nat.le_refl _))) (fun r hr => HQ.out r (List.Sublist.mem hr (List.sublist_append_right _ _)))).trans HX4.out
  have HB5 : Hid (Below B w w5) := HB4.out.trans bm
  have HS5 : Hid (w1.heap.size ≤ w5.heap.size) := Nat.le_trans HS4.out bm.size
  have HF5 : Hid (FarR (((([(⟨9, 1, (.slice oC n1 pC), n1, s.cs.map Value.string⟩ : Rw), (⟨184, 2, (.slice oP n2 pP), n2, flatWrite s.ws⟩ : Rw)] ++ kpAll (.slice oK n3 pK) kv ++ [(⟨163, 4, (.slice oB n4 pB), n4, flatBan s.bl⟩ : Rw)]) ++ flAll (.slice oF n5 pF) fv) ++ seAll (.slice oE n6 pE) ev) ++ rpAll (.slice oR n7 pR) rv) w w5) := fun j hj hne => (far j (Nat.lt_of_lt_of_le hj HB4.out.size) (fun r hr => hne r (List.Sublist.mem hr (List.sublist_append_right _ _)))).trans (HF4.out j hj hne)
  clear mk bm far c9 HX4 HR4 HB4 HF4
  rw [E6.out]
  go_wp2_with fail
  go_ret
  exact ⟨rfl, HR5.out, HB5.out, HF5.out⟩

theorem wmsFl_le : ∀ fv : List FlV, wmsFl fv ≤ fv.length * 8 + 2 * wtFl (fv.map (·.d))
  | [] => Nat.zero_le _
  | x :: r => by
    have h1 := wmsFl_le r
    rw [wmsFl, List.length_cons, List.map_cons, wtFl]
    unfold wmFl
    omega
theorem wmsSe_le : ∀ fv : List SeV, wmsSe fv ≤ fv.length * 6 + 2 * wtSe (fv.map (·.d))
  | [] => Nat.zero_le _
  | x :: r => by
    have h1 := wmsSe_le r
    rw [wmsSe, List.length_cons, List.map_cons, wtSe]
    unfold wmSe
    omega
theorem wmsRp_le : ∀ fv : List RpV, wmsRp fv ≤ fv.length * 13 + 2 * wtRp (fv.map (·.d))
  | [] => Nat.zero_le _
  | x :: r => by
    have h1 := wmsRp_le r
    rw [wmsRp, List.length_cons, List.map_cons, wtRp]
    unfold wmRp
    omega

/-- What a cache may hold to be marked. -/
structure CaMark (c : CaD) : Prop where
  n : c.s.ks.length ≤ 2000000 ∧ c.fl.length ≤ 2000000 ∧ c.se.length ≤ 2000000 ∧ c.sn.length ≤ 2000000
  m : ∀ (kv : List (KpD × Value × Value × Value)) (fv : List FlV) (ev : List SeV) (rv : List RpV), kv.map (·.1) = c.s.ks → fv.map (·.d) = c.fl → ev.map (·.d) = c.se → rv.map (·.d) = c.sn → 1 + c.s.cs.length + 2 * c.s.ws.length + wms kv + 4 * c.s.bl.length + wmsFl fv + wmsSe ev + wmsRp rv ≤ 99999998
/-- A cache is marked: what is none of its rows stays. -/
theorem markCache_far (v1 v2 V VB F E R : Value) (kv : List (KpD × Value × Value × Value)) (fv : List FlV) (ev : List SeV) (rv : List RpV) (c : CaD) (B : Nat) (w : World) (h : CacheO w B v1 v2 V VB F E R kv fv ev rv c) (hB : B ≤ w.heap.size) (hm : CaMark c) :
    Calls Tryz.prog 10 #[.agg #[v1, v2, V, VB, .int .i64 c.s.nx, .int .i64 c.s.sq, F, .int .i64 c.now, E, R], .int .i64 1] w fun e w' => ∃ K : Nat, e = .returned (.int .i64 (K : Int)) ∧ Below B w w' ∧ FarR (caAll v1 v2 V VB F E R kv fv ev rv c.s.cs c.s.ws c.s.bl) w w' := by
  obtain ⟨oC, pC, rfl⟩ := slice_of_owns h.shelf.disk.cells
  obtain ⟨oP, pP, rfl⟩ := slice_of_owns h.shelf.disk.pend
  obtain ⟨oK, pK, rfl⟩ := h.shelf.kept.len
  obtain ⟨oB, pB, rfl⟩ := slice_of_owns h.shelf.bans
  obtain ⟨oF, pF, rfl⟩ := h.fls.len
  obtain ⟨oE, pE, rfl⟩ := h.ses.len
  obtain ⟨oR, pR, rfl⟩ := h.rps.len
  have e3 : kv.length = c.s.ks.length := by rw [← h.hk, List.length_map]
  have e5 : fv.length = c.fl.length := by rw [← h.hf, List.length_map]
  have e6 : ev.length = c.se.length := by rw [← h.he, List.length_map]
  have e7 : rv.length = c.sn.length := by rw [← h.hr, List.length_map]
  obtain ⟨m3, m5, m6, m7⟩ := hm.n
  refine (markCache_go c.s c.now c.s.cs.length c.s.ws.length kv.length c.s.bl.length fv.length ev.length rv.length oC oP oK oB oF oE oR pC pP pK pB pF pE pR kv fv ev rv B w rfl rfl rfl rfl rfl rfl rfl h.rows hB 1 (Nat.le_refl _) (hm.m kv fv ev rv h.hk h.hf h.he h.hr) ⟨by omega, by omega, by omega, by omega⟩ _ _ _ _ _ _ rfl rfl rfl rfl rfl rfl).mono ?_
  rintro e w' ⟨h1, _, h3, h4⟩
  exact ⟨_, h1, h3, h4⟩

end Go.Proofs.YtajccgffallajaaGreat
