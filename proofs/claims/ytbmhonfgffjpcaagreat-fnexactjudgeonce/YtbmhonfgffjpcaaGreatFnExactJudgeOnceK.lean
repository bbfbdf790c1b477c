/- What the proof of FnExactJudgeOnce leans on: contracts of the program's and the specification's functions, and plain facts (part 11 of 11). -/
import Derived.Test.YtbmhonfgffjpcaaGreatFnExactJudgeOnceJ
set_option maxHeartbeats 16000000
set_option maxRecDepth 100000
namespace Go.Proofs.YtbmhonfgffjpcaaGreat
open Go.RowKit
open Go.Lib hiding intOf
/-- A list of Flight among the arguments. -/
theorem openFlightS {H : Type} {enc : TypeId × Value → H} {W : World} {fuel : Nat} {a : Option Addr} {n cap : Nat} {x : DataW H × List MemPlace} (h : DataW.trod enc Tryz.prog W 0 (fun _ => true) true fuel 30 [.slice a n cap] = some x) :
  ∃ ks, ArgFlight W W.heap.size a n ks ∧ n ≤ maxLen ∧ ∀ k ∈ ks, FlMax k := by
 rcases Go.Deep.open_slice Tryz.underlying30 h with ⟨hcs, _⟩ | ⟨ad, len, c, m, q, Dd, Pl, hcs, _, hl, hm, hmm, _, hx⟩
 ·
  simp at hcs
  obtain ⟨rfl, rfl, rfl⟩ := hcs
  exact ⟨[], ⟨rfl, fun i hi => absurd hi (by omega)⟩, Nat.zero_le _, fun x hx => by simp at hx⟩
 ·
  simp at hcs
  obtain ⟨rfl, rfl, rfl⟩ := hcs
  have hm2 : m = cap := by simpa using hmm
  have ce : Tryz.prog.cellsOf 116 = 13 := by kernel_rfl
  have cReq : Tryz.prog.cellsOf 37 = 4 := by kernel_rfl
  have cIntS : Tryz.prog.cellsOf 109 = 1 := by kernel_rfl
  have cObj : Tryz.prog.cellsOf 41 = 7 := by kernel_rfl
  have cb : Tryz.prog.cellsOf 4 = 1 := by kernel_rfl
  have each : ∀ i, i < n → ∃ y : FlD, (∃ (a2 : Option Addr) (c2 : Nat) (a4 : Option Addr) (c4 : Nat) (a6 : Option Addr) (c6 : Nat) (a7 : Option Addr) (c7 : Nat) (a9 : Option Addr) (c9 : Nat), (W.cell? (ad.add (i * 13 + 0)) = some (.int .i64 y.qmt) ∧ W.cell? (ad.add (i * 13 + 1)) = some (.string y.qpa) ∧ W.cell? (ad.add (i * 13 + 2)) = some (.slice a2 y.qfs.length c2) ∧ W.cell? (ad.add (i * 13 + 3)) = some (.string y.qbd) ∧ W.cell? (ad.add (i * 13 + 4)) = some (.slice a4 y.who.length c4) ∧ W.cell? (ad.add (i * 13 + 5)) = some (.string y.opa) ∧ W.cell? (ad.add (i * 13 + 6)) = some (.slice a6 y.oxs.length c6) ∧ W.cell? (ad.add (i * 13 + 7)) = some (.slice a7 y.oys.length c7) ∧ W.cell? (ad.add (i * 13 + 8)) = some (.int .i64 y.ost) ∧ W.cell? (ad.add (i * 13 + 9)) = some (.slice a9 y.ofs.length c9) ∧ W.cell? (ad.add (i * 13 + 10)) = some (.string y.obd) ∧ W.cell? (ad.add (i * 13 + 11)) = some (.int .i64 y.otm) ∧ W.cell? (ad.add (i * 13 + 12)) = some (.bool y.has)) ∧ ArgF W W.heap.size a2 y.qfs.length y.qfs ∧ ArgI W W.heap.size a4 y.who.length y.who ∧ ArgT W W.heap.size a6 y.oxs.length y.oxs ∧ ArgT W W.heap.size a7 y.oys.length y.oys ∧ ArgF W W.heap.size a9 y.ofs.length y.ofs) ∧ FlMax y := by
   intro i hi
   obtain ⟨cs', h1, h2⟩ := hx i (by omega)
   rw [ce] at h1
   obtain ⟨_, hlen, hcell⟩ := World.cells?_some h1
   obtain ⟨xs, k, hk, hxy, _, hxl, hf⟩ := DataW.trod_struct Tryz.underlying116 h2
   match xs, hxl, cs', hlen with
   | [x0, x1, x2, x3], _, [v0, v1, v2, v3, v4, v5, v6, v7, v8, v9, v10, v11, v12], _ =>
    have g0 := hf 0 _ rfl
    have g1 := hf 1 _ rfl
    have g2 := hf 2 _ rfl
    have g3 := hf 3 _ rfl
    simp [cReq, cIntS, cObj, cb] at g0 g1 g2 g3
    obtain ⟨qmt, qpa, qfs, qbd, a2, n2, c2, ⟨rfl, rfl, rfl, rfl⟩, w2, m2, s2, zqpa, zqbd⟩ := cellsReq g0
    obtain ⟨a4, n4, c4, rfl⟩ : ∃ a n cap, v4 = .slice a n cap := by
     rcases DataW.trod_slice Tryz.underlying109 g1 with ⟨h, _⟩ | ⟨a, n, cap, _, _, _, _, h, _⟩
     · exact ⟨none, 0, 0, by simpa using h⟩
     · exact ⟨_, n, cap, by simpa using h⟩
    obtain ⟨who, w4, m4⟩ := openIntsT g1
    obtain ⟨opa, a6, n6, c6, oxs, a7, n7, c7, oys, ost, a9, n9, c9, ofs, obd, otm, ⟨rfl, rfl, rfl, rfl, rfl, rfl, rfl⟩, w6, w7, w9, m6, m7, m9, s6, s7, s9, zopa, zobd⟩ := objCells g2
    obtain ⟨has, e3, _⟩ := DataW.trod_bool Tryz.underlying4 g3
    simp only [List.cons.injEq, and_true] at e3
    subst e3
    obtain rfl := w2.len
    obtain rfl := w4.len
    obtain rfl := w6.len
    obtain rfl := w7.len
    obtain rfl := w9.len
    have c0x := hcell 0 (by omega)
    have c1x := hcell 1 (by omega)
    have c2x := hcell 2 (by omega)
    have c3x := hcell 3 (by omega)
    have c4x := hcell 4 (by omega)
    have c5x := hcell 5 (by omega)
    have c6x := hcell 6 (by omega)
    have c7x := hcell 7 (by omega)
    have c8x := hcell 8 (by omega)
    have c9x := hcell 9 (by omega)
    have c10x := hcell 10 (by omega)
    have c11x := hcell 11 (by omega)
    have c12x := hcell 12 (by omega)
    rw [Go.Deep.add_add] at c0x c1x c2x c3x c4x c5x c6x c7x c8x c9x c10x c11x c12x
    refine ⟨⟨qmt, qpa, qfs, qbd, who, opa, oxs, oys, ost, ofs, obd, otm, has⟩, ⟨a2, c2, a4, c4, a6, c6, a7, c7, a9, c9, ⟨by simpa using c0x, by simpa using c1x, by simpa using c2x, by simpa using c3x, by simpa using c4x, by simpa using c5x, by simpa using c6x, by simpa using c7x, by simpa using c8x, by simpa using c9x, by simpa using c10x, by simpa using c11x, by simpa using c12x⟩, w2, w4, w6, w7, w9⟩, ⟨zqpa, ⟨m2, s2⟩, zqbd, m4, zopa, ⟨m6, s6⟩, ⟨m7, s7⟩, ⟨m9, s9⟩, zobd⟩⟩
  haveI : Inhabited FlD := ⟨zeroFl⟩
  obtain ⟨q, hq⟩ := Go.Deep.choose_lt each
  have hat : ∀ i, i < n → flAt ((List.range n).map q) i = q i := fun i hi => by
   unfold flAt
   rw [List.getD_eq_getElem?_getD, List.getElem?_map, List.getElem?_range hi]
   rfl
  refine ⟨(List.range n).map q, ⟨by simp, fun i hi => ?_⟩, by omega, fun x hx => ?_⟩
  ·
   obtain ⟨⟨a2, c2, a4, c4, a6, c6, a7, c7, a9, c9, cc, w2, w4, w6, w7, w9⟩, _⟩ := hq i hi
   have hsp : ad.spot = none := by
    obtain ⟨⟨_, _, _, _, _, _, _, _, _, _, c3, _⟩, _⟩ := hq 0 (by omega)
    have := World.cell?_spot c3.1
    simpa [Addr.add] using this
   obtain ⟨b, off, sp⟩ := ad
   simp only at hsp
   subst hsp
   simp only [addr_add] at cc
   rw [hat i hi]
   have hlt := World.block_lt_of_cell? W _ cc.1
   exact ⟨b, off, rfl, hlt, a2, c2, a4, c4, a6, c6, a7, c7, a9, c9, ⟨by simpa [Nat.add_assoc] using cc.1, by simpa [Nat.add_assoc] using cc.2.1, by simpa [Nat.add_assoc] using cc.2.2.1, by simpa [Nat.add_assoc] using cc.2.2.2.1, by simpa [Nat.add_assoc] using cc.2.2.2.2.1, by simpa [Nat.add_assoc] using cc.2.2.2.2.2.1, by simpa [Nat.add_assoc] using cc.2.2.2.2.2.2.1, by simpa [Nat.add_assoc] using cc.2.2.2.2.2.2.2.1, by simpa [Nat.add_assoc] using cc.2.2.2.2.2.2.2.2.1, by simpa [Nat.add_assoc] using cc.2.2.2.2.2.2.2.2.2.1, by simpa [Nat.add_assoc] using cc.2.2.2.2.2.2.2.2.2.2.1, by simpa [Nat.add_assoc] using cc.2.2.2.2.2.2.2.2.2.2.2.1, by simpa [Nat.add_assoc] using cc.2.2.2.2.2.2.2.2.2.2.2.2⟩, w2, w4, w6, w7, w9⟩
  ·
   obtain ⟨i, hi, rfl⟩ := List.mem_map.1 hx
   exact (hq i (List.mem_range.1 hi)).2
end Go.Proofs.YtbmhonfgffjpcaaGreat
namespace Go.Proofs.YtbmhonfgffjpcaaGreat
open Go.RowKit
open Go.Lib hiding intOf
/-- A list of Seen among the arguments. -/
theorem openSeenS {H : Type} {enc : TypeId × Value → H} {W : World} {fuel : Nat} {a : Option Addr} {n cap : Nat} {x : DataW H × List MemPlace} (h : DataW.trod enc Tryz.prog W 0 (fun _ => true) true fuel 31 [.slice a n cap] = some x) :
  ∃ ks, ArgSeen W W.heap.size a n ks ∧ n ≤ maxLen ∧ ∀ k ∈ ks, SeMax k := by
 rcases Go.Deep.open_slice Tryz.underlying31 h with ⟨hcs, _⟩ | ⟨ad, len, c, m, q, Dd, Pl, hcs, _, hl, hm, hmm, _, hx⟩
 ·
  simp at hcs
  obtain ⟨rfl, rfl, rfl⟩ := hcs
  exact ⟨[], ⟨rfl, fun i hi => absurd hi (by omega)⟩, Nat.zero_le _, fun x hx => by simp at hx⟩
 ·
  simp at hcs
  obtain ⟨rfl, rfl, rfl⟩ := hcs
  have hm2 : m = cap := by simpa using hmm
  have ce : Tryz.prog.cellsOf 119 = 8 := by kernel_rfl
  have cReq : Tryz.prog.cellsOf 37 = 4 := by kernel_rfl
  have cResp : Tryz.prog.cellsOf 39 = 3 := by kernel_rfl
  have ci : Tryz.prog.cellsOf 3 = 1 := by kernel_rfl
  have each : ∀ i, i < n → ∃ y : SeD, (∃ (a2 : Option Addr) (c2 : Nat) (a5 : Option Addr) (c5 : Nat), (W.cell? (ad.add (i * 8 + 0)) = some (.int .i64 y.qmt) ∧ W.cell? (ad.add (i * 8 + 1)) = some (.string y.qpa) ∧ W.cell? (ad.add (i * 8 + 2)) = some (.slice a2 y.qfs.length c2) ∧ W.cell? (ad.add (i * 8 + 3)) = some (.string y.qbd) ∧ W.cell? (ad.add (i * 8 + 4)) = some (.int .i64 y.rst) ∧ W.cell? (ad.add (i * 8 + 5)) = some (.slice a5 y.rfs.length c5) ∧ W.cell? (ad.add (i * 8 + 6)) = some (.string y.rbd) ∧ W.cell? (ad.add (i * 8 + 7)) = some (.int .i64 y.tim)) ∧ ArgF W W.heap.size a2 y.qfs.length y.qfs ∧ ArgF W W.heap.size a5 y.rfs.length y.rfs) ∧ SeMax y := by
   intro i hi
   obtain ⟨cs', h1, h2⟩ := hx i (by omega)
   rw [ce] at h1
   obtain ⟨_, hlen, hcell⟩ := World.cells?_some h1
   obtain ⟨xs, k, hk, hxy, _, hxl, hf⟩ := DataW.trod_struct Tryz.underlying119 h2
   match xs, hxl, cs', hlen with
   | [x0, x1, x2], _, [v0, v1, v2, v3, v4, v5, v6, v7], _ =>
    have g0 := hf 0 _ rfl
    have g1 := hf 1 _ rfl
    have g2 := hf 2 _ rfl
    simp [cReq, cResp, ci] at g0 g1 g2
    obtain ⟨qmt, qpa, qfs, qbd, a2, n2, c2, ⟨rfl, rfl, rfl, rfl⟩, w2, m2, s2, zqpa, zqbd⟩ := cellsReq g0
    obtain ⟨rst, rfs, rbd, a5, n5, c5, ⟨rfl, rfl, rfl⟩, w5, m5, s5, zrbd⟩ := cellsResp g1
    obtain ⟨tim, e2, _, _⟩ := DataW.trod_int Tryz.underlying3 g2
    simp only [List.cons.injEq, and_true] at e2
    subst e2
    obtain rfl := w2.len
    obtain rfl := w5.len
    have c0x := hcell 0 (by omega)
    have c1x := hcell 1 (by omega)
    have c2x := hcell 2 (by omega)
    have c3x := hcell 3 (by omega)
    have c4x := hcell 4 (by omega)
    have c5x := hcell 5 (by omega)
    have c6x := hcell 6 (by omega)
    have c7x := hcell 7 (by omega)
    rw [Go.Deep.add_add] at c0x c1x c2x c3x c4x c5x c6x c7x
    refine ⟨⟨qmt, qpa, qfs, qbd, rst, rfs, rbd, tim⟩, ⟨a2, c2, a5, c5, ⟨by simpa using c0x, by simpa using c1x, by simpa using c2x, by simpa using c3x, by simpa using c4x, by simpa using c5x, by simpa using c6x, by simpa using c7x⟩, w2, w5⟩, ⟨zqpa, ⟨m2, s2⟩, zqbd, ⟨m5, s5⟩, zrbd⟩⟩
  haveI : Inhabited SeD := ⟨zeroSe⟩
  obtain ⟨q, hq⟩ := Go.Deep.choose_lt each
  have hat : ∀ i, i < n → seAt ((List.range n).map q) i = q i := fun i hi => by
   unfold seAt
   rw [List.getD_eq_getElem?_getD, List.getElem?_map, List.getElem?_range hi]
   rfl
  refine ⟨(List.range n).map q, ⟨by simp, fun i hi => ?_⟩, by omega, fun x hx => ?_⟩
  ·
   obtain ⟨⟨a2, c2, a5, c5, cc, w2, w5⟩, _⟩ := hq i hi
   have hsp : ad.spot = none := by
    obtain ⟨⟨_, _, _, _, c3, _⟩, _⟩ := hq 0 (by omega)
    have := World.cell?_spot c3.1
    simpa [Addr.add] using this
   obtain ⟨b, off, sp⟩ := ad
   simp only at hsp
   subst hsp
   simp only [addr_add] at cc
   rw [hat i hi]
   have hlt := World.block_lt_of_cell? W _ cc.1
   exact ⟨b, off, rfl, hlt, a2, c2, a5, c5, ⟨by simpa [Nat.add_assoc] using cc.1, by simpa [Nat.add_assoc] using cc.2.1, by simpa [Nat.add_assoc] using cc.2.2.1, by simpa [Nat.add_assoc] using cc.2.2.2.1, by simpa [Nat.add_assoc] using cc.2.2.2.2.1, by simpa [Nat.add_assoc] using cc.2.2.2.2.2.1, by simpa [Nat.add_assoc] using cc.2.2.2.2.2.2.1, by simpa [Nat.add_assoc] using cc.2.2.2.2.2.2.2⟩, w2, w5⟩
  ·
   obtain ⟨i, hi, rfl⟩ := List.mem_map.1 hx
   exact (hq i (List.mem_range.1 hi)).2
end Go.Proofs.YtbmhonfgffjpcaaGreat
namespace Go.Proofs.YtbmhonfgffjpcaaGreat
open Go.RowKit
open Go.Lib hiding intOf
/-- A list of Reply among the arguments. -/
theorem openReplyS {H : Type} {enc : TypeId × Value → H} {W : World} {fuel : Nat} {a : Option Addr} {n cap : Nat} {x : DataW H × List MemPlace} (h : DataW.trod enc Tryz.prog W 0 (fun _ => true) true fuel 32 [.slice a n cap] = some x) :
  ∃ ks, ArgReply W W.heap.size a n ks ∧ n ≤ maxLen ∧ ∀ k ∈ ks, RpMax k := by
 rcases Go.Deep.open_slice Tryz.underlying32 h with ⟨hcs, _⟩ | ⟨ad, len, c, m, q, Dd, Pl, hcs, _, hl, hm, hmm, _, hx⟩
 ·
  simp at hcs
  obtain ⟨rfl, rfl, rfl⟩ := hcs
  exact ⟨[], ⟨rfl, fun i hi => absurd hi (by omega)⟩, Nat.zero_le _, fun x hx => by simp at hx⟩
 ·
  simp at hcs
  obtain ⟨rfl, rfl, rfl⟩ := hcs
  have hm2 : m = cap := by simpa using hmm
  have ce : Tryz.prog.cellsOf 43 = 18 := by kernel_rfl
  have ci : Tryz.prog.cellsOf 3 = 1 := by kernel_rfl
  have cReq : Tryz.prog.cellsOf 37 = 4 := by kernel_rfl
  have cResp : Tryz.prog.cellsOf 39 = 3 := by kernel_rfl
  have cObj : Tryz.prog.cellsOf 41 = 7 := by kernel_rfl
  have each : ∀ i, i < n → ∃ y : RpD, (∃ (a3 : Option Addr) (c3 : Nat) (a6 : Option Addr) (c6 : Nat) (a11 : Option Addr) (c11 : Nat) (a12 : Option Addr) (c12 : Nat) (a14 : Option Addr) (c14 : Nat), (W.cell? (ad.add (i * 18 + 0)) = some (.int .i64 y.cli) ∧ W.cell? (ad.add (i * 18 + 1)) = some (.int .i64 y.qmt) ∧ W.cell? (ad.add (i * 18 + 2)) = some (.string y.qpa) ∧ W.cell? (ad.add (i * 18 + 3)) = some (.slice a3 y.qfs.length c3) ∧ W.cell? (ad.add (i * 18 + 4)) = some (.string y.qbd) ∧ W.cell? (ad.add (i * 18 + 5)) = some (.int .i64 y.rst) ∧ W.cell? (ad.add (i * 18 + 6)) = some (.slice a6 y.rfs.length c6) ∧ W.cell? (ad.add (i * 18 + 7)) = some (.string y.rbd) ∧ W.cell? (ad.add (i * 18 + 8)) = some (.int .i64 y.knd) ∧ W.cell? (ad.add (i * 18 + 9)) = some (.int .i64 y.tim) ∧ W.cell? (ad.add (i * 18 + 10)) = some (.string y.opa) ∧ W.cell? (ad.add (i * 18 + 11)) = some (.slice a11 y.oxs.length c11) ∧ W.cell? (ad.add (i * 18 + 12)) = some (.slice a12 y.oys.length c12) ∧ W.cell? (ad.add (i * 18 + 13)) = some (.int .i64 y.ost) ∧ W.cell? (ad.add (i * 18 + 14)) = some (.slice a14 y.ofs.length c14) ∧ W.cell? (ad.add (i * 18 + 15)) = some (.string y.obd) ∧ W.cell? (ad.add (i * 18 + 16)) = some (.int .i64 y.otm) ∧ W.cell? (ad.add (i * 18 + 17)) = some (.int .i64 y.bns)) ∧ ArgF W W.heap.size a3 y.qfs.length y.qfs ∧ ArgF W W.heap.size a6 y.rfs.length y.rfs ∧ ArgT W W.heap.size a11 y.oxs.length y.oxs ∧ ArgT W W.heap.size a12 y.oys.length y.oys ∧ ArgF W W.heap.size a14 y.ofs.length y.ofs) ∧ RpMax y := by
   intro i hi
   obtain ⟨cs', h1, h2⟩ := hx i (by omega)
   rw [ce] at h1
   obtain ⟨_, hlen, hcell⟩ := World.cells?_some h1
   obtain ⟨xs, k, hk, hxy, _, hxl, hf⟩ := DataW.trod_struct Tryz.underlying43 h2
   match xs, hxl, cs', hlen with
   | [x0, x1, x2, x3, x4, x5, x6], _, [v0, v1, v2, v3, v4, v5, v6, v7, v8, v9, v10, v11, v12, v13, v14, v15, v16, v17], _ =>
    have g0 := hf 0 _ rfl
    have g1 := hf 1 _ rfl
    have g2 := hf 2 _ rfl
    have g3 := hf 3 _ rfl
    have g4 := hf 4 _ rfl
    have g5 := hf 5 _ rfl
    have g6 := hf 6 _ rfl
    simp [ci, cReq, cResp, cObj] at g0 g1 g2 g3 g4 g5 g6
    obtain ⟨cli, e0, _, _⟩ := DataW.trod_int Tryz.underlying3 g0
    simp only [List.cons.injEq, and_true] at e0
    subst e0
    obtain ⟨qmt, qpa, qfs, qbd, a3, n3, c3, ⟨rfl, rfl, rfl, rfl⟩, w3, m3, s3, zqpa, zqbd⟩ := cellsReq g1
    obtain ⟨rst, rfs, rbd, a6, n6, c6, ⟨rfl, rfl, rfl⟩, w6, m6, s6, zrbd⟩ := cellsResp g2
    obtain ⟨knd, e3, _, _⟩ := DataW.trod_int Tryz.underlying3 g3
    simp only [List.cons.injEq, and_true] at e3
    subst e3
    obtain ⟨tim, e4, _, _⟩ := DataW.trod_int Tryz.underlying3 g4
    simp only [List.cons.injEq, and_true] at e4
    subst e4
    obtain ⟨opa, a11, n11, c11, oxs, a12, n12, c12, oys, ost, a14, n14, c14, ofs, obd, otm, ⟨rfl, rfl, rfl, rfl, rfl, rfl, rfl⟩, w11, w12, w14, m11, m12, m14, s11, s12, s14, zopa, zobd⟩ := objCells g5
    obtain ⟨bns, e6, _, _⟩ := DataW.trod_int Tryz.underlying3 g6
    simp only [List.cons.injEq, and_true] at e6
    subst e6
    obtain rfl := w3.len
    obtain rfl := w6.len
    obtain rfl := w11.len
    obtain rfl := w12.len
    obtain rfl := w14.len
    have c0x := hcell 0 (by omega)
    have c1x := hcell 1 (by omega)
    have c2x := hcell 2 (by omega)
    have c3x := hcell 3 (by omega)
    have c4x := hcell 4 (by omega)
    have c5x := hcell 5 (by omega)
    have c6x := hcell 6 (by omega)
    have c7x := hcell 7 (by omega)
    have c8x := hcell 8 (by omega)
    have c9x := hcell 9 (by omega)
    have c10x := hcell 10 (by omega)
    have c11x := hcell 11 (by omega)
    have c12x := hcell 12 (by omega)
    have c13x := hcell 13 (by omega)
    have c14x := hcell 14 (by omega)
    have c15x := hcell 15 (by omega)
    have c16x := hcell 16 (by omega)
    have c17x := hcell 17 (by omega)
    rw [Go.Deep.add_add] at c0x c1x c2x c3x c4x c5x c6x c7x c8x c9x c10x c11x c12x c13x c14x c15x c16x c17x
    refine ⟨⟨cli, qmt, qpa, qfs, qbd, rst, rfs, rbd, knd, tim, opa, oxs, oys, ost, ofs, obd, otm, bns⟩, ⟨a3, c3, a6, c6, a11, c11, a12, c12, a14, c14, ⟨by simpa using c0x, by simpa using c1x, by simpa using c2x, by simpa using c3x, by simpa using c4x, by simpa using c5x, by simpa using c6x, by simpa using c7x, by simpa using c8x, by simpa using c9x, by simpa using c10x, by simpa using c11x, by simpa using c12x, by simpa using c13x, by simpa using c14x, by simpa using c15x, by simpa using c16x, by simpa using c17x⟩, w3, w6, w11, w12, w14⟩, ⟨zqpa, ⟨m3, s3⟩, zqbd, ⟨m6, s6⟩, zrbd, zopa, ⟨m11, s11⟩, ⟨m12, s12⟩, ⟨m14, s14⟩, zobd⟩⟩
  haveI : Inhabited RpD := ⟨zeroRp⟩
  obtain ⟨q, hq⟩ := Go.Deep.choose_lt each
  have hat : ∀ i, i < n → rpAt ((List.range n).map q) i = q i := fun i hi => by
   unfold rpAt
   rw [List.getD_eq_getElem?_getD, List.getElem?_map, List.getElem?_range hi]
   rfl
  refine ⟨(List.range n).map q, ⟨by simp, fun i hi => ?_⟩, by omega, fun x hx => ?_⟩
  ·
   obtain ⟨⟨a3, c3, a6, c6, a11, c11, a12, c12, a14, c14, cc, w3, w6, w11, w12, w14⟩, _⟩ := hq i hi
   have hsp : ad.spot = none := by
    obtain ⟨⟨_, _, _, _, _, _, _, _, _, _, c3, _⟩, _⟩ := hq 0 (by omega)
    have := World.cell?_spot c3.1
    simpa [Addr.add] using this
   obtain ⟨b, off, sp⟩ := ad
   simp only at hsp
   subst hsp
   simp only [addr_add] at cc
   rw [hat i hi]
   have hlt := World.block_lt_of_cell? W _ cc.1
   exact ⟨b, off, rfl, hlt, a3, c3, a6, c6, a11, c11, a12, c12, a14, c14, ⟨by simpa [Nat.add_assoc] using cc.1, by simpa [Nat.add_assoc] using cc.2.1, by simpa [Nat.add_assoc] using cc.2.2.1, by simpa [Nat.add_assoc] using cc.2.2.2.1, by simpa [Nat.add_assoc] using cc.2.2.2.2.1, by simpa [Nat.add_assoc] using cc.2.2.2.2.2.1, by simpa [Nat.add_assoc] using cc.2.2.2.2.2.2.1, by simpa [Nat.add_assoc] using cc.2.2.2.2.2.2.2.1, by simpa [Nat.add_assoc] using cc.2.2.2.2.2.2.2.2.1, by simpa [Nat.add_assoc] using cc.2.2.2.2.2.2.2.2.2.1, by simpa [Nat.add_assoc] using cc.2.2.2.2.2.2.2.2.2.2.1, by simpa [Nat.add_assoc] using cc.2.2.2.2.2.2.2.2.2.2.2.1, by simpa [Nat.add_assoc] using cc.2.2.2.2.2.2.2.2.2.2.2.2.1, by simpa [Nat.add_assoc] using cc.2.2.2.2.2.2.2.2.2.2.2.2.2.1, by simpa [Nat.add_assoc] using cc.2.2.2.2.2.2.2.2.2.2.2.2.2.2.1, by simpa [Nat.add_assoc] using cc.2.2.2.2.2.2.2.2.2.2.2.2.2.2.2.1, by simpa [Nat.add_assoc] using cc.2.2.2.2.2.2.2.2.2.2.2.2.2.2.2.2.1, by simpa [Nat.add_assoc] using cc.2.2.2.2.2.2.2.2.2.2.2.2.2.2.2.2.2⟩, w3, w6, w11, w12, w14⟩
  ·
   obtain ⟨i, hi, rfl⟩ := List.mem_map.1 hx
   exact (hq i (List.mem_range.1 hi)).2
end Go.Proofs.YtbmhonfgffjpcaaGreat
namespace Go.Proofs.YtbmhonfgffjpcaaGreat
open Go.RowKit Go.WideShapes
open Go.Lib hiding intOf
/-- A store's six cells among the arguments. -/
theorem cellsShelf {H : Type} {enc : TypeId × Value → H} {W : World} {fuel : Nat} {d0 d1 d2 d3 d4 d5 : Value} {x : DataW H × List MemPlace} (hf : DataW.trod enc Tryz.prog W 0 (fun _ => true) true fuel 29 [d0, d1, d2, d3, d4, d5] = some x) :
  ∃ (a1 : Option Addr) (n1 c1 : Nat) (cs : List ByteArray) (a2 : Option Addr) (n2 c2 : Nat) (ws : List (Int × ByteArray)) (a3 : Option Addr) (n3 c3 : Nat) (ks : List KpD) (a4 : Option Addr) (n4 c4 : Nat) (bl : List (Int × ByteArray × ByteArray × Int)) (nx sq : Int), (d0 = .slice a1 n1 c1 ∧ d1 = .slice a2 n2 c2 ∧ d2 = .slice a3 n3 c3 ∧ d3 = .slice a4 n4 c4 ∧ d4 = .int .i64 nx ∧ d5 = .int .i64 sq) ∧ ArgT W W.heap.size a1 n1 cs ∧ ArgWrite W W.heap.size a2 n2 ws ∧ ArgKept W W.heap.size a3 n3 ks ∧ ArgBan W W.heap.size a4 n4 bl ∧ (n1 ≤ maxLen ∧ n2 ≤ maxLen ∧ n3 ≤ maxLen ∧ n4 ≤ maxLen ∧ (∀ i, i < n1 → (textAt cs i).size ≤ maxLen) ∧ (∀ x ∈ ws, (x.2).size ≤ maxLen) ∧ (∀ k ∈ ks, KpMax k) ∧ ∀ x ∈ bl, (x.2.1).size ≤ maxLen ∧ (x.2.2.1).size ≤ maxLen) := by
 obtain ⟨ys, q, _, _, _, hyl, hg⟩ := DataW.trod_struct Tryz.underlying29 hf
 have hcD : Tryz.prog.cellsOf 25 = 2 := by kernel_rfl
 have e3 : Tryz.prog.cellsOf 3 = 1 := by kernel_rfl
 have eK : Tryz.prog.cellsOf 26 = 1 := by kernel_rfl
 have eB : Tryz.prog.cellsOf 27 = 1 := by kernel_rfl
 have eS : Tryz.prog.cellsOf 22 = 1 := by kernel_rfl
 have eW : Tryz.prog.cellsOf 23 = 1 := by kernel_rfl
 have g0 := hg 0 _ rfl
 have g1 := hg 1 _ rfl
 have g2 := hg 2 _ rfl
 have g3 := hg 3 _ rfl
 have g4 := hg 4 _ rfl
 simp [e3, eK, eB, hcD] at g0 g1 g2 g3 g4
 have hy5 : ys.length = 5 := hyl
 rw [List.getElem?_eq_getElem (show 0 < ys.length by omega)] at g0
 rw [List.getElem?_eq_getElem (show 1 < ys.length by omega)] at g1
 rw [List.getElem?_eq_getElem (show 2 < ys.length by omega)] at g2
 rw [List.getElem?_eq_getElem (show 3 < ys.length by omega)] at g3
 rw [List.getElem?_eq_getElem (show 4 < ys.length by omega)] at g4
 obtain ⟨zs, q2, _, _, _, hzl, hk⟩ := DataW.trod_struct Tryz.underlying25 g0
 have k0 := hk 0 _ rfl
 have k1 := hk 1 _ rfl
 simp [eS, eW] at k0 k1
 have hz2 : zs.length = 2 := hzl
 rw [List.getElem?_eq_getElem (show 0 < zs.length by omega)] at k0
 rw [List.getElem?_eq_getElem (show 1 < zs.length by omega)] at k1
 obtain ⟨a1, n1, c1, rfl⟩ : ∃ a n cap, d0 = .slice a n cap := by
  rcases DataW.trod_slice Tryz.underlying22 k0 with ⟨h, _⟩ | ⟨a, n, cap, _, _, _, _, h, _⟩
  · exact ⟨none, 0, 0, by simpa using h⟩
  · exact ⟨_, n, cap, by simpa using h⟩
 obtain ⟨a2, n2, c2, rfl⟩ : ∃ a n cap, d1 = .slice a n cap := by
  rcases DataW.trod_slice Tryz.underlying23 k1 with ⟨h, _⟩ | ⟨a, n, cap, _, _, _, _, h, _⟩
  · exact ⟨none, 0, 0, by simpa using h⟩
  · exact ⟨_, n, cap, by simpa using h⟩
 obtain ⟨a3, n3, c3, rfl⟩ : ∃ a n cap, d2 = .slice a n cap := by
  rcases DataW.trod_slice Tryz.underlying26 g1 with ⟨h, _⟩ | ⟨a, n, cap, _, _, _, _, h, _⟩
  · exact ⟨none, 0, 0, by simpa using h⟩
  · exact ⟨_, n, cap, by simpa using h⟩
 obtain ⟨a4, n4, c4, rfl⟩ : ∃ a n cap, d3 = .slice a n cap := by
  rcases DataW.trod_slice Tryz.underlying27 g2 with ⟨h, _⟩ | ⟨a, n, cap, _, _, _, _, h, _⟩
  · exact ⟨none, 0, 0, by simpa using h⟩
  · exact ⟨_, n, cap, by simpa using h⟩
 obtain ⟨nx, h4, _, _⟩ := DataW.trod_int Tryz.underlying3 g3
 obtain ⟨sq, h5, _, _⟩ := DataW.trod_int Tryz.underlying3 g4
 obtain ⟨xs, x1, x2, x3⟩ := openTexts k0
 obtain ⟨ws, y1, y2, y3⟩ := openWriteS k1
 obtain ⟨ks, z1, z2, z3⟩ := openKeptS g1
 obtain ⟨bl, b1, b2, b3⟩ := openBanS g2
 simp only [List.cons.injEq, and_true] at h4 h5
 subst h4 h5
 exact ⟨a1, n1, c1, xs, a2, n2, c2, ws, a3, n3, c3, ks, a4, n4, c4, bl, nx, sq, ⟨rfl, rfl, rfl, rfl, rfl, rfl⟩, x1, y1, z1, b1, x2, y2, z2, b2, x3, y3, z3, b3⟩
/-- A cache among the arguments: what it holds. -/
theorem openCache {H : Type} {enc : TypeId × Value → H} {W : World} {r : Reach} {b0 : Nat} {v : Value} {d : DataW H} {ps : List MemPlace} (hval : Value.okWide Tryz.prog W r b0 34 v) (h : DataW.Trod enc Tryz.prog W 0 (fun _ => true) true 34 v d ps) :
  ∃ (a1 : Option Addr) (n1 c1 : Nat) (cs : List ByteArray) (a2 : Option Addr) (n2 c2 : Nat) (ws : List (Int × ByteArray)) (a3 : Option Addr) (n3 c3 : Nat) (ks : List KpD) (a4 : Option Addr) (n4 c4 : Nat) (bl : List (Int × ByteArray × ByteArray × Int)) (nx sq : Int) (a5 : Option Addr) (n5 c5 : Nat) (fl : List FlD) (now : Int) (a6 : Option Addr) (n6 c6 : Nat) (se : List SeD) (a7 : Option Addr) (n7 c7 : Nat) (sn : List RpD), v = .agg #[.slice a1 n1 c1, .slice a2 n2 c2, .slice a3 n3 c3, .slice a4 n4 c4, .int .i64 nx, .int .i64 sq, .slice a5 n5 c5, .int .i64 now, .slice a6 n6 c6, .slice a7 n7 c7] ∧ ArgT W W.heap.size a1 n1 cs ∧ ArgWrite W W.heap.size a2 n2 ws ∧ ArgKept W W.heap.size a3 n3 ks ∧ ArgBan W W.heap.size a4 n4 bl ∧ ArgFlight W W.heap.size a5 n5 fl ∧ ArgSeen W W.heap.size a6 n6 se ∧ ArgReply W W.heap.size a7 n7 sn ∧ ((n1 ≤ maxLen ∧ n2 ≤ maxLen ∧ n3 ≤ maxLen ∧ n4 ≤ maxLen ∧ (∀ i, i < n1 → (textAt cs i).size ≤ maxLen) ∧ (∀ x ∈ ws, (x.2).size ≤ maxLen) ∧ (∀ k ∈ ks, KpMax k) ∧ ∀ x ∈ bl, (x.2.1).size ≤ maxLen ∧ (x.2.2.1).size ≤ maxLen) ∧ (n5 ≤ maxLen ∧ ∀ k ∈ fl, FlMax k) ∧ (n6 ≤ maxLen ∧ ∀ k ∈ se, SeMax k) ∧ n7 ≤ maxLen ∧ ∀ k ∈ sn, RpMax k) := by
 obtain ⟨cs, rfl, hsz⟩ := okWide_struct Tryz.underlying34 hval
 obtain ⟨fuel, hf⟩ := h
 obtain ⟨ys, q, _, _, _, hyl, hg⟩ := DataW.trod_struct Tryz.underlying34 hf
 have hcC : Tryz.prog.cellsOf 34 = 10 := by kernel_rfl
 have hcH : Tryz.prog.cellsOf 29 = 6 := by kernel_rfl
 have e3 : Tryz.prog.cellsOf 3 = 1 := by kernel_rfl
 have eF : Tryz.prog.cellsOf 30 = 1 := by kernel_rfl
 have eS : Tryz.prog.cellsOf 31 = 1 := by kernel_rfl
 have eR : Tryz.prog.cellsOf 32 = 1 := by kernel_rfl
 rw [hcC] at hsz
 obtain ⟨l⟩ := cs
 obtain ⟨d0, d1, d2, d3, d4, d5, d6, d7, d8, d9, rfl⟩ : ∃ d0 d1 d2 d3 d4 d5 d6 d7 d8 d9, l = [d0, d1, d2, d3, d4, d5, d6, d7, d8, d9] := by
  match l, hsz with
  | [d0, d1, d2, d3, d4, d5, d6, d7, d8, d9], _ => exact ⟨d0, d1, d2, d3, d4, d5, d6, d7, d8, d9, rfl⟩
 have g0 := hg 0 _ rfl
 have g1 := hg 1 _ rfl
 have g2 := hg 2 _ rfl
 have g3 := hg 3 _ rfl
 have g4 := hg 4 _ rfl
 simp [Value.cells, e3, eF, eS, eR, hcH] at g0 g1 g2 g3 g4
 have hy5 : ys.length = 5 := hyl
 rw [List.getElem?_eq_getElem (show 0 < ys.length by omega)] at g0
 rw [List.getElem?_eq_getElem (show 1 < ys.length by omega)] at g1
 rw [List.getElem?_eq_getElem (show 2 < ys.length by omega)] at g2
 rw [List.getElem?_eq_getElem (show 3 < ys.length by omega)] at g3
 rw [List.getElem?_eq_getElem (show 4 < ys.length by omega)] at g4
 obtain ⟨a5, n5, c5, rfl⟩ : ∃ a n cap, d6 = .slice a n cap := by
  rcases DataW.trod_slice Tryz.underlying30 g1 with ⟨h, _⟩ | ⟨a, n, cap, _, _, _, _, h, _⟩
  · exact ⟨none, 0, 0, by simpa using h⟩
  · exact ⟨_, n, cap, by simpa using h⟩
 obtain ⟨a6, n6, c6, rfl⟩ : ∃ a n cap, d8 = .slice a n cap := by
  rcases DataW.trod_slice Tryz.underlying31 g3 with ⟨h, _⟩ | ⟨a, n, cap, _, _, _, _, h, _⟩
  · exact ⟨none, 0, 0, by simpa using h⟩
  · exact ⟨_, n, cap, by simpa using h⟩
 obtain ⟨a7, n7, c7, rfl⟩ : ∃ a n cap, d9 = .slice a n cap := by
  rcases DataW.trod_slice Tryz.underlying32 g4 with ⟨h, _⟩ | ⟨a, n, cap, _, _, _, _, h, _⟩
  · exact ⟨none, 0, 0, by simpa using h⟩
  · exact ⟨_, n, cap, by simpa using h⟩
 obtain ⟨now, h2, _, _⟩ := DataW.trod_int Tryz.underlying3 g2
 obtain ⟨a1, n1, c1, cs, a2, n2, c2, ws, a3, n3, c3, ks, a4, n4, c4, bl, nx, sq, ⟨rfl, rfl, rfl, rfl, rfl, rfl⟩, w1, w2, w3, w4, hmx⟩ := cellsShelf g0
 obtain ⟨fl, x1, x2, x3⟩ := openFlightS g1
 obtain ⟨se, y1, y2, y3⟩ := openSeenS g3
 obtain ⟨sn, z1, z2, z3⟩ := openReplyS g4
 simp only [List.cons.injEq, and_true] at h2
 subst h2
 exact ⟨a1, n1, c1, cs, a2, n2, c2, ws, a3, n3, c3, ks, a4, n4, c4, bl, nx, sq, a5, n5, c5, fl, now, a6, n6, c6, se, a7, n7, c7, sn, rfl, w1, w2, w3, w4, x1, y1, z1, hmx, ⟨x2, x3⟩, ⟨y2, y3⟩, z2, z3⟩
end Go.Proofs.YtbmhonfgffjpcaaGreat
