/- What the proof of FnExactCacheOk leans on: contracts of the program's and the specification's functions, and plain facts (part 6 of 9). -/
import Derived.Test.YtanpngnpolhgbaaGreatFnExactCacheOkE
set_option maxHeartbeats 16000000
set_option maxRecDepth 100000
namespace Go.Proofs.YtanpngnpolhgbaaGreat
open Go.RowKit
open Go.Lib hiding intOf
/-- One of a list that came in: its cells, and its lists. -/
def RpArg (w : World) (B b off i : Nat) (d : RpD) : Prop :=
 ∃ (a3 : Option Addr) (c3 : Nat) (a6 : Option Addr) (c6 : Nat) (a11 : Option Addr) (c11 : Nat) (a12 : Option Addr) (c12 : Nat) (a14 : Option Addr) (c14 : Nat), (w.cell? ⟨b, off + i * 18, none⟩ = some (.int .i64 d.cli) ∧ w.cell? ⟨b, off + i * 18 + 1, none⟩ = some (.int .i64 d.qmt) ∧ w.cell? ⟨b, off + i * 18 + 2, none⟩ = some (.string d.qpa) ∧ w.cell? ⟨b, off + i * 18 + 3, none⟩ = some (.slice a3 d.qfs.length c3) ∧ w.cell? ⟨b, off + i * 18 + 4, none⟩ = some (.string d.qbd) ∧ w.cell? ⟨b, off + i * 18 + 5, none⟩ = some (.int .i64 d.rst) ∧ w.cell? ⟨b, off + i * 18 + 6, none⟩ = some (.slice a6 d.rfs.length c6) ∧ w.cell? ⟨b, off + i * 18 + 7, none⟩ = some (.string d.rbd) ∧ w.cell? ⟨b, off + i * 18 + 8, none⟩ = some (.int .i64 d.knd) ∧ w.cell? ⟨b, off + i * 18 + 9, none⟩ = some (.int .i64 d.tim) ∧ w.cell? ⟨b, off + i * 18 + 10, none⟩ = some (.string d.opa) ∧ w.cell? ⟨b, off + i * 18 + 11, none⟩ = some (.slice a11 d.oxs.length c11) ∧ w.cell? ⟨b, off + i * 18 + 12, none⟩ = some (.slice a12 d.oys.length c12) ∧ w.cell? ⟨b, off + i * 18 + 13, none⟩ = some (.int .i64 d.ost) ∧ w.cell? ⟨b, off + i * 18 + 14, none⟩ = some (.slice a14 d.ofs.length c14) ∧ w.cell? ⟨b, off + i * 18 + 15, none⟩ = some (.string d.obd) ∧ w.cell? ⟨b, off + i * 18 + 16, none⟩ = some (.int .i64 d.otm) ∧ w.cell? ⟨b, off + i * 18 + 17, none⟩ = some (.int .i64 d.bns)) ∧ ArgF w B a3 d.qfs.length d.qfs ∧ ArgF w B a6 d.rfs.length d.rfs ∧ ArgT w B a11 d.oxs.length d.oxs ∧ ArgT w B a12 d.oys.length d.oys ∧ ArgF w B a14 d.ofs.length d.ofs
/-- A list that came in, in blocks below B. -/
def ArgReply (w : World) (B : Nat) (a : Option Addr) (n : Nat) (ks : List RpD) : Prop :=
 ks.length = n ∧ ∀ i, i < n → ∃ b off, a = some ⟨b, off, none⟩ ∧ b < B ∧ RpArg w B b off i (rpAt ks i)
theorem ArgReply.below {w w' : World} {B : Nat} {a : Option Addr} {n : Nat} {ks : List RpD} (h : ArgReply w B a n ks) (hb : Below B w w') : ArgReply w' B a n ks :=
 ⟨h.1, fun i hi => by
  obtain ⟨b, off, h1, h2, a3, c3, a6, c6, a11, c11, a12, c12, a14, c14, ⟨r0, r1, r2, r3, r4, r5, r6, r7, r8, r9, r10, r11, r12, r13, r14, r15, r16, r17⟩, g3, g6, g11, g12, g14⟩ := h.2 i hi
  exact ⟨b, off, h1, h2, a3, c3, a6, c6, a11, c11, a12, c12, a14, c14, ⟨by rw [hb.cell (p := ⟨b, off + i * 18, none⟩) h2]; exact r0, by rw [hb.cell (p := ⟨b, off + i * 18 + 1, none⟩) h2]; exact r1, by rw [hb.cell (p := ⟨b, off + i * 18 + 2, none⟩) h2]; exact r2, by rw [hb.cell (p := ⟨b, off + i * 18 + 3, none⟩) h2]; exact r3, by rw [hb.cell (p := ⟨b, off + i * 18 + 4, none⟩) h2]; exact r4, by rw [hb.cell (p := ⟨b, off + i * 18 + 5, none⟩) h2]; exact r5, by rw [hb.cell (p := ⟨b, off + i * 18 + 6, none⟩) h2]; exact r6, by rw [hb.cell (p := ⟨b, off + i * 18 + 7, none⟩) h2]; exact r7, by rw [hb.cell (p := ⟨b, off + i * 18 + 8, none⟩) h2]; exact r8, by rw [hb.cell (p := ⟨b, off + i * 18 + 9, none⟩) h2]; exact r9, by rw [hb.cell (p := ⟨b, off + i * 18 + 10, none⟩) h2]; exact r10, by rw [hb.cell (p := ⟨b, off + i * 18 + 11, none⟩) h2]; exact r11, by rw [hb.cell (p := ⟨b, off + i * 18 + 12, none⟩) h2]; exact r12, by rw [hb.cell (p := ⟨b, off + i * 18 + 13, none⟩) h2]; exact r13, by rw [hb.cell (p := ⟨b, off + i * 18 + 14, none⟩) h2]; exact r14, by rw [hb.cell (p := ⟨b, off + i * 18 + 15, none⟩) h2]; exact r15, by rw [hb.cell (p := ⟨b, off + i * 18 + 16, none⟩) h2]; exact r16, by rw [hb.cell (p := ⟨b, off + i * 18 + 17, none⟩) h2]; exact r17⟩, g3.below hb, g6.below hb, g11.below hb, g12.below hb, g14.below hb⟩⟩
/-- The measure is negative, or what is left of L. -/
def SzReplyS (L : Int) (ks : List RpD) (w : World) (e : Ending) (w' : World) : Prop :=
 ∃ r : Int, e = .returned (.int .i64 r) ∧ r ≤ L ∧ (0 ≤ r → r + (wtRp ks : Int) ≤ L ∧ ∀ k ∈ ks, RpSmall k) ∧ Below w.heap.size w w'
theorem szReplyS_any (L : Int) (hL0 : 0 ≤ L) (hL1 : L ≤ 1048576) (B : Nat) (a : Option Addr) (n cap : Nat) (ks : List RpD) (w : World) (harg : ArgReply w B a n ks) (hB : B ≤ w.heap.size) (hn : n ≤ maxLen) (hsz : ∀ k ∈ ks, RpMax k) :
  Calls Tryz.prog 12 #[.slice a n cap, .int .i64 L] w fun e w' => SzReplyS L ks w e w' := by
 unfold maxLen at hn
 have HS : Hid (∀ k ∈ ks, RpMax k) := hsz
 have HLN : Hid (ks.length = n) := harg.1
 have HA : Hid (∀ W, Below w.heap.size w W → ArgReply W B a n ks) := fun W h => harg.below (h.mono hB)
 have HBB : Hid (∀ W, Below w.heap.size w W → B ≤ W.heap.size) := fun W h => Nat.le_trans hB h.size
 clear hsz harg hB
 by_cases c1 : L - (n : Int) < 0
 ·
  go_enter Tryz.func12, Tryz.ntmps12
  go_wp2
  go_ret
  exact ⟨-1, rfl, by omega, fun h => absurd h (by omega), Below.refl _ _⟩
 ·
  go_enter Tryz.func12, Tryz.ntmps12
  go_wp2
  go_loopw [1, 5] (fun lf i wr => ∃ (k : Nat) (x : Int), k ≤ n ∧ i = .int .i64 (k : Int) ∧ lf = .int .i64 x ∧ 0 ≤ x ∧ x ≤ L ∧ Hid (x + (wtRp (ks.take k) : Int) + ((n : Int) - (k : Int)) ≤ L ∧ ∀ y ∈ ks.take k, RpSmall y) ∧ Hid (Below w.heap.size w wr)) (fun _ i _ => n - (intOf i).toNat)
  case atStart => exact ⟨0, _, Nat.zero_le _, rfl, rfl, by omega, by omega, ⟨by simp [wtRp], fun x hx => by simp at hx⟩, Below.refl _ _⟩
  case round =>
   obtain ⟨k, x, hk, rfl, rfl, hx0, hx1, HX, HBW⟩ := hrel
   by_cases hlt : k < n
   ·
    have hlt2 : (k : Int) < (n : Int) := by omega
    obtain ⟨b, off, rfl, hbB, a3, c3, a6, c6, a11, c11, a12, c12, a14, c14, ⟨r0, r1, r2, r3, r4, r5, r6, r7, r8, r9, r10, r11, r12, r13, r14, r15, r16, r17⟩, g3, g6, g11, g12, g14⟩ := (HA.out wr HBW.out).2 k hlt
    obtain ⟨y, hy⟩ := exq (rpAt ks k)
    have HM : Hid (y ∈ ks) := by show _ ∈ _; rw [hy]; exact getD_mem0 _ ks k (by rw [HLN.out]; exact hlt)
    have HTK : Hid (ks.take (k + 1) = ks.take k ++ [y]) := by show _ = _; rw [hy]; exact getD_take0 _ ks k (by rw [HLN.out]; exact hlt)
    rw [← hy] at r0 r1 r2 r3 r4 r5 r6 r7 r8 r9 r10 r11 r12 r13 r14 r15 r16 r17 g3 g6 g11 g12 g14
    have HG3 : Hid (ArgF wr B a3 y.qfs.length y.qfs) := g3
    have HG6 : Hid (ArgF wr B a6 y.rfs.length y.rfs) := g6
    have HG11 : Hid (ArgT wr B a11 y.oxs.length y.oxs) := g11
    have HG12 : Hid (ArgT wr B a12 y.oys.length y.oys) := g12
    have HG14 : Hid (ArgF wr B a14 y.ofs.length y.ofs) := g14
    clear hy g3 g6 g11 g12 g14
    have HIF : (Tryz.prog.info? 99).map (·.size) = some 18 := by kernel_rfl
    have HRG : World.rangeAt wr b (off + k * 18) [.int .i64 y.cli, .int .i64 y.qmt, .string y.qpa, .slice a3 y.qfs.length c3, .string y.qbd, .int .i64 y.rst, .slice a6 y.rfs.length c6, .string y.rbd, .int .i64 y.knd, .int .i64 y.tim, .string y.opa, .slice a11 y.oxs.length c11, .slice a12 y.oys.length c12, .int .i64 y.ost, .slice a14 y.ofs.length c14, .string y.obd, .int .i64 y.otm, .int .i64 y.bns] := range_cons r0 (range_cons r1 (range_cons r2 (range_cons r3 (range_cons r4 (range_cons r5 (range_cons r6 (range_cons r7 (range_cons r8 (range_cons r9 (range_cons r10 (range_cons r11 (range_cons r12 (range_cons r13 (range_cons r14 (range_cons r15 (range_cons r16 (range_cons r17 (range_nil _ _ _))))))))))))))))))
    go_wp2_with (first | (refine wpList_load_mid rfl 99 _ rfl b (off + k * 18) rfl [.int .i64 y.cli, .int .i64 y.qmt, .string y.qpa, .slice a3 y.qfs.length c3, .string y.qbd, .int .i64 y.rst, .slice a6 y.rfs.length c6, .string y.rbd, .int .i64 y.knd, .int .i64 y.tim, .string y.opa, .slice a11 y.oxs.length c11, .slice a12 y.oys.length c12, .int .i64 y.ost, .slice a14 y.ofs.length c14, .string y.obd, .int .i64 y.otm, .int .i64 y.bns] _ HRG Tryz.underlying99 rfl HIF ?_) | fail)
    clear HRG HIF
    refine (szReply_any x hx0 (by omega) y a3 c3 a6 c6 a11 c11 a12 c12 a14 c14 B _ HG3.out HG6.out HG11.out HG12.out HG14.out (HBB.out _ HBW.out) (HS.out y HM.out)).mono ?_
    rintro e w1 ⟨r, rfl, hr1, hr2, bw⟩
    have HB2 : Hid (Below w.heap.size w w1) := HBW.out.trans (bw.mono HBW.out.size)
    clear r0 r1 r2 r3 r4 r5 r6 r7 r8 r9 r10 r11 r12 r13 r14 r15 r16 r17 bw
    by_cases d1 : r < 0
    ·
     clear hr2
     go_wp2
     go_ret
     exact ⟨-1, rfl, by omega, fun h => absurd h (by omega), HB2.out⟩
    ·
     have HX2 : Hid (r + (wtRp (ks.take (k + 1)) : Int) + ((n : Int) - ((k + 1 : Nat) : Int)) ≤ L ∧ ∀ y ∈ ks.take (k + 1), RpSmall y) := by
      obtain ⟨q1, q2⟩ := hr2 (by omega)
      obtain ⟨m1, m2⟩ := HX.out
      refine ⟨?_, fun z hz => ?_⟩
      ·
       rw [HTK.out, wtRp_snoc]
       omega
      ·
       rw [HTK.out] at hz
       rcases List.mem_append.1 hz with hz | hz
       · exact m2 z hz
       · rw [List.mem_singleton.1 hz]; exact q2
     clear hr2
     go_wp2
     go_roundw
     case rel => exact ⟨k + 1, r, by omega, by go_num, rfl, by omega, by omega, HX2, HB2⟩
     case measure => simp [intOf]; omega
   ·
    have HF : Hid (x + (wtRp ks : Int) ≤ L ∧ ∀ k ∈ ks, RpSmall k) := by
     obtain ⟨m1, m2⟩ := HX.out
     rw [List.take_of_length_le (by rw [HLN.out]; omega)] at m1 m2
     exact ⟨by omega, m2⟩
    go_wp2
    go_ret
    exact ⟨x, rfl, by omega, fun _ => HF.out, HBW.out⟩
theorem infoReply : (Tryz.prog.info? 124).map (fun i => (i.zero, i.size, i.bytes)) = some (some (.agg #[.int .i64 0, .int .i64 0, .string ⟨#[]⟩, .slice none 0 0, .string ⟨#[]⟩, .int .i64 0, .slice none 0 0, .string ⟨#[]⟩, .int .i64 0, .int .i64 0, .string ⟨#[]⟩, .slice none 0 0, .slice none 0 0, .int .i64 0, .slice none 0 0, .string ⟨#[]⟩, .int .i64 0, .int .i64 0]), 18, 264) := by kernel_rfl
/-- A call answers a list of these, of its own. -/
def ReplyIs (ks : List RpD) (w : World) (e : Ending) (w' : World) : Prop := ∃ (V : Value) (kv : List RpV), e = .returned V ∧ kv.map (·.d) = ks ∧ RpsO w' w.heap.size V kv ∧ Below w.heap.size w w'
/-- Told item by item, and the items' own lists behind the row: a list of one's own. -/
theorem parts_Reply {w : World} {g n base : Nat} {kv : List RpV} (hp : PartO rpC 18 124 w g n kv) (hl : kv.length = n) (hm : n ≤ maxLen) (hb : base ≤ g) (hr : RowsO w (g + 1) (kv.flatMap rpR)) : RpsO w base (.slice (some ⟨g, 0, none⟩) n n) kv := by
 have hrow : (rpRow (.slice (some ⟨g, 0, none⟩) n n) kv).own w base := by
  have h := hp.owns rpC_len (by decide) hl hm hb
  unfold Rw.own rpRow
  rw [hl]
  exact h
 refine ⟨fun r h => ?_, List.pairwise_cons.2 ⟨fun r h g' h1 h2 => ?_, hr.apart⟩⟩
 ·
  rcases List.mem_cons.1 h with h | h
  · rw [h]; exact hrow
  · exact owns_wide (hr.own r h) (by omega)
 ·
  have e1 : some g = some g' := h1
  have e2 := hr.ge h h2
  have e3 := Option.some.inj e1
  omega
theorem toReplyS_any (B : Nat) (a : Option Addr) (n cap : Nat) (ks : List RpD) (w : World) (harg : ArgReply w B a n ks) (hB : B ≤ w.heap.size) (hn : n ≤ 1048576) (hsm : ∀ k ∈ ks, RpLen k) :
  Calls Tryz.prog 21 #[.slice a n cap] w fun e w' => ReplyIs ks w e w' := by
 obtain ⟨i0, hi, hz0, hz1, hz2⟩ := info_parts infoReply
 obtain ⟨M, hM⟩ : ∃ M, M = madeCells (Value.agg #[.int .i64 0, .int .i64 0, .string ⟨#[]⟩, .slice none 0 0, .string ⟨#[]⟩, .int .i64 0, .slice none 0 0, .string ⟨#[]⟩, .int .i64 0, .int .i64 0, .string ⟨#[]⟩, .slice none 0 0, .slice none 0 0, .int .i64 0, .slice none 0 0, .string ⟨#[]⟩, .int .i64 0, .int .i64 0]).cells (((n : Nat) : Int).toNat * i0.size) := ⟨_, rfl⟩
 have hmk : ∀ W : World, (Instr.makeSlice 46 (.int .i64 (n : Int)) (.int .i64 (n : Int))).run Tryz.prog W = .ok (.slice (some ⟨W.heap.size, 0, none⟩) n n) (W.alloc (.cells M 124)) := fun W => by
  have h := run_make (P := Tryz.prog) W 46 124 i0 (.agg #[.int .i64 0, .int .i64 0, .string ⟨#[]⟩, .slice none 0 0, .string ⟨#[]⟩, .int .i64 0, .slice none 0 0, .string ⟨#[]⟩, .int .i64 0, .int .i64 0, .string ⟨#[]⟩, .slice none 0 0, .slice none 0 0, .int .i64 0, .slice none 0 0, .string ⟨#[]⟩, .int .i64 0, .int .i64 0]) Tryz.underlying46 hi hz0 .i64 .i64 (n : Int) (n : Int) (by omega) (by omega) (by rw [hz2]; omega) (by omega)
  rw [← hM] at h
  simpa using h
 have hMs : M.size = n * 18 := by rw [hM, size_madeCells, hz1]; simp
 have HLN : Hid (ks.length = n) := harg.1
 have HSM : Hid (∀ k ∈ ks, RpLen k) := hsm
 have HA : Hid (∀ W, Below w.heap.size w W → ArgReply W B a n ks) := fun W h => harg.below (h.mono hB)
 have HBB : Hid (∀ W, Below w.heap.size w W → B ≤ W.heap.size) := fun W h => Nat.le_trans hB h.size
 clear hM harg hsm hB
 obtain ⟨g, hg⟩ := exq (w.heap.size)
 have HG : Hid (w.heap.size = g) := hg.symm
 have HP : Hid (([] : List RpV).length = 0 ∧ ([] : List RpV).map (·.d) = ks.take 0 ∧ PartO rpC 18 124 (w.alloc (.cells M 124)) g n [] ∧ RowsO (w.alloc (.cells M 124)) (g + 1) (([] : List RpV).flatMap rpR)) := ⟨rfl, by simp, ⟨M, by rw [hg]; exact heap_alloc_new w _, hMs, fun i h => absurd h (by simp)⟩, RowsO.nil _ _⟩
 have HPB : Hid (Below w.heap.size w (w.alloc (.cells M 124))) := (Below.refl _ _).alloc (Nat.le_refl _) _
 go_enter Tryz.func21, Tryz.ntmps21
 go_wp2
 rw [HG.out]
 clear hg hMs
 go_loopw [4] (fun i wr => ∃ (k : Nat) (kv : List RpV), k ≤ n ∧ i = .int .i64 (k : Int) ∧ Hid (kv.length = k ∧ kv.map (·.d) = ks.take k ∧ PartO rpC 18 124 wr g n kv ∧ RowsO wr (g + 1) (kv.flatMap rpR)) ∧ Hid (Below w.heap.size w wr)) (fun i _ => n - (intOf i).toNat)
 case atStart => exact ⟨0, [], Nat.zero_le _, rfl, HP, HPB⟩
 case round =>
  obtain ⟨k, kv, hk, rfl, hpr, HBW⟩ := hrel
  by_cases hlt : k < n
  ·
   have hlt2 : (k : Int) < (n : Int) := by omega
   obtain ⟨b, off, rfl, hbB, a3, c3, a6, c6, a11, c11, a12, c12, a14, c14, ⟨r0, r1, r2, r3, r4, r5, r6, r7, r8, r9, r10, r11, r12, r13, r14, r15, r16, r17⟩, g3, g6, g11, g12, g14⟩ := (HA.out wr HBW.out).2 k hlt
   obtain ⟨y, hy⟩ := exq (rpAt ks k)
   have HM : Hid (y ∈ ks) := by show _ ∈ _; rw [hy]; exact getD_mem0 _ ks k (by rw [HLN.out]; exact hlt)
   have HTK : Hid (ks.take (k + 1) = ks.take k ++ [y]) := by show _ = _; rw [hy]; exact getD_take0 _ ks k (by rw [HLN.out]; exact hlt)
   rw [← hy] at r0 r1 r2 r3 r4 r5 r6 r7 r8 r9 r10 r11 r12 r13 r14 r15 r16 r17 g3 g6 g11 g12 g14
   have HG3 : Hid (ArgF wr B a3 y.qfs.length y.qfs) := g3
   have HG6 : Hid (ArgF wr B a6 y.rfs.length y.rfs) := g6
   have HG11 : Hid (ArgT wr B a11 y.oxs.length y.oxs) := g11
   have HG12 : Hid (ArgT wr B a12 y.oys.length y.oys) := g12
   have HG14 : Hid (ArgF wr B a14 y.ofs.length y.ofs) := g14
   clear hy g3 g6 g11 g12 g14
   have HIF : (Tryz.prog.info? 99).map (·.size) = some 18 := by kernel_rfl
   have HRG : World.rangeAt wr b (off + k * 18) [.int .i64 y.cli, .int .i64 y.qmt, .string y.qpa, .slice a3 y.qfs.length c3, .string y.qbd, .int .i64 y.rst, .slice a6 y.rfs.length c6, .string y.rbd, .int .i64 y.knd, .int .i64 y.tim, .string y.opa, .slice a11 y.oxs.length c11, .slice a12 y.oys.length c12, .int .i64 y.ost, .slice a14 y.ofs.length c14, .string y.obd, .int .i64 y.otm, .int .i64 y.bns] := range_cons r0 (range_cons r1 (range_cons r2 (range_cons r3 (range_cons r4 (range_cons r5 (range_cons r6 (range_cons r7 (range_cons r8 (range_cons r9 (range_cons r10 (range_cons r11 (range_cons r12 (range_cons r13 (range_cons r14 (range_cons r15 (range_cons r16 (range_cons r17 (range_nil _ _ _))))))))))))))))))
   go_wp2_with (first | (refine wpList_load_mid rfl 99 _ rfl b (off + k * 18) rfl [.int .i64 y.cli, .int .i64 y.qmt, .string y.qpa, .slice a3 y.qfs.length c3, .string y.qbd, .int .i64 y.rst, .slice a6 y.rfs.length c6, .string y.rbd, .int .i64 y.knd, .int .i64 y.tim, .string y.opa, .slice a11 y.oxs.length c11, .slice a12 y.oys.length c12, .int .i64 y.ost, .slice a14 y.ofs.length c14, .string y.obd, .int .i64 y.otm, .int .i64 y.bns] _ HRG Tryz.underlying99 rfl HIF ?_) | fail)
   clear HRG HIF
   refine (toReply_any y a3 c3 a6 c6 a11 c11 a12 c12 a14 c14 B _ HG3.out HG6.out HG11.out HG12.out HG14.out (HBB.out _ HBW.out) (HSM.out y HM.out)).mono ?_
   rintro e w1 ⟨⟨xd, v3, v6, v11, v12, v14⟩, rfl, hxd, hrows, bw⟩
   clear r0 r1 r2 r3 r4 r5 r6 r7 r8 r9 r10 r11 r12 r13 r14 r15 r16 r17
   obtain rfl : xd = y := hxd
   obtain ⟨o3, p3, hv⟩ := slice_of_owns (hrows.own (⟨150, 2, v3, xd.qfs.length, flatF xd.qfs⟩ : Rw) (by simp [rpR]))
   obtain rfl : v3 = .slice o3 xd.qfs.length p3 := hv
   obtain ⟨o6, p6, hv⟩ := slice_of_owns (hrows.own (⟨150, 2, v6, xd.rfs.length, flatF xd.rfs⟩ : Rw) (by simp [rpR]))
   obtain rfl : v6 = .slice o6 xd.rfs.length p6 := hv
   obtain ⟨o11, p11, hv⟩ := slice_of_owns (hrows.own (⟨9, 1, v11, xd.oxs.length, xd.oxs.map Value.string⟩ : Rw) (by simp [rpR]))
   obtain rfl : v11 = .slice o11 xd.oxs.length p11 := hv
   obtain ⟨o12, p12, hv⟩ := slice_of_owns (hrows.own (⟨9, 1, v12, xd.oys.length, xd.oys.map Value.string⟩ : Rw) (by simp [rpR]))
   obtain rfl : v12 = .slice o12 xd.oys.length p12 := hv
   obtain ⟨o14, p14, hv⟩ := slice_of_owns (hrows.own (⟨150, 2, v14, xd.ofs.length, flatF xd.ofs⟩ : Rw) (by simp [rpR]))
   obtain rfl : v14 = .slice o14 xd.ofs.length p14 := hv
   obtain ⟨x, hx⟩ : ∃ x : RpV, x = ⟨xd, .slice o3 xd.qfs.length p3, .slice o6 xd.rfs.length p6, .slice o11 xd.oxs.length p11, .slice o12 xd.oys.length p12, .slice o14 xd.ofs.length p14⟩ := ⟨_, rfl⟩
   rw [← hx] at hrows
   obtain ⟨q1, q2, q3, q4⟩ := hpr.out
   have hgl : g < wr.heap.size := q3.lt
   have HB2 : Hid (Below w.heap.size w w1) := HBW.out.trans (bw.mono HBW.out.size)
   have hpr1 := q3.below bw
   have hall : RowsO w1 (g + 1) (kv.flatMap rpR ++ rpR x) := q4.more bw hrows (Nat.le_refl _) hgl
   have HALL : Hid ((kv ++ [x]).length = k + 1 ∧ (kv ++ [x]).map (·.d) = ks.take (k + 1) ∧ PartO rpC 18 124 (setW w1 g (k * 18) (rpC x)) g n (kv ++ [x]) ∧ RowsO (setW w1 g (k * 18) (rpC x)) (g + 1) ((kv ++ [x]).flatMap rpR)) := by
    refine ⟨by rw [List.length_append, q1]; rfl, by rw [List.map_append, q2, HTK.out, hx]; rfl, ?_, ?_⟩
    ·
     have h := hpr1.put rpC_len x (by omega)
     rw [q1] at h
     exact h
    ·
     rw [List.flatMap_append]
     have h2 : RowsO (setW w1 g (k * 18) (rpC x)) (g + 1) (kv.flatMap rpR ++ rpR x) := hall.same (fun r hr j hj => setW_other g j (by have := hall.ge hr hj; omega) _ _ _)
     simpa using h2
   have HBE : Hid (Below w.heap.size w (setW w1 g (k * 18) (rpC x))) := setW_below (by rw [HG.out]; exact Nat.le_refl _) _ _ _ _ HB2.out
   rw [hx] at HALL HBE
   have HTH : World.there w1 g (k * 18) 18 := there_part hpr1 hlt
   have HIF : (Tryz.prog.info? 124).map (·.size) = some 18 := by kernel_rfl
   obtain ⟨W1, hW1⟩ := exq (setW w1 g (k * 18) (rpC ⟨xd, .slice o3 xd.qfs.length p3, .slice o6 xd.rfs.length p6, .slice o11 xd.oxs.length p11, .slice o12 xd.oys.length p12, .slice o14 xd.ofs.length p14⟩))
   rw [← hW1] at HALL HBE
   have HWE : Hid (w1.setCells g (k * 18) (#[.int .i64 xd.cli, .int .i64 xd.qmt, .string xd.qpa, .slice o3 xd.qfs.length p3, .string xd.qbd, .int .i64 xd.rst, .slice o6 xd.rfs.length p6, .string xd.rbd, .int .i64 xd.knd, .int .i64 xd.tim, .string xd.opa, .slice o11 xd.oxs.length p11, .slice o12 xd.oys.length p12, .int .i64 xd.ost, .slice o14 xd.ofs.length p14, .string xd.obd, .int .i64 xd.otm, .int .i64 xd.bns] : Array Value).toList = W1) := by show _ = _; rw [hW1, setCells_eq]; rfl
   clear hW1
   clear hpr1 hall hrows hx q1 q2 q3 q4 bw hpr
   go_wp2_with (first | (refine wpList_store_mid rfl 124 _ _ rfl g (k * 18) #[.int .i64 xd.cli, .int .i64 xd.qmt, .string xd.qpa, .slice o3 xd.qfs.length p3, .string xd.qbd, .int .i64 xd.rst, .slice o6 xd.rfs.length p6, .string xd.rbd, .int .i64 xd.knd, .int .i64 xd.tim, .string xd.opa, .slice o11 xd.oxs.length p11, .slice o12 xd.oys.length p12, .int .i64 xd.ost, .slice o14 xd.ofs.length p14, .string xd.obd, .int .i64 xd.otm, .int .i64 xd.bns] rfl rfl HTH HIF (by simp [Value.oneCell']) ?_; rw [HWE.out]) | fail)
   clear HTH HIF
   go_roundw
   case rel => exact ⟨k + 1, _, by omega, by go_num, HALL, HBE⟩
   case measure => simp [intOf]; omega
  ·
   obtain rfl : k = n := by omega
   obtain ⟨q1, q2, q3, q4⟩ := hpr.out
   have HF : Hid (kv.map (·.d) = ks ∧ RpsO wr w.heap.size (.slice (some ⟨g, 0, none⟩) k k) kv) := by
    refine ⟨?_, parts_Reply q3 q1 (by unfold maxLen; omega) (by rw [HG.out]; exact Nat.le_refl _) q4⟩
    rw [q2, List.take_of_length_le (by rw [HLN.out]; exact Nat.le_refl _)]
   clear q1 q2 q3 q4
   go_wp2
   go_ret
   exact ⟨_, kv, rfl, HF.out.1, HF.out.2, HBW.out⟩
end Go.Proofs.YtanpngnpolhgbaaGreat
namespace Go.Proofs.YtanpngnpolhgbaaGreat
open Go.RowKit
open Go.Lib hiding intOf
theorem eqReplyS_any (V1 V2 : Value) (kv1 kv2 : List RpV) (B1 B2 : Nat) (w : World) (he : kv1.map (·.d) = kv2.map (·.d)) (h1 : RpsO w B1 V1 kv1) (h2 : RpsO w B2 V2 kv2) (hn : kv1.length ≤ 2000000) (hs : ∀ x ∈ kv1, RpLim x.d) :
  Calls Tryz.prog 28 #[V1, V2] w fun e w' => e = .returned (.bool true) ∧ Below w.heap.size w w' := by
 have hlen : kv2.length = kv1.length := by have := congrArg List.length he; simpa using this.symm
 obtain ⟨n, hnn⟩ := exq kv1.length
 obtain ⟨o1, c1, e1⟩ := h1.len
 obtain ⟨o2, c2, e2⟩ := h2.len
 rw [← hnn] at e1 hn
 rw [hlen, ← hnn] at e2
 subst e1 e2
 have HL1 : Hid (kv1.length = n) := hnn.symm
 have HL2 : Hid (kv2.length = n) := hlen.trans hnn.symm
 have HE : Hid (kv1.map (·.d) = kv2.map (·.d)) := he
 have HS : Hid (∀ x ∈ kv1, RpLim x.d) := hs
 have H1 : Hid (∀ W, Below w.heap.size w W → RpsO W B1 (.slice o1 n c1) kv1) := fun W h => h1.below h
 have H2 : Hid (∀ W, Below w.heap.size w W → RpsO W B2 (.slice o2 n c2) kv2) := fun W h => h2.below h
 clear h1 h2 hlen hnn he hs
 go_enter Tryz.func28, Tryz.ntmps28
 go_wp2
 go_loopw [5] (fun i wr => ∃ k : Nat, k ≤ n ∧ i = .int .i64 (k : Int) ∧ Hid (Below w.heap.size w wr)) (fun i _ => n - (intOf i).toNat)
 case atStart => exact ⟨0, Nat.zero_le _, rfl, Below.refl _ _⟩
 case round =>
  obtain ⟨k, hk, rfl, HBW⟩ := hrel
  by_cases hlt : k < n
  ·
   have hlt2 : (k : Int) < (n : Int) := by omega
   obtain ⟨g1, cp1, ev1, hg1, at1⟩ := (H1.out wr HBW.out).at k (by rw [HL1.out]; exact hlt)
   obtain ⟨g2, cp2, ev2, hg2, at2⟩ := (H2.out wr HBW.out).at k (by rw [HL2.out]; exact hlt)
   obtain rfl : o1 = some ⟨g1, 0, none⟩ := (Value.slice.inj ev1).1
   obtain rfl : o2 = some ⟨g2, 0, none⟩ := (Value.slice.inj ev2).1
   have exy : (kv1[k]'(by rw [HL1.out]; exact hlt)).d = (kv2[k]'(by rw [HL2.out]; exact hlt)).d := by
    have h := congrArg (fun l : List RpD => l[k]?) HE.out
    simpa [List.getElem?_map, List.getElem?_eq_getElem (show k < kv1.length by rw [HL1.out]; exact hlt), List.getElem?_eq_getElem (show k < kv2.length by rw [HL2.out]; exact hlt)] using h
   have m1 : kv1[k]'(by rw [HL1.out]; exact hlt) ∈ kv1 := List.getElem_mem _
   have m2 : kv2[k]'(by rw [HL2.out]; exact hlt) ∈ kv2 := List.getElem_mem _
   generalize kv1[k]'(by rw [HL1.out]; exact hlt) = x at at1 exy m1
   generalize kv2[k]'(by rw [HL2.out]; exact hlt) = y at at2 exy m2
   have HXY : Hid (x.d = y.d) := exy
   have HO1 : Hid (∀ W, Below wr.heap.size wr W → RowsO W B1 (rpR x)) := fun W h => ((H1.out wr HBW.out).below h).item m1
   have HO2 : Hid (∀ W, Below wr.heap.size wr W → RowsO W B2 (rpR y)) := fun W h => ((H2.out wr HBW.out).below h).item m2
   have HSZ : Hid (RpLim x.d) := HS.out _ m1
   have a0 : wr.cell? ⟨g1, k * 18, none⟩ = some (.int .i64 x.d.cli) := at1.c0
   have a1 : wr.cell? ⟨g1, k * 18 + 1, none⟩ = some (.int .i64 x.d.qmt) := at1.c1
   have a2 : wr.cell? ⟨g1, k * 18 + 2, none⟩ = some (.string x.d.qpa) := at1.c2
   have a3 : wr.cell? ⟨g1, k * 18 + 3, none⟩ = some (x.v3) := at1.c3
   have a4 : wr.cell? ⟨g1, k * 18 + 4, none⟩ = some (.string x.d.qbd) := at1.c4
   have a5 : wr.cell? ⟨g1, k * 18 + 5, none⟩ = some (.int .i64 x.d.rst) := at1.c5
   have a6 : wr.cell? ⟨g1, k * 18 + 6, none⟩ = some (x.v6) := at1.c6
   have a7 : wr.cell? ⟨g1, k * 18 + 7, none⟩ = some (.string x.d.rbd) := at1.c7
   have a8 : wr.cell? ⟨g1, k * 18 + 8, none⟩ = some (.int .i64 x.d.knd) := at1.c8
   have a9 : wr.cell? ⟨g1, k * 18 + 9, none⟩ = some (.int .i64 x.d.tim) := at1.c9
   have a10 : wr.cell? ⟨g1, k * 18 + 10, none⟩ = some (.string x.d.opa) := at1.c10
   have a11 : wr.cell? ⟨g1, k * 18 + 11, none⟩ = some (x.v11) := at1.c11
   have a12 : wr.cell? ⟨g1, k * 18 + 12, none⟩ = some (x.v12) := at1.c12
   have a13 : wr.cell? ⟨g1, k * 18 + 13, none⟩ = some (.int .i64 x.d.ost) := at1.c13
   have a14 : wr.cell? ⟨g1, k * 18 + 14, none⟩ = some (x.v14) := at1.c14
   have a15 : wr.cell? ⟨g1, k * 18 + 15, none⟩ = some (.string x.d.obd) := at1.c15
   have a16 : wr.cell? ⟨g1, k * 18 + 16, none⟩ = some (.int .i64 x.d.otm) := at1.c16
   have a17 : wr.cell? ⟨g1, k * 18 + 17, none⟩ = some (.int .i64 x.d.bns) := at1.c17
   have b0 : wr.cell? ⟨g2, k * 18, none⟩ = some (.int .i64 y.d.cli) := at2.c0
   have b1 : wr.cell? ⟨g2, k * 18 + 1, none⟩ = some (.int .i64 y.d.qmt) := at2.c1
   have b2 : wr.cell? ⟨g2, k * 18 + 2, none⟩ = some (.string y.d.qpa) := at2.c2
   have b3 : wr.cell? ⟨g2, k * 18 + 3, none⟩ = some (y.v3) := at2.c3
   have b4 : wr.cell? ⟨g2, k * 18 + 4, none⟩ = some (.string y.d.qbd) := at2.c4
   have b5 : wr.cell? ⟨g2, k * 18 + 5, none⟩ = some (.int .i64 y.d.rst) := at2.c5
   have b6 : wr.cell? ⟨g2, k * 18 + 6, none⟩ = some (y.v6) := at2.c6
   have b7 : wr.cell? ⟨g2, k * 18 + 7, none⟩ = some (.string y.d.rbd) := at2.c7
   have b8 : wr.cell? ⟨g2, k * 18 + 8, none⟩ = some (.int .i64 y.d.knd) := at2.c8
   have b9 : wr.cell? ⟨g2, k * 18 + 9, none⟩ = some (.int .i64 y.d.tim) := at2.c9
   have b10 : wr.cell? ⟨g2, k * 18 + 10, none⟩ = some (.string y.d.opa) := at2.c10
   have b11 : wr.cell? ⟨g2, k * 18 + 11, none⟩ = some (y.v11) := at2.c11
   have b12 : wr.cell? ⟨g2, k * 18 + 12, none⟩ = some (y.v12) := at2.c12
   have b13 : wr.cell? ⟨g2, k * 18 + 13, none⟩ = some (.int .i64 y.d.ost) := at2.c13
   have b14 : wr.cell? ⟨g2, k * 18 + 14, none⟩ = some (y.v14) := at2.c14
   have b15 : wr.cell? ⟨g2, k * 18 + 15, none⟩ = some (.string y.d.obd) := at2.c15
   have b16 : wr.cell? ⟨g2, k * 18 + 16, none⟩ = some (.int .i64 y.d.otm) := at2.c16
   have b17 : wr.cell? ⟨g2, k * 18 + 17, none⟩ = some (.int .i64 y.d.bns) := at2.c17
   have R1 : World.rangeAt wr g1 (k * 18) [.int .i64 x.d.cli, .int .i64 x.d.qmt, .string x.d.qpa, x.v3, .string x.d.qbd, .int .i64 x.d.rst, x.v6, .string x.d.rbd, .int .i64 x.d.knd, .int .i64 x.d.tim, .string x.d.opa, x.v11, x.v12, .int .i64 x.d.ost, x.v14, .string x.d.obd, .int .i64 x.d.otm, .int .i64 x.d.bns] := range_cons a0 (range_cons a1 (range_cons a2 (range_cons a3 (range_cons a4 (range_cons a5 (range_cons a6 (range_cons a7 (range_cons a8 (range_cons a9 (range_cons a10 (range_cons a11 (range_cons a12 (range_cons a13 (range_cons a14 (range_cons a15 (range_cons a16 (range_cons a17 (range_nil _ _ _))))))))))))))))))
   have R2 : World.rangeAt wr g2 (k * 18) [.int .i64 y.d.cli, .int .i64 y.d.qmt, .string y.d.qpa, y.v3, .string y.d.qbd, .int .i64 y.d.rst, y.v6, .string y.d.rbd, .int .i64 y.d.knd, .int .i64 y.d.tim, .string y.d.opa, y.v11, y.v12, .int .i64 y.d.ost, y.v14, .string y.d.obd, .int .i64 y.d.otm, .int .i64 y.d.bns] := range_cons b0 (range_cons b1 (range_cons b2 (range_cons b3 (range_cons b4 (range_cons b5 (range_cons b6 (range_cons b7 (range_cons b8 (range_cons b9 (range_cons b10 (range_cons b11 (range_cons b12 (range_cons b13 (range_cons b14 (range_cons b15 (range_cons b16 (range_cons b17 (range_nil _ _ _))))))))))))))))))
   clear at1 at2 m1 m2 ev1 ev2 exy a0 b0 a1 b1 a2 b2 a3 b3 a4 b4 a5 b5 a6 b6 a7 b7 a8 b8 a9 b9 a10 b10 a11 b11 a12 b12 a13 b13 a14 b14 a15 b15 a16 b16 a17 b17
   have HIF : (Tryz.prog.info? 124).map (·.size) = some 18 := by kernel_rfl
   have HA : Hid (∀ w0 w1, Below wr.heap.size wr w0 → Below w0.heap.size w0 w1 → (World.rangeAt w1 g1 (k * 18) [.int .i64 x.d.cli, .int .i64 x.d.qmt, .string x.d.qpa, x.v3, .string x.d.qbd, .int .i64 x.d.rst, x.v6, .string x.d.rbd, .int .i64 x.d.knd, .int .i64 x.d.tim, .string x.d.opa, x.v11, x.v12, .int .i64 x.d.ost, x.v14, .string x.d.obd, .int .i64 x.d.otm, .int .i64 x.d.bns] ∧ World.rangeAt w1 g2 (k * 18) [.int .i64 y.d.cli, .int .i64 y.d.qmt, .string y.d.qpa, y.v3, .string y.d.qbd, .int .i64 y.d.rst, y.v6, .string y.d.rbd, .int .i64 y.d.knd, .int .i64 y.d.tim, .string y.d.opa, y.v11, y.v12, .int .i64 y.d.ost, y.v14, .string y.d.obd, .int .i64 y.d.otm, .int .i64 y.d.bns]) ∧ Below wr.heap.size wr w1) := fun w0 w1 h h' => by
    have hx := h.trans (h'.mono h.size)
    exact ⟨⟨fun j v hv => by rw [hx.cell (p := ⟨g1, k * 18 + j, none⟩) hg1]; exact R1 j v hv, fun j v hv => by rw [hx.cell (p := ⟨g2, k * 18 + j, none⟩) hg2]; exact R2 j v hv⟩, hx⟩
   go_wp2_with fail
   refine wp_region_held_drew (S := fun w' => World.rangeAt w' g1 (k * 18) [.int .i64 x.d.cli, .int .i64 x.d.qmt, .string x.d.qpa, x.v3, .string x.d.qbd, .int .i64 x.d.rst, x.v6, .string x.d.rbd, .int .i64 x.d.knd, .int .i64 x.d.tim, .string x.d.opa, x.v11, x.v12, .int .i64 x.d.ost, x.v14, .string x.d.obd, .int .i64 x.d.otm, .int .i64 x.d.bns] ∧ World.rangeAt w' g2 (k * 18) [.int .i64 y.d.cli, .int .i64 y.d.qmt, .string y.d.qpa, y.v3, .string y.d.qbd, .int .i64 y.d.rst, y.v6, .string y.d.rbd, .int .i64 y.d.knd, .int .i64 y.d.tim, .string y.d.opa, y.v11, y.v12, .int .i64 y.d.ost, y.v14, .string y.d.obd, .int .i64 y.d.otm, .int .i64 y.d.bns]) (by kernel_rfl) ⟨R1, R2⟩ (fun hHeld => ?_)
   refine wpAnyH_take (i := 0) (v := .slice (some ⟨g1, 0, none⟩) n c1) rfl (by kernel_rfl) (by kernel_rfl) (by kernel_rfl) (fun _ _ _ h => h) (Or.inl ⟨by rfl, by intro W hSW; go_simp⟩) (by assumption) ?_
   refine wpAnyH_take (i := 1) (v := .int .i64 (k : Int)) rfl (by kernel_rfl) (by kernel_rfl) (by kernel_rfl) (fun _ _ _ h => h) (Or.inl ⟨by rfl, by intro W hSW; go_simp⟩) (by assumption) ?_
   refine wpAnyH_take (i := 2) (v := .pointer (some ⟨g1, k * 18, none⟩)) rfl (by kernel_rfl) (by kernel_rfl) (by kernel_rfl) (fun _ _ _ h => h) (Or.inl ⟨by rfl, by intro W hSW; go_simp⟩) (by assumption) ?_
   refine wpAnyH_take (i := 3) (v := .agg #[.int .i64 x.d.cli, .int .i64 x.d.qmt, .string x.d.qpa, x.v3, .string x.d.qbd, .int .i64 x.d.rst, x.v6, .string x.d.rbd, .int .i64 x.d.knd, .int .i64 x.d.tim, .string x.d.opa, x.v11, x.v12, .int .i64 x.d.ost, x.v14, .string x.d.obd, .int .i64 x.d.otm, .int .i64 x.d.bns]) rfl (by kernel_rfl) (by kernel_rfl) (by kernel_rfl) (fun _ _ _ h => h) (yieldsIf_load_mid (by rfl) 124 _ rfl g1 (k * 18) rfl [.int .i64 x.d.cli, .int .i64 x.d.qmt, .string x.d.qpa, x.v3, .string x.d.qbd, .int .i64 x.d.rst, x.v6, .string x.d.rbd, .int .i64 x.d.knd, .int .i64 x.d.tim, .string x.d.opa, x.v11, x.v12, .int .i64 x.d.ost, x.v14, .string x.d.obd, .int .i64 x.d.otm, .int .i64 x.d.bns] _ (fun W h => h.1) Tryz.underlying124 rfl HIF) (by assumption) ?_
   refine wpAnyH_take (i := 4) (v := .slice (some ⟨g2, 0, none⟩) n c2) rfl (by kernel_rfl) (by kernel_rfl) (by kernel_rfl) (fun _ _ _ h => h) (Or.inl ⟨by rfl, by intro W hSW; go_simp⟩) (by assumption) ?_
   refine wpAnyH_take (i := 5) (v := .int .i64 (k : Int)) rfl (by kernel_rfl) (by kernel_rfl) (by kernel_rfl) (fun _ _ _ h => h) (Or.inl ⟨by rfl, by intro W hSW; go_simp⟩) (by assumption) ?_
   refine wpAnyH_take (i := 6) (v := .pointer (some ⟨g2, k * 18, none⟩)) rfl (by kernel_rfl) (by kernel_rfl) (by kernel_rfl) (fun _ _ _ h => h) (Or.inl ⟨by rfl, by intro W hSW; go_simp⟩) (by assumption) ?_
   refine wpAnyH_take (i := 7) (v := .agg #[.int .i64 y.d.cli, .int .i64 y.d.qmt, .string y.d.qpa, y.v3, .string y.d.qbd, .int .i64 y.d.rst, y.v6, .string y.d.rbd, .int .i64 y.d.knd, .int .i64 y.d.tim, .string y.d.opa, y.v11, y.v12, .int .i64 y.d.ost, y.v14, .string y.d.obd, .int .i64 y.d.otm, .int .i64 y.d.bns]) rfl (by kernel_rfl) (by kernel_rfl) (by kernel_rfl) (fun _ _ _ h => h) (yieldsIf_load_mid (by rfl) 124 _ rfl g2 (k * 18) rfl [.int .i64 y.d.cli, .int .i64 y.d.qmt, .string y.d.qpa, y.v3, .string y.d.qbd, .int .i64 y.d.rst, y.v6, .string y.d.rbd, .int .i64 y.d.knd, .int .i64 y.d.tim, .string y.d.opa, y.v11, y.v12, .int .i64 y.d.ost, y.v14, .string y.d.obd, .int .i64 y.d.otm, .int .i64 y.d.bns] _ (fun W h => h.2) Tryz.underlying124 rfl HIF) (by assumption) ?_
   refine rd1 8 rfl (fun K hK => ?_)
   go_simp
   refine (eqReply_any x.d x y B1 B2 _ rfl HXY.out.symm (HO1.out _ ((Below.refl _ wr).drew)) (HO2.out _ ((Below.refl _ wr).drew)) HSZ.out).mono ?_
   rintro e w1 ⟨rfl, hb1⟩
   obtain ⟨hcc, hbx⟩ := HA.out _ w1 ((Below.refl _ wr).drew) hb1
   clear hHeld
   refine hK.out _ _ hcc (fun hHeld => ?_)
   clear hK K
   refine wpAnyH_take (i := 9) (v := .bool false) rfl (by kernel_rfl) (by kernel_rfl) (by kernel_rfl) (fun _ _ _ h => h) (Or.inl ⟨by rfl, by intro W hSW; go_simp⟩) (by assumption) ?_
   refine wpAnyH_done (by kernel_rfl) ?_ _
   clear hHeld hcc R1 R2 HIF
   go_wp2
   go_roundw
   case rel => exact ⟨k + 1, by omega, by go_num, HBW.out.trans (hbx.mono HBW.out.size)⟩
   case measure => simp [intOf]; omega
  ·
   go_wp2
   go_ret
   exact ⟨rfl, HBW.out⟩
end Go.Proofs.YtanpngnpolhgbaaGreat
namespace Go.Proofs.YtanpngnpolhgbaaGreat
open Go.RowKit
open Go.Lib hiding intOf
theorem eqShelf_go (s : ShD) (n1 n2 n3 n4 : Nat) (oCx oPx oKx oBx oCy oPy oKy oBy : Option Addr) (pCx pPx pKx pBx pCy pPy pKy pBy : Nat) (kvx kvy : List (KpD × Value × Value × Value)) (Bx By : Nat) (w : World) (HL : Hid (s.cs.length = n1 ∧ s.ws.length = n2 ∧ s.bl.length = n4)) (HN : Hid (n1 ≤ 2000000 ∧ n2 ≤ 2000000 ∧ kvx.length ≤ 2000000 ∧ n4 ≤ 2000000)) (HSZ : Hid (∀ x ∈ kvx, x.1.xs.length ≤ 2000000 ∧ x.1.ys.length ≤ 2000000 ∧ x.1.fs.length ≤ 2000000)) (HKE : Hid (kvx.map (·.1) = kvy.map (·.1))) (Ex_0 : Hid (ShelfO (w) Bx (.slice oCx n1 pCx) (.slice oPx n2 pPx) (.slice oKx n3 pKx) (.slice oBx n4 pBx) kvx s)) (Ey_0 : Hid (ShelfO (w) By (.slice oCy n1 pCy) (.slice oPy n2 pPy) (.slice oKy n3 pKy) (.slice oBy n4 pBy) kvy s)) :
  Calls Tryz.prog 25 #[.agg #[.slice oCx n1 pCx, .slice oPx n2 pPx, .slice oKx n3 pKx, .slice oBx n4 pBx, .int .i64 s.nx, .int .i64 s.sq], .agg #[.slice oCy n1 pCy, .slice oPy n2 pPy, .slice oKy n3 pKy, .slice oBy n4 pBy, .int .i64 s.nx, .int .i64 s.sq]] w fun e w' => e = .returned (.bool true) ∧ Below w.heap.size w w' := by
 have hnx : (s.nx != s.nx) = false := by simp
 have hsq : (s.sq != s.sq) = false := by simp
 have hb0 : Below w.heap.size w w := Below.refl _ _
 go_enter Tryz.func25, Tryz.ntmps25
 go_upto_region 1 with fail
 obtain ⟨qv1, hqv1⟩ := exq ((w).heap.size)
 obtain ⟨w1, hW1⟩ := exq ((w).alloc (.cells #[.slice oCx n1 pCx, .slice oPx n2 pPx, .slice oKx n3 pKx, .slice oBx n4 pBx, .int .i64 s.nx, .int .i64 s.sq] 43))
 have hz1 : (w).heap.size = qv1 := hqv1.symm
 first | rw [← hW1, ← hqv1] | rw [← hW1]
 have hs1 := hsa hW1 hz1
 have bw := bal hW1
 have hb1 := hbt hb0 bw
 have Ex_1 : Hid (ShelfO (w1) Bx (.slice oCx n1 pCx) (.slice oPx n2 pPx) (.slice oKx n3 pKx) (.slice oBx n4 pBx) kvx s) := Ex_0.out.below bw
 have Ey_1 : Hid (ShelfO (w1) By (.slice oCy n1 pCy) (.slice oPy n2 pPy) (.slice oKy n3 pKy) (.slice oBy n4 pBy) kvy s) := Ey_0.out.below bw
 have HBv1_1 := hnew hW1 hz1
 clear hb0 Ex_0 Ey_0 bw hW1 hz1
 obtain ⟨qv2, hqv2⟩ := exq (qv1 + 1)
 obtain ⟨w2, hW2⟩ := exq ((w1).alloc (.cells #[.slice oCy n1 pCy, .slice oPy n2 pPy, .slice oKy n3 pKy, .slice oBy n4 pBy, .int .i64 s.nx, .int .i64 s.sq] 43))
 have hz2 : (w1).heap.size = qv2 := by rw [hqv2]; exact hs1
 first | rw [← hW2, ← hqv2] | rw [← hW2]
 have hs2 := hsa hW2 hz2
 have bw := bal hW2
 have hb2 := hbt hb1 bw
 have HBv1_2 := hblk HBv1_1 bw
 have Ex_2 : Hid (ShelfO (w2) Bx (.slice oCx n1 pCx) (.slice oPx n2 pPx) (.slice oKx n3 pKx) (.slice oBx n4 pBx) kvx s) := Ex_1.out.below bw
 have Ey_2 : Hid (ShelfO (w2) By (.slice oCy n1 pCy) (.slice oPy n2 pPy) (.slice oKy n3 pKy) (.slice oBy n4 pBy) kvy s) := Ey_1.out.below bw
 have HBv2_2 := hnew hW2 hz2
 clear hb1 HBv1_1 Ex_1 Ey_1 bw hW2 hz2
 clear hs2 hqv2 hs1 hqv1
 have cv1_0 := (k6c HBv1_2).1
 have cv1_1 := (k6c HBv1_2).2.1
 have cv2_0 := (k6c HBv2_2).1
 have cv2_1 := (k6c HBv2_2).2.1
 go_wp2_with fail
 refine (eqDisk_any n1 s.cs n2 s.ws _ _ _ _ Bx By _ (show DiskO _ Bx _ n1 s.cs _ n2 s.ws from by have h := Ex_2.out.disk; rw [HL.out.1, HL.out.2.1] at h; exact h) (show DiskO _ By _ n1 s.cs _ n2 s.ws from by have h := Ey_2.out.disk; rw [HL.out.1, HL.out.2.1] at h; exact h) HN.out.1 HN.out.2.1).mono ?_
 rintro e w3 ⟨rfl, bw⟩
 have hb3 := hbt hb2 bw
 have HBv1_3 := hblk HBv1_2 bw
 have HBv2_3 := hblk HBv2_2 bw
 have Ex_3 : Hid (ShelfO (w3) Bx (.slice oCx n1 pCx) (.slice oPx n2 pPx) (.slice oKx n3 pKx) (.slice oBx n4 pBx) kvx s) := Ex_2.out.below bw
 have Ey_3 : Hid (ShelfO (w3) By (.slice oCy n1 pCy) (.slice oPy n2 pPy) (.slice oKy n3 pKy) (.slice oBy n4 pBy) kvy s) := Ey_2.out.below bw
 clear hb2 HBv1_2 HBv2_2 Ex_2 Ey_2 bw
 clear cv1_0 cv1_1 cv2_0 cv2_1
 have cv1_2 := (k6c HBv1_3).2.2.1
 have cv2_2 := (k6c HBv2_3).2.2.1
 go_wp2_with fail
 refine (eqKeptS_any _ _ kvx kvy Bx By _ HKE.out Ex_3.out.kept Ey_3.out.kept HN.out.2.2.1 HSZ.out).mono ?_
 rintro e w4 ⟨rfl, bw⟩
 have hb4 := hbt hb3 bw
 have HBv1_4 := hblk HBv1_3 bw
 have HBv2_4 := hblk HBv2_3 bw
 have Ex_4 : Hid (ShelfO (w4) Bx (.slice oCx n1 pCx) (.slice oPx n2 pPx) (.slice oKx n3 pKx) (.slice oBx n4 pBx) kvx s) := Ex_3.out.below bw
 have Ey_4 : Hid (ShelfO (w4) By (.slice oCy n1 pCy) (.slice oPy n2 pPy) (.slice oKy n3 pKy) (.slice oBy n4 pBy) kvy s) := Ey_3.out.below bw
 clear hb3 HBv1_3 HBv2_3 Ex_3 Ey_3 bw
 clear cv1_2 cv2_2
 have cv1_3 := (k6c HBv1_4).2.2.2.1
 have cv2_3 := (k6c HBv2_4).2.2.2.1
 go_wp2_with fail
 refine (eqBanS_any _ _ n4 _ _ s.bl _ (ban_view (show World.ownsRow _ Bx 103 4 _ n4 (flatBan s.bl) from by have h := Ex_4.out.bans; rw [HL.out.2.2] at h; exact h)) (ban_view (show World.ownsRow _ By 103 4 _ n4 (flatBan s.bl) from by have h := Ey_4.out.bans; rw [HL.out.2.2] at h; exact h)) HN.out.2.2.2).mono ?_
 rintro e w5 ⟨rfl, bw⟩
 have hb5 := hbt hb4 bw
 have HBv1_5 := hblk HBv1_4 bw
 have HBv2_5 := hblk HBv2_4 bw
 have Ex_5 : Hid (ShelfO (w5) Bx (.slice oCx n1 pCx) (.slice oPx n2 pPx) (.slice oKx n3 pKx) (.slice oBx n4 pBx) kvx s) := Ex_4.out.below bw
 have Ey_5 : Hid (ShelfO (w5) By (.slice oCy n1 pCy) (.slice oPy n2 pPy) (.slice oKy n3 pKy) (.slice oBy n4 pBy) kvy s) := Ey_4.out.below bw
 clear hb4 HBv1_4 HBv2_4 Ex_4 Ey_4 bw
 clear cv1_3 cv2_3
 have cv1_4 := (k6c HBv1_5).2.2.2.2.1
 have cv2_4 := (k6c HBv2_5).2.2.2.2.1
 have cv1_5 := (k6c HBv1_5).2.2.2.2.2
 have cv2_5 := (k6c HBv2_5).2.2.2.2.2
 go_wp2_with fail
 go_ret
 exact ⟨rfl, hb5⟩
theorem eqShelf_any (s : ShD) (v1 v2 V VB u1 u2 U UB : Value) (kvx kvy : List (KpD × Value × Value × Value)) (Bx By : Nat) (w : World) (hx : ShelfO w Bx v1 v2 V VB kvx s) (hy : ShelfO w By u1 u2 U UB kvy s) (h1 : s.cs.length ≤ 2000000) (h2 : s.ws.length ≤ 2000000) (h3 : s.ks.length ≤ 2000000) (h4 : s.bl.length ≤ 2000000) (hs : ∀ k ∈ s.ks, k.xs.length ≤ 2000000 ∧ k.ys.length ≤ 2000000 ∧ k.fs.length ≤ 2000000) :
  Calls Tryz.prog 25 #[.agg #[v1, v2, V, VB, .int .i64 s.nx, .int .i64 s.sq], .agg #[u1, u2, U, UB, .int .i64 s.nx, .int .i64 s.sq]] w fun e w' => e = .returned (.bool true) ∧ Below w.heap.size w w' := by
 obtain ⟨oCx, pCx, rfl⟩ := slice_of_owns hx.disk.cells
 obtain ⟨oPx, pPx, rfl⟩ := slice_of_owns hx.disk.pend
 obtain ⟨oBx, pBx, rfl⟩ := slice_of_owns hx.bans
 obtain ⟨oKx, pKx, rfl⟩ := hx.kept.len
 obtain ⟨oCy, pCy, rfl⟩ := slice_of_owns hy.disk.cells
 obtain ⟨oPy, pPy, rfl⟩ := slice_of_owns hy.disk.pend
 obtain ⟨oBy, pBy, rfl⟩ := slice_of_owns hy.bans
 obtain ⟨oKy, pKy, rfl⟩ := hy.kept.len
 have e1 : kvx.length = s.ks.length := by rw [← hx.2, List.length_map]
 have e2 : kvy.length = s.ks.length := by rw [← hy.2, List.length_map]
 rw [e1] at hx ⊢
 rw [e2] at hy ⊢
 exact eqShelf_go s _ _ _ _ oCx oPx oKx oBx oCy oPy oKy oBy pCx pPx pKx pBx pCy pPy pKy pBy kvx kvy Bx By w ⟨rfl, rfl, rfl⟩ ⟨h1, h2, by rw [e1]; exact h3, h4⟩ (fun x hxm => hs x.1 (by rw [← hx.2]; exact List.mem_map.2 ⟨x, hxm, rfl⟩)) (hx.2.trans hy.2.symm) hx hy
end Go.Proofs.YtanpngnpolhgbaaGreat
namespace Go.Proofs.YtanpngnpolhgbaaGreat
open Go.RowKit
open Go.Lib hiding intOf
/-- A store's measure: negative, or what is left of L. -/
def SzShelf (L : Int) (n1 : Nat) (cs : List ByteArray) (n2 : Nat) (ws : List (Int × ByteArray)) (ks : List KpD) (n4 : Nat) (bl : List (Int × ByteArray × ByteArray × Int)) (w : World) (e : Ending) (w' : World) : Prop :=
 ∃ r : Int, e = .returned (.int .i64 r) ∧ r ≤ L ∧ (0 ≤ r → r + (n1 : Int) + (n2 : Int) + (wtK ks : Int) + (n4 : Int) ≤ L ∧ (n1 ≤ 1048576 ∧ ∀ i, i < n1 → (textAt cs i).size ≤ 1048576) ∧ (n2 ≤ 1048576 ∧ ∀ x ∈ ws, (x.2).size ≤ 1048576) ∧ (∀ k ∈ ks, KpSmall k) ∧ (n4 ≤ 1048576 ∧ ∀ x ∈ bl, (x.2.1).size ≤ 1048576 ∧ (x.2.2.1).size ≤ 1048576)) ∧ Below w.heap.size w w'
theorem szShelf_any (L : Int) (hL0 : 0 ≤ L) (hL1 : L ≤ 1048576) (a1 : Option Addr) (n1 c1 : Nat) (cs : List ByteArray) (a2 : Option Addr) (n2 c2 : Nat) (ws : List (Int × ByteArray)) (a3 : Option Addr) (n3 c3 : Nat) (ks : List KpD) (a4 : Option Addr) (n4 c4 : Nat) (bl : List (Int × ByteArray × ByteArray × Int)) (nx sq : Int) (B : Nat) (w : World) (h1 : ArgT w B a1 n1 cs) (h2 : ArgWrite w B a2 n2 ws) (h3 : ArgKept w B a3 n3 ks) (h4 : ArgBan w B a4 n4 bl) (hB : B ≤ w.heap.size) (hm : n1 ≤ maxLen ∧ n2 ≤ maxLen ∧ n3 ≤ maxLen ∧ n4 ≤ maxLen ∧ (∀ i, i < n1 → (textAt cs i).size ≤ maxLen) ∧ (∀ x ∈ ws, (x.2).size ≤ maxLen) ∧ (∀ k ∈ ks, KpMax k) ∧ ∀ x ∈ bl, (x.2.1).size ≤ maxLen ∧ (x.2.2.1).size ≤ maxLen) :
  Calls Tryz.prog 9 #[.agg #[.slice a1 n1 c1, .slice a2 n2 c2, .slice a3 n3 c3, .slice a4 n4 c4, .int .i64 nx, .int .i64 sq], .int .i64 L] w fun e w' => SzShelf L n1 cs n2 ws ks n4 bl w e w' := by
 have HA1 : Hid (∀ W, Below w.heap.size w W → ArgT W B a1 n1 cs) := fun W h => h1.below (h.mono hB)
 have HA2 : Hid (∀ W, Below w.heap.size w W → ArgWrite W B a2 n2 ws) := fun W h => h2.below (h.mono hB)
 have HA3 : Hid (∀ W, Below w.heap.size w W → ArgKept W B a3 n3 ks) := fun W h => h3.below (h.mono hB)
 have HA4 : Hid (∀ W, Below w.heap.size w W → ArgBan W B a4 n4 bl) := fun W h => h4.below (h.mono hB)
 have HBB : Hid (∀ W, Below w.heap.size w W → B ≤ W.heap.size) := fun W h => Nat.le_trans hB h.size
 have HM : Hid (n1 ≤ maxLen ∧ n2 ≤ maxLen ∧ n3 ≤ maxLen ∧ n4 ≤ maxLen ∧ (∀ i, i < n1 → (textAt cs i).size ≤ maxLen) ∧ (∀ x ∈ ws, (x.2).size ≤ maxLen) ∧ (∀ k ∈ ks, KpMax k) ∧ ∀ x ∈ bl, (x.2.1).size ≤ maxLen ∧ (x.2.2.1).size ≤ maxLen) := hm
 clear h1 h2 h3 h4 hm hB
 have hb0 : Below w.heap.size w w := Below.refl _ _
 go_enter Tryz.func9, Tryz.ntmps9
 go_upto_region 1 with fail
 obtain ⟨qv1, hqv1⟩ := exq ((w).heap.size)
 obtain ⟨w1, hW1⟩ := exq ((w).alloc (.cells #[.slice a1 n1 c1, .slice a2 n2 c2, .slice a3 n3 c3, .slice a4 n4 c4, .int .i64 nx, .int .i64 sq] 29))
 have hz1 : (w).heap.size = qv1 := hqv1.symm
 first | rw [← hW1, ← hqv1] | rw [← hW1]
 have hs1 := hsa hW1 hz1
 have bw := bal hW1
 have hb1 := hbt hb0 bw
 have HBv1_1 := hnew hW1 hz1
 clear hb0 bw hW1 hz1
 clear hs1 hqv1
 have cv1_0 := (k6c HBv1_1).1
 have cv1_1 := (k6c HBv1_1).2.1
 go_wp2_with fail
 refine (szDisk_room L (by omega) (by omega) a1 n1 c1 cs a2 n2 c2 ws B _ (HA1.out _ hb1) (HA2.out _ hb1) (HBB.out _ hb1) HM.out.1 HM.out.2.1 HM.out.2.2.2.2.1 HM.out.2.2.2.2.2.1).mono ?_
 rintro e w2 ⟨r1, rfl, hl1, hr1, bw⟩
 have hb2 := hbt hb1 bw
 have HBv1_2 := hblk HBv1_1 bw
 clear hb1 HBv1_1 bw
 clear cv1_0 cv1_1
 by_cases hc1 : r1 < 0
 ·
  clear hr1
  go_wp2_with fail
  go_ret
  exact ⟨-1, rfl, by omega, fun h => absurd h (by omega), hb2⟩
 ·
  have HR1 : Hid _ := hr1 (by omega)
  clear hr1
  have m1 := HR1.out.1
  have cv1_2 := (k6c HBv1_2).2.2.1
  go_wp2_with fail
  refine (szKeptS_any r1 (by omega) (by omega) B a3 n3 c3 ks _ (HA3.out _ hb2) (HBB.out _ hb2) HM.out.2.2.1 HM.out.2.2.2.2.2.2.1).mono ?_
  rintro e w3 ⟨r2, rfl, hl2, hr2, bw⟩
  have hb3 := hbt hb2 bw
  have HBv1_3 := hblk HBv1_2 bw
  clear hb2 HBv1_2 bw
  clear cv1_2
  by_cases hc2 : r2 < 0
  ·
   clear hr2
   go_wp2_with fail
   go_ret
   exact ⟨-1, rfl, by omega, fun h => absurd h (by omega), hb3⟩
  ·
   have HR2 : Hid _ := hr2 (by omega)
   clear hr2
   have m2 := HR2.out.1
   have cv1_3 := (k6c HBv1_3).2.2.2.1
   go_wp2_with fail
   refine (szBanS_room r2 (by omega) (by omega) B a4 n4 c4 bl _ (HA4.out _ hb3) (HBB.out _ hb3) HM.out.2.2.2.1 HM.out.2.2.2.2.2.2.2).mono ?_
   rintro e w4 ⟨r3, rfl, hl3, hr3, bw⟩
   have hb4 := hbt hb3 bw
   have HBv1_4 := hblk HBv1_3 bw
   clear hb3 HBv1_3 bw
   clear cv1_3
   by_cases hc3 : r3 < 0
   ·
    clear hr3
    go_wp2_with fail
    go_ret
    exact ⟨-1, rfl, by omega, fun h => absurd h (by omega), hb4⟩
   ·
    have HR3 : Hid _ := hr3 (by omega)
    clear hr3
    have m3 := HR3.out.1
    go_wp2_with fail
    go_ret
    exact ⟨r3, rfl, by omega, fun _ => ⟨by omega, HR1.out.2.1, HR1.out.2.2, HR2.out.2, HR3.out.2⟩, hb4⟩
end Go.Proofs.YtanpngnpolhgbaaGreat
namespace Go.Proofs.YtanpngnpolhgbaaGreat
open Go.RowKit Go.WideShapes
open Go.Lib hiding intOf
/-- What a cache tells. -/
structure CaD where
 s : ShD
 fl : List FlD
 now : Int
 se : List SeD
 sn : List RpD
/-- All rows of a cache. -/
def caAll (v1 v2 V VB F E R : Value) (kv : List (KpD × Value × Value × Value)) (fv : List FlV) (ev : List SeV) (rv : List RpV) (cs : List ByteArray) (ws : List (Int × ByteArray)) (bl : List (Int × ByteArray × ByteArray × Int)) : List Rw := ((shAll v1 v2 V VB kv cs ws bl ++ flAll F fv) ++ seAll E ev) ++ rpAll R rv
/-- A cache of one's own. -/
structure CacheO (w : World) (base : Nat) (v1 v2 V VB F E R : Value) (kv : List (KpD × Value × Value × Value)) (fv : List FlV) (ev : List SeV) (rv : List RpV) (c : CaD) : Prop where
 rows : RowsO w base (caAll v1 v2 V VB F E R kv fv ev rv c.s.cs c.s.ws c.s.bl)
 hk : kv.map (·.1) = c.s.ks
 hf : fv.map (·.d) = c.fl
 he : ev.map (·.d) = c.se
 hr : rv.map (·.d) = c.sn
theorem CacheO.shelf {w : World} {base : Nat} {v1 v2 V VB F E R : Value} {kv : List (KpD × Value × Value × Value)} {fv : List FlV} {ev : List SeV} {rv : List RpV} {c : CaD} (h : CacheO w base v1 v2 V VB F E R kv fv ev rv c) : ShelfO w base v1 v2 V VB kv c.s := ⟨RowsO.sub h.rows ((List.sublist_append_left _ _).trans ((List.sublist_append_left _ _).trans (List.sublist_append_left _ _))), h.hk⟩
theorem CacheO.fls {w : World} {base : Nat} {v1 v2 V VB F E R : Value} {kv : List (KpD × Value × Value × Value)} {fv : List FlV} {ev : List SeV} {rv : List RpV} {c : CaD} (h : CacheO w base v1 v2 V VB F E R kv fv ev rv c) : FlsO w base F fv := RowsO.sub h.rows ((List.sublist_append_right _ _).trans ((List.sublist_append_left _ _).trans (List.sublist_append_left _ _)))
theorem CacheO.ses {w : World} {base : Nat} {v1 v2 V VB F E R : Value} {kv : List (KpD × Value × Value × Value)} {fv : List FlV} {ev : List SeV} {rv : List RpV} {c : CaD} (h : CacheO w base v1 v2 V VB F E R kv fv ev rv c) : SesO w base E ev := RowsO.sub h.rows ((List.sublist_append_right _ _).trans (List.sublist_append_left _ _))
theorem CacheO.rps {w : World} {base : Nat} {v1 v2 V VB F E R : Value} {kv : List (KpD × Value × Value × Value)} {fv : List FlV} {ev : List SeV} {rv : List RpV} {c : CaD} (h : CacheO w base v1 v2 V VB F E R kv fv ev rv c) : RpsO w base R rv := RowsO.sub h.rows (List.sublist_append_right _ _)
theorem CacheO.below {w : World} {base : Nat} {v1 v2 V VB F E R : Value} {kv : List (KpD × Value × Value × Value)} {fv : List FlV} {ev : List SeV} {rv : List RpV} {c : CaD} {w' : World} (h : CacheO w base v1 v2 V VB F E R kv fv ev rv c) (hb : Below w.heap.size w w') : CacheO w' base v1 v2 V VB F E R kv fv ev rv c := ⟨h.rows.below hb, h.hk, h.hf, h.he, h.hr⟩
theorem flAll_T {V : Value} {kv : List FlV} {r : Rw} (h : r ∈ flAll V kv) : r.T = 67 ∨ r.T = 150 ∨ r.T = 3 ∨ r.T = 9 := by
 rcases List.mem_cons.1 h with h | h
 · exact .inl (by rw [h]; rfl)
 ·
  obtain ⟨x, _, hx⟩ := List.mem_flatMap.1 h
  exact .inr (flR_T hx)
theorem seAll_T {V : Value} {kv : List SeV} {r : Rw} (h : r ∈ seAll V kv) : r.T = 121 ∨ r.T = 150 := by
 rcases List.mem_cons.1 h with h | h
 · exact .inl (by rw [h]; rfl)
 ·
  obtain ⟨x, _, hx⟩ := List.mem_flatMap.1 h
  exact .inr (seR_T hx)
theorem rpAll_T {V : Value} {kv : List RpV} {r : Rw} (h : r ∈ rpAll V kv) : r.T = 124 ∨ r.T = 150 ∨ r.T = 9 := by
 rcases List.mem_cons.1 h with h | h
 · exact .inl (by rw [h]; rfl)
 ·
  obtain ⟨x, _, hx⟩ := List.mem_flatMap.1 h
  exact .inr (rpR_T hx)
theorem shAll_noC (T : TypeId) (hT : T ≠ 9 ∧ T ≠ 148 ∧ T ≠ 105 ∧ T ≠ 103 ∧ T ≠ 150 ∧ T ≠ 3 ∧ T ≠ 67 ∧ T ≠ 121 ∧ T ≠ 124) {v1 v2 V VB : Value} {kv : List (KpD × Value × Value × Value)} {cs : List ByteArray} {ws : List (Int × ByteArray)} {bl : List (Int × ByteArray × ByteArray × Int)} : ∀ r ∈ shAll v1 v2 V VB kv cs ws bl, T ≠ r.T := by
 intro r hr
 unfold shAll at hr
 rcases List.mem_append.1 hr with hr | hr
 ·
  rcases List.mem_append.1 hr with hr | hr
  ·
   simp only [List.mem_cons, List.not_mem_nil, or_false] at hr
   rcases hr with rfl | rfl
   · exact hT.1
   · exact hT.2.1
  ·
   rcases kpAll_T hr with e | e | e
   · rw [e]; exact hT.2.2.1
   · rw [e]; exact hT.1
   · rw [e]; exact hT.2.2.2.2.1
 · rw [List.mem_singleton.1 hr]; exact hT.2.2.2.1
/-- A call answers a cache of its own. -/
def CacheIs (c : CaD) (w : World) (e : Ending) (w' : World) : Prop := ∃ (v1 v2 V VB F E R : Value) (kv : List (KpD × Value × Value × Value)) (fv : List FlV) (ev : List SeV) (rv : List RpV), e = .returned (.agg #[v1, v2, V, VB, .int .i64 c.s.nx, .int .i64 c.s.sq, F, .int .i64 c.now, E, R]) ∧ CacheO w' w.heap.size v1 v2 V VB F E R kv fv ev rv c ∧ Below w.heap.size w w'
/-- Short enough to be copied. -/
structure CaLen (n1 n2 n3 n4 n5 n6 n7 : Nat) (ks : List KpD) (fl : List FlD) (se : List SeD) (sn : List RpD) : Prop where
 a : n1 ≤ 1048576
 b : n2 ≤ 1048576
 c : n3 ≤ 1048576
 d : n4 ≤ 1048576
 e : n5 ≤ 1048576
 f : n6 ≤ 1048576
 g : n7 ≤ 1048576
 ks : ∀ k ∈ ks, k.xs.length ≤ 1048576 ∧ k.ys.length ≤ 1048576 ∧ k.fs.length ≤ 1048576
 fl : ∀ k ∈ fl, FlLen k
 se : ∀ k ∈ se, SeLen k
 sn : ∀ k ∈ sn, RpLen k
theorem toCache_any (a1 : Option Addr) (n1 c1 : Nat) (cs : List ByteArray) (a2 : Option Addr) (n2 c2 : Nat) (ws : List (Int × ByteArray)) (a3 : Option Addr) (n3 c3 : Nat) (ks : List KpD) (a4 : Option Addr) (n4 c4 : Nat) (bl : List (Int × ByteArray × ByteArray × Int)) (nx sq : Int) (a5 : Option Addr) (n5 c5 : Nat) (fl : List FlD) (now : Int) (a6 : Option Addr) (n6 c6 : Nat) (se : List SeD) (a7 : Option Addr) (n7 c7 : Nat) (sn : List RpD) (B : Nat) (w : World) (h1 : ArgT w B a1 n1 cs) (h2 : ArgWrite w B a2 n2 ws) (h3 : ArgKept w B a3 n3 ks) (h4 : ArgBan w B a4 n4 bl) (h5 : ArgFlight w B a5 n5 fl) (h6 : ArgSeen w B a6 n6 se) (h7 : ArgReply w B a7 n7 sn) (hB : B ≤ w.heap.size) (hn : CaLen n1 n2 n3 n4 n5 n6 n7 ks fl se sn) :
  Calls Tryz.prog 6 #[.agg #[.slice a1 n1 c1, .slice a2 n2 c2, .slice a3 n3 c3, .slice a4 n4 c4, .int .i64 nx, .int .i64 sq, .slice a5 n5 c5, .int .i64 now, .slice a6 n6 c6, .slice a7 n7 c7]] w fun e w' => CacheIs ⟨⟨cs, ws, ks, bl, nx, sq⟩, fl, now, se, sn⟩ w e w' := by
 have HA1 : Hid (∀ W, Below w.heap.size w W → ArgT W B a1 n1 cs) := fun W h => h1.below (h.mono hB)
 have HA2 : Hid (∀ W, Below w.heap.size w W → ArgWrite W B a2 n2 ws) := fun W h => h2.below (h.mono hB)
 have HA3 : Hid (∀ W, Below w.heap.size w W → ArgKept W B a3 n3 ks) := fun W h => h3.below (h.mono hB)
 have HA4 : Hid (∀ W, Below w.heap.size w W → ArgBan W B a4 n4 bl) := fun W h => h4.below (h.mono hB)
 have HA5 : Hid (∀ W, Below w.heap.size w W → ArgFlight W B a5 n5 fl) := fun W h => h5.below (h.mono hB)
 have HA6 : Hid (∀ W, Below w.heap.size w W → ArgSeen W B a6 n6 se) := fun W h => h6.below (h.mono hB)
 have HA7 : Hid (∀ W, Below w.heap.size w W → ArgReply W B a7 n7 sn) := fun W h => h7.below (h.mono hB)
 have HBB : Hid (∀ W, Below w.heap.size w W → B ≤ W.heap.size) := fun W h => Nat.le_trans hB h.size
 have HN : Hid (CaLen n1 n2 n3 n4 n5 n6 n7 ks fl se sn) := hn
 clear h1 h2 h3 h4 h5 h6 h7 hn hB
 have hb0 : Below w.heap.size w w := Below.refl _ _
 go_enter Tryz.func6, Tryz.ntmps6
 go_upto_region 1 with fail
 obtain ⟨qv1, hqv1⟩ := exq ((w).heap.size)
 obtain ⟨w1, hW1⟩ := exq ((w).alloc (.cells #[.slice a1 n1 c1, .slice a2 n2 c2, .slice a3 n3 c3, .slice a4 n4 c4, .int .i64 nx, .int .i64 sq, .slice a5 n5 c5, .int .i64 now, .slice a6 n6 c6, .slice a7 n7 c7] 34))
 have hz1 : (w).heap.size = qv1 := hqv1.symm
 first | rw [← hW1, ← hqv1] | rw [← hW1]
 have hs1 := hsa hW1 hz1
 have bw := bal hW1
 have hb1 := hbt hb0 bw
 have HBv1_1 := hnew hW1 hz1
 clear hb0 bw hW1 hz1
 obtain ⟨qv2, hqv2⟩ := exq (qv1 + 1)
 obtain ⟨w2, hW2⟩ := exq ((w1).alloc (.cells #[.slice none 0 0, .slice none 0 0, .slice none 0 0, .slice none 0 0, .int .i64 0, .int .i64 0, .slice none 0 0, .int .i64 0, .slice none 0 0, .slice none 0 0] 48))
 have hz2 : (w1).heap.size = qv2 := by rw [hqv2]; exact hs1
 first | rw [← hW2, ← hqv2] | rw [← hW2]
 have hs2 := hsa hW2 hz2
 have bw := bal hW2
 have hb2 := hbt hb1 bw
 have HBv1_2 := hblk HBv1_1 bw
 have HNv1v2 : Hid (qv1 ≠ qv2) := fun e => by have h1 := (Array.getElem?_eq_some_iff.1 HBv1_1.out).1; omega
 have HBv2_2 := hnew hW2 hz2
 have HGv2 := hge hz2 hb1
 clear hb1 HBv1_1 bw hW2 hz2
 clear hs2 hqv2 hs1 hqv1
 go_upto_region 2 with fail
 obtain ⟨qv3, hqv3⟩ := exq ((w2).heap.size)
 obtain ⟨w3, hW3⟩ := exq ((w2).alloc (.cells #[.slice none 0 0, .slice none 0 0, .slice none 0 0, .slice none 0 0, .int .i64 0, .int .i64 0, .slice none 0 0, .int .i64 0, .slice none 0 0, .slice none 0 0] 48))
 have hz3 : (w2).heap.size = qv3 := hqv3.symm
 first | rw [← hW3, ← hqv3] | rw [← hW3]
 have hs3 := hsa hW3 hz3
 have bw := bal hW3
 have hb3 := hbt hb2 bw
 have HBv1_3 := hblk HBv1_2 bw
 have HBv2_3 := hblk HBv2_2 bw
 have HNv1v3 : Hid (qv1 ≠ qv3) := fun e => by have h1 := (Array.getElem?_eq_some_iff.1 HBv1_2.out).1; omega
 have HNv2v3 : Hid (qv2 ≠ qv3) := fun e => by have h1 := (Array.getElem?_eq_some_iff.1 HBv2_2.out).1; omega
 have HBv3_3 := hnew hW3 hz3
 have HGv3 := hge hz3 hb2
 clear hb2 HBv1_2 HBv2_2 bw hW3 hz3
 clear hs3 hqv3
 have cv1_0 := (k10c HBv1_3).1
 have cv1_1 := (k10c HBv1_3).2.1
 have cv1_2 := (k10c HBv1_3).2.2.1
 have cv1_3 := (k10c HBv1_3).2.2.2.1
 have cv1_4 := (k10c HBv1_3).2.2.2.2.1
 have cv1_5 := (k10c HBv1_3).2.2.2.2.2.1
 go_wp2_with fail
 refine (toShelf_any a1 n1 c1 cs a2 n2 c2 ws a3 n3 c3 ks a4 n4 c4 bl nx sq B _ (HA1.out _ hb3) (HA2.out _ hb3) (HA3.out _ hb3) (HA4.out _ hb3) (HBB.out _ hb3) HN.out.a HN.out.b HN.out.c HN.out.d HN.out.ks).mono ?_
 rintro e w4 ⟨va, vb, vc, vd, kv, rfl, hso, bw⟩
 have HKM : Hid (kv.map (·.1) = ks) := hso.2
 obtain ⟨oC, pC, rfl⟩ := slice_of_owns hso.disk.cells
 obtain ⟨oP, pP, rfl⟩ := slice_of_owns hso.disk.pend
 obtain ⟨oK, pK, rfl⟩ := hso.kept.len
 obtain ⟨oB, pB, rfl⟩ := slice_of_owns hso.bans
 dsimp only at hso ⊢
 have HRN : Hid (RowsO w4 w.heap.size (shAll (.slice oC cs.length pC) (.slice oP ws.length pP) (.slice oK kv.length pK) (.slice oB bl.length pB) kv cs ws bl)) := RowsO.wide hso.1 hb3.size
 have HT0 : Hid (∀ r ∈ (shAll (.slice oC cs.length pC) (.slice oP ws.length pP) (.slice oK kv.length pK) (.slice oB bl.length pB) kv cs ws bl), 48 ≠ r.T) := shAll_noC 48 ⟨by decide, by decide, by decide, by decide, by decide, by decide, by decide, by decide, by decide⟩
 have hb4 := hbt hb3 bw
 have HBv1_4 := hblk HBv1_3 bw
 have HBv2_4 := hblk HBv2_3 bw
 have HBv3_4 := hblk HBv3_3 bw
 clear hb3 HBv1_3 HBv2_3 HBv3_3 bw
 have ER_4 : Hid (RowsO (w4) w.heap.size (shAll (.slice oC cs.length pC) (.slice oP ws.length pP) (.slice oK kv.length pK) (.slice oB bl.length pB) kv cs ws bl)) := HRN.out
 clear HRN
 clear cv1_0 cv1_1 cv1_2 cv1_3 cv1_4 cv1_5
 have cv3_0 := (k10c HBv3_4).1
 have fcv3_0 := hfz HBv3_4 0
 have cv3_1 := (k10c HBv3_4).2.1
 have fcv3_1 := hfz HBv3_4 1
 have cv3_2 := (k10c HBv3_4).2.2.1
 have fcv3_2 := hfz HBv3_4 2
 have cv3_3 := (k10c HBv3_4).2.2.2.1
 have fcv3_3 := hfz HBv3_4 3
 have cv3_4 := (k10c HBv3_4).2.2.2.2.1
 have fcv3_4 := hfz HBv3_4 4
 have cv3_5 := (k10c HBv3_4).2.2.2.2.2.1
 have fcv3_5 := hfz HBv3_4 5
 go_upto_region 3 with fail
 obtain ⟨w5, hW5⟩ := exq ((w4).setCell ⟨qv3, 0, none⟩ (.slice oC cs.length pC))
 rw [← hW5]
 have hb5 : Below w.heap.size w (w5) := by rw [hW5]; exact (hb4.setCell (p := ⟨qv3, 0, none⟩) HGv3.out _)
 have HBv1_5 := hset hW5 HNv1v3.out HBv1_4
 have HBv2_5 := hset hW5 HNv2v3.out HBv2_4
 have ER_5 : Hid (RowsO (w5) w.heap.size (shAll (.slice oC cs.length pC) (.slice oP ws.length pP) (.slice oK kv.length pK) (.slice oB bl.length pB) kv cs ws bl)) := by show RowsO _ _ _; rw [hW5]; exact RowsO.other ER_4.out HBv3_4.out HT0.out
 have HBv3_5 : Hid ((w5).heap[qv3]? = some (.cells #[.slice oC cs.length pC, .slice none 0 0, .slice none 0 0, .slice none 0 0, .int .i64 0, .int .i64 0, .slice none 0 0, .int .i64 0, .slice none 0 0, .slice none 0 0] 48)) := by show _ = _; rw [hW5]; have h := heap_set _ _ 0 _ _ _ (.slice oC cs.length pC) HBv3_4.out; simpa using h
 clear hb4 HBv1_4 HBv2_4 HBv3_4 ER_4 hW5
 obtain ⟨w6, hW6⟩ := exq ((w5).setCell ⟨qv3, 1, none⟩ (.slice oP ws.length pP))
 rw [← hW6]
 have hb6 : Below w.heap.size w (w6) := by rw [hW6]; exact (hb5.setCell (p := ⟨qv3, 1, none⟩) HGv3.out _)
 have HBv1_6 := hset hW6 HNv1v3.out HBv1_5
 have HBv2_6 := hset hW6 HNv2v3.out HBv2_5
 have ER_6 : Hid (RowsO (w6) w.heap.size (shAll (.slice oC cs.length pC) (.slice oP ws.length pP) (.slice oK kv.length pK) (.slice oB bl.length pB) kv cs ws bl)) := by show RowsO _ _ _; rw [hW6]; exact RowsO.other ER_5.out HBv3_5.out HT0.out
 have HBv3_6 : Hid ((w6).heap[qv3]? = some (.cells #[.slice oC cs.length pC, .slice oP ws.length pP, .slice none 0 0, .slice none 0 0, .int .i64 0, .int .i64 0, .slice none 0 0, .int .i64 0, .slice none 0 0, .slice none 0 0] 48)) := by show _ = _; rw [hW6]; have h := heap_set _ _ 1 _ _ _ (.slice oP ws.length pP) HBv3_5.out; simpa using h
 clear hb5 HBv1_5 HBv2_5 HBv3_5 ER_5 hW6
 obtain ⟨w7, hW7⟩ := exq ((w6).setCell ⟨qv3, 2, none⟩ (.slice oK kv.length pK))
 rw [← hW7]
 have hb7 : Below w.heap.size w (w7) := by rw [hW7]; exact (hb6.setCell (p := ⟨qv3, 2, none⟩) HGv3.out _)
 have HBv1_7 := hset hW7 HNv1v3.out HBv1_6
 have HBv2_7 := hset hW7 HNv2v3.out HBv2_6
 have ER_7 : Hid (RowsO (w7) w.heap.size (shAll (.slice oC cs.length pC) (.slice oP ws.length pP) (.slice oK kv.length pK) (.slice oB bl.length pB) kv cs ws bl)) := by show RowsO _ _ _; rw [hW7]; exact RowsO.other ER_6.out HBv3_6.out HT0.out
 have HBv3_7 : Hid ((w7).heap[qv3]? = some (.cells #[.slice oC cs.length pC, .slice oP ws.length pP, .slice oK kv.length pK, .slice none 0 0, .int .i64 0, .int .i64 0, .slice none 0 0, .int .i64 0, .slice none 0 0, .slice none 0 0] 48)) := by show _ = _; rw [hW7]; have h := heap_set _ _ 2 _ _ _ (.slice oK kv.length pK) HBv3_6.out; simpa using h
 clear hb6 HBv1_6 HBv2_6 HBv3_6 ER_6 hW7
 obtain ⟨w8, hW8⟩ := exq ((w7).setCell ⟨qv3, 3, none⟩ (.slice oB bl.length pB))
 rw [← hW8]
 have hb8 : Below w.heap.size w (w8) := by rw [hW8]; exact (hb7.setCell (p := ⟨qv3, 3, none⟩) HGv3.out _)
 have HBv1_8 := hset hW8 HNv1v3.out HBv1_7
 have HBv2_8 := hset hW8 HNv2v3.out HBv2_7
 have ER_8 : Hid (RowsO (w8) w.heap.size (shAll (.slice oC cs.length pC) (.slice oP ws.length pP) (.slice oK kv.length pK) (.slice oB bl.length pB) kv cs ws bl)) := by show RowsO _ _ _; rw [hW8]; exact RowsO.other ER_7.out HBv3_7.out HT0.out
 have HBv3_8 : Hid ((w8).heap[qv3]? = some (.cells #[.slice oC cs.length pC, .slice oP ws.length pP, .slice oK kv.length pK, .slice oB bl.length pB, .int .i64 0, .int .i64 0, .slice none 0 0, .int .i64 0, .slice none 0 0, .slice none 0 0] 48)) := by show _ = _; rw [hW8]; have h := heap_set _ _ 3 _ _ _ (.slice oB bl.length pB) HBv3_7.out; simpa using h
 clear hb7 HBv1_7 HBv2_7 HBv3_7 ER_7 hW8
 obtain ⟨w9, hW9⟩ := exq ((w8).setCell ⟨qv3, 4, none⟩ (.int .i64 nx))
 rw [← hW9]
 have hb9 : Below w.heap.size w (w9) := by rw [hW9]; exact (hb8.setCell (p := ⟨qv3, 4, none⟩) HGv3.out _)
 have HBv1_9 := hset hW9 HNv1v3.out HBv1_8
 have HBv2_9 := hset hW9 HNv2v3.out HBv2_8
 have ER_9 : Hid (RowsO (w9) w.heap.size (shAll (.slice oC cs.length pC) (.slice oP ws.length pP) (.slice oK kv.length pK) (.slice oB bl.length pB) kv cs ws bl)) := by show RowsO _ _ _; rw [hW9]; exact RowsO.other ER_8.out HBv3_8.out HT0.out
 have HBv3_9 : Hid ((w9).heap[qv3]? = some (.cells #[.slice oC cs.length pC, .slice oP ws.length pP, .slice oK kv.length pK, .slice oB bl.length pB, .int .i64 nx, .int .i64 0, .slice none 0 0, .int .i64 0, .slice none 0 0, .slice none 0 0] 48)) := by show _ = _; rw [hW9]; have h := heap_set _ _ 4 _ _ _ (.int .i64 nx) HBv3_8.out; simpa using h
 clear hb8 HBv1_8 HBv2_8 HBv3_8 ER_8 hW9
 obtain ⟨w10, hW10⟩ := exq ((w9).setCell ⟨qv3, 5, none⟩ (.int .i64 sq))
 rw [← hW10]
 have hb10 : Below w.heap.size w (w10) := by rw [hW10]; exact (hb9.setCell (p := ⟨qv3, 5, none⟩) HGv3.out _)
 have HBv1_10 := hset hW10 HNv1v3.out HBv1_9
 have HBv2_10 := hset hW10 HNv2v3.out HBv2_9
 have ER_10 : Hid (RowsO (w10) w.heap.size (shAll (.slice oC cs.length pC) (.slice oP ws.length pP) (.slice oK kv.length pK) (.slice oB bl.length pB) kv cs ws bl)) := by show RowsO _ _ _; rw [hW10]; exact RowsO.other ER_9.out HBv3_9.out HT0.out
 have HBv3_10 : Hid ((w10).heap[qv3]? = some (.cells #[.slice oC cs.length pC, .slice oP ws.length pP, .slice oK kv.length pK, .slice oB bl.length pB, .int .i64 nx, .int .i64 sq, .slice none 0 0, .int .i64 0, .slice none 0 0, .slice none 0 0] 48)) := by show _ = _; rw [hW10]; have h := heap_set _ _ 5 _ _ _ (.int .i64 sq) HBv3_9.out; simpa using h
 clear hb9 HBv1_9 HBv2_9 HBv3_9 ER_9 hW10
 clear cv3_0 fcv3_0 cv3_1 fcv3_1 cv3_2 fcv3_2 cv3_3 fcv3_3 cv3_4 fcv3_4 cv3_5 fcv3_5
 have cv1_6 := (k10c HBv1_10).2.2.2.2.2.2.1
 go_wp2_with fail
 refine (toFlightS_any B a5 n5 c5 fl _ (HA5.out _ hb10) (HBB.out _ hb10) HN.out.e HN.out.fl).mono ?_
 rintro e w11 ⟨VF, fv, rfl, hfm, hfo, bw⟩
 have HFM : Hid (fv.map (·.d) = fl) := hfm
 obtain ⟨oF, pF, rfl⟩ := hfo.len
 have HRN : Hid (RowsO w11 w.heap.size (shAll (.slice oC cs.length pC) (.slice oP ws.length pP) (.slice oK kv.length pK) (.slice oB bl.length pB) kv cs ws bl ++ flAll (.slice oF fv.length pF) fv)) := ER_10.out.more bw hfo (Nat.le_refl _) hb10.size
 have HT1 : Hid (∀ r ∈ (shAll (.slice oC cs.length pC) (.slice oP ws.length pP) (.slice oK kv.length pK) (.slice oB bl.length pB) kv cs ws bl ++ flAll (.slice oF fv.length pF) fv), 48 ≠ r.T) := by
  intro r hr
  rcases List.mem_append.1 hr with hr | hr
  · exact HT0.out r hr
  · rcases flAll_T hr with e | e | e | e <;> rw [e] <;> decide
 have hb11 := hbt hb10 bw
 have HBv1_11 := hblk HBv1_10 bw
 have HBv2_11 := hblk HBv2_10 bw
 have HBv3_11 := hblk HBv3_10 bw
 have ER_11 : Hid (RowsO (w11) w.heap.size (shAll (.slice oC cs.length pC) (.slice oP ws.length pP) (.slice oK kv.length pK) (.slice oB bl.length pB) kv cs ws bl)) := ER_10.out.below bw
 clear hb10 HBv1_10 HBv2_10 HBv3_10 ER_10 bw
 clear ER_11
 have ER_11 : Hid (RowsO (w11) w.heap.size (shAll (.slice oC cs.length pC) (.slice oP ws.length pP) (.slice oK kv.length pK) (.slice oB bl.length pB) kv cs ws bl ++ flAll (.slice oF fv.length pF) fv)) := HRN.out
 clear HRN
 clear cv1_6
 have cv3_6 := (k10c HBv3_11).2.2.2.2.2.2.1
 have fcv3_6 := hfz HBv3_11 6
 go_upto_region 4 with fail
 obtain ⟨w12, hW12⟩ := exq ((w11).setCell ⟨qv3, 6, none⟩ (.slice oF fv.length pF))
 rw [← hW12]
 have hb12 : Below w.heap.size w (w12) := by rw [hW12]; exact (hb11.setCell (p := ⟨qv3, 6, none⟩) HGv3.out _)
 have HBv1_12 := hset hW12 HNv1v3.out HBv1_11
 have HBv2_12 := hset hW12 HNv2v3.out HBv2_11
 have ER_12 : Hid (RowsO (w12) w.heap.size (shAll (.slice oC cs.length pC) (.slice oP ws.length pP) (.slice oK kv.length pK) (.slice oB bl.length pB) kv cs ws bl ++ flAll (.slice oF fv.length pF) fv)) := by show RowsO _ _ _; rw [hW12]; exact RowsO.other ER_11.out HBv3_11.out HT1.out
 have HBv3_12 : Hid ((w12).heap[qv3]? = some (.cells #[.slice oC cs.length pC, .slice oP ws.length pP, .slice oK kv.length pK, .slice oB bl.length pB, .int .i64 nx, .int .i64 sq, .slice oF fv.length pF, .int .i64 0, .slice none 0 0, .slice none 0 0] 48)) := by show _ = _; rw [hW12]; have h := heap_set _ _ 6 _ _ _ (.slice oF fv.length pF) HBv3_11.out; simpa using h
 clear hb11 HBv1_11 HBv2_11 HBv3_11 ER_11 hW12
 clear cv3_6 fcv3_6
 have cv1_7 := (k10c HBv1_12).2.2.2.2.2.2.2.1
 have cv3_7 := (k10c HBv3_12).2.2.2.2.2.2.2.1
 have fcv3_7 := hfz HBv3_12 7
 go_upto_region 5 with fail
 obtain ⟨w13, hW13⟩ := exq ((w12).setCell ⟨qv3, 7, none⟩ (.int .i64 now))
 rw [← hW13]
 have hb13 : Below w.heap.size w (w13) := by rw [hW13]; exact (hb12.setCell (p := ⟨qv3, 7, none⟩) HGv3.out _)
 have HBv1_13 := hset hW13 HNv1v3.out HBv1_12
 have HBv2_13 := hset hW13 HNv2v3.out HBv2_12
 have ER_13 : Hid (RowsO (w13) w.heap.size (shAll (.slice oC cs.length pC) (.slice oP ws.length pP) (.slice oK kv.length pK) (.slice oB bl.length pB) kv cs ws bl ++ flAll (.slice oF fv.length pF) fv)) := by show RowsO _ _ _; rw [hW13]; exact RowsO.other ER_12.out HBv3_12.out HT1.out
 have HBv3_13 : Hid ((w13).heap[qv3]? = some (.cells #[.slice oC cs.length pC, .slice oP ws.length pP, .slice oK kv.length pK, .slice oB bl.length pB, .int .i64 nx, .int .i64 sq, .slice oF fv.length pF, .int .i64 now, .slice none 0 0, .slice none 0 0] 48)) := by show _ = _; rw [hW13]; have h := heap_set _ _ 7 _ _ _ (.int .i64 now) HBv3_12.out; simpa using h
 clear hb12 HBv1_12 HBv2_12 HBv3_12 ER_12 hW13
 clear cv1_7 cv3_7 fcv3_7
 have cv1_8 := (k10c HBv1_13).2.2.2.2.2.2.2.2.1
 go_wp2_with fail
 refine (toSeenS_any B a6 n6 c6 se _ (HA6.out _ hb13) (HBB.out _ hb13) HN.out.f HN.out.se).mono ?_
 rintro e w14 ⟨VE, ev, rfl, hem, heo, bw⟩
 have HEM : Hid (ev.map (·.d) = se) := hem
 obtain ⟨oE, pE, rfl⟩ := heo.len
 have HRN : Hid (RowsO w14 w.heap.size ((shAll (.slice oC cs.length pC) (.slice oP ws.length pP) (.slice oK kv.length pK) (.slice oB bl.length pB) kv cs ws bl ++ flAll (.slice oF fv.length pF) fv) ++ seAll (.slice oE ev.length pE) ev)) := ER_13.out.more bw heo (Nat.le_refl _) hb13.size
 have HT2 : Hid (∀ r ∈ ((shAll (.slice oC cs.length pC) (.slice oP ws.length pP) (.slice oK kv.length pK) (.slice oB bl.length pB) kv cs ws bl ++ flAll (.slice oF fv.length pF) fv) ++ seAll (.slice oE ev.length pE) ev), 48 ≠ r.T) := by
  intro r hr
  rcases List.mem_append.1 hr with hr | hr
  · exact HT1.out r hr
  · rcases seAll_T hr with e | e <;> rw [e] <;> decide
 have hb14 := hbt hb13 bw
 have HBv1_14 := hblk HBv1_13 bw
 have HBv2_14 := hblk HBv2_13 bw
 have HBv3_14 := hblk HBv3_13 bw
 have ER_14 : Hid (RowsO (w14) w.heap.size (shAll (.slice oC cs.length pC) (.slice oP ws.length pP) (.slice oK kv.length pK) (.slice oB bl.length pB) kv cs ws bl ++ flAll (.slice oF fv.length pF) fv)) := ER_13.out.below bw
 clear hb13 HBv1_13 HBv2_13 HBv3_13 ER_13 bw
 clear ER_14
 have ER_14 : Hid (RowsO (w14) w.heap.size ((shAll (.slice oC cs.length pC) (.slice oP ws.length pP) (.slice oK kv.length pK) (.slice oB bl.length pB) kv cs ws bl ++ flAll (.slice oF fv.length pF) fv) ++ seAll (.slice oE ev.length pE) ev)) := HRN.out
 clear HRN
 clear cv1_8
 have cv3_8 := (k10c HBv3_14).2.2.2.2.2.2.2.2.1
 have fcv3_8 := hfz HBv3_14 8
 go_upto_region 6 with fail
 obtain ⟨w15, hW15⟩ := exq ((w14).setCell ⟨qv3, 8, none⟩ (.slice oE ev.length pE))
 rw [← hW15]
 have hb15 : Below w.heap.size w (w15) := by rw [hW15]; exact (hb14.setCell (p := ⟨qv3, 8, none⟩) HGv3.out _)
 have HBv1_15 := hset hW15 HNv1v3.out HBv1_14
 have HBv2_15 := hset hW15 HNv2v3.out HBv2_14
 have ER_15 : Hid (RowsO (w15) w.heap.size ((shAll (.slice oC cs.length pC) (.slice oP ws.length pP) (.slice oK kv.length pK) (.slice oB bl.length pB) kv cs ws bl ++ flAll (.slice oF fv.length pF) fv) ++ seAll (.slice oE ev.length pE) ev)) := by show RowsO _ _ _; rw [hW15]; exact RowsO.other ER_14.out HBv3_14.out HT2.out
 have HBv3_15 : Hid ((w15).heap[qv3]? = some (.cells #[.slice oC cs.length pC, .slice oP ws.length pP, .slice oK kv.length pK, .slice oB bl.length pB, .int .i64 nx, .int .i64 sq, .slice oF fv.length pF, .int .i64 now, .slice oE ev.length pE, .slice none 0 0] 48)) := by show _ = _; rw [hW15]; have h := heap_set _ _ 8 _ _ _ (.slice oE ev.length pE) HBv3_14.out; simpa using h
 clear hb14 HBv1_14 HBv2_14 HBv3_14 ER_14 hW15
 clear cv3_8 fcv3_8
 have cv1_9 := (k10c HBv1_15).2.2.2.2.2.2.2.2.2
 go_wp2_with fail
 refine (toReplyS_any B a7 n7 c7 sn _ (HA7.out _ hb15) (HBB.out _ hb15) HN.out.g HN.out.sn).mono ?_
 rintro e w16 ⟨VR, rv, rfl, hrm, hro, bw⟩
 have HRM : Hid (rv.map (·.d) = sn) := hrm
 obtain ⟨oR, pR, rfl⟩ := hro.len
 have HRN : Hid (RowsO w16 w.heap.size (((shAll (.slice oC cs.length pC) (.slice oP ws.length pP) (.slice oK kv.length pK) (.slice oB bl.length pB) kv cs ws bl ++ flAll (.slice oF fv.length pF) fv) ++ seAll (.slice oE ev.length pE) ev) ++ rpAll (.slice oR rv.length pR) rv)) := ER_15.out.more bw hro (Nat.le_refl _) hb15.size
 have HT3 : Hid (∀ r ∈ (((shAll (.slice oC cs.length pC) (.slice oP ws.length pP) (.slice oK kv.length pK) (.slice oB bl.length pB) kv cs ws bl ++ flAll (.slice oF fv.length pF) fv) ++ seAll (.slice oE ev.length pE) ev) ++ rpAll (.slice oR rv.length pR) rv), 48 ≠ r.T) := by
  intro r hr
  rcases List.mem_append.1 hr with hr | hr
  · exact HT2.out r hr
  · rcases rpAll_T hr with e | e | e <;> rw [e] <;> decide
 have hb16 := hbt hb15 bw
 have HBv1_16 := hblk HBv1_15 bw
 have HBv2_16 := hblk HBv2_15 bw
 have HBv3_16 := hblk HBv3_15 bw
 have ER_16 : Hid (RowsO (w16) w.heap.size ((shAll (.slice oC cs.length pC) (.slice oP ws.length pP) (.slice oK kv.length pK) (.slice oB bl.length pB) kv cs ws bl ++ flAll (.slice oF fv.length pF) fv) ++ seAll (.slice oE ev.length pE) ev)) := ER_15.out.below bw
 clear hb15 HBv1_15 HBv2_15 HBv3_15 ER_15 bw
 clear ER_16
 have ER_16 : Hid (RowsO (w16) w.heap.size (((shAll (.slice oC cs.length pC) (.slice oP ws.length pP) (.slice oK kv.length pK) (.slice oB bl.length pB) kv cs ws bl ++ flAll (.slice oF fv.length pF) fv) ++ seAll (.slice oE ev.length pE) ev) ++ rpAll (.slice oR rv.length pR) rv)) := HRN.out
 clear HRN
 clear cv1_9
 have cv3_9 := (k10c HBv3_16).2.2.2.2.2.2.2.2.2
 have fcv3_9 := hfz HBv3_16 9
 go_upto_region 7 with fail
 obtain ⟨w17, hW17⟩ := exq ((w16).setCell ⟨qv3, 9, none⟩ (.slice oR rv.length pR))
 rw [← hW17]
 have hb17 : Below w.heap.size w (w17) := by rw [hW17]; exact (hb16.setCell (p := ⟨qv3, 9, none⟩) HGv3.out _)
 have HBv1_17 := hset hW17 HNv1v3.out HBv1_16
 have HBv2_17 := hset hW17 HNv2v3.out HBv2_16
 have ER_17 : Hid (RowsO (w17) w.heap.size (((shAll (.slice oC cs.length pC) (.slice oP ws.length pP) (.slice oK kv.length pK) (.slice oB bl.length pB) kv cs ws bl ++ flAll (.slice oF fv.length pF) fv) ++ seAll (.slice oE ev.length pE) ev) ++ rpAll (.slice oR rv.length pR) rv)) := by show RowsO _ _ _; rw [hW17]; exact RowsO.other ER_16.out HBv3_16.out HT3.out
 have HBv3_17 : Hid ((w17).heap[qv3]? = some (.cells #[.slice oC cs.length pC, .slice oP ws.length pP, .slice oK kv.length pK, .slice oB bl.length pB, .int .i64 nx, .int .i64 sq, .slice oF fv.length pF, .int .i64 now, .slice oE ev.length pE, .slice oR rv.length pR] 48)) := by show _ = _; rw [hW17]; have h := heap_set _ _ 9 _ _ _ (.slice oR rv.length pR) HBv3_16.out; simpa using h
 clear hb16 HBv1_16 HBv2_16 HBv3_16 ER_16 hW17
 clear cv3_9 fcv3_9
 have cv2_0 := (k10c HBv2_17).1
 have fcv2_0 := hfz HBv2_17 0
 have cv2_1 := (k10c HBv2_17).2.1
 have fcv2_1 := hfz HBv2_17 1
 have cv2_2 := (k10c HBv2_17).2.2.1
 have fcv2_2 := hfz HBv2_17 2
 have cv2_3 := (k10c HBv2_17).2.2.2.1
 have fcv2_3 := hfz HBv2_17 3
 have cv2_4 := (k10c HBv2_17).2.2.2.2.1
 have fcv2_4 := hfz HBv2_17 4
 have cv2_5 := (k10c HBv2_17).2.2.2.2.2.1
 have fcv2_5 := hfz HBv2_17 5
 have cv2_6 := (k10c HBv2_17).2.2.2.2.2.2.1
 have fcv2_6 := hfz HBv2_17 6
 have cv2_7 := (k10c HBv2_17).2.2.2.2.2.2.2.1
 have fcv2_7 := hfz HBv2_17 7
 have cv2_8 := (k10c HBv2_17).2.2.2.2.2.2.2.2.1
 have fcv2_8 := hfz HBv2_17 8
 have cv2_9 := (k10c HBv2_17).2.2.2.2.2.2.2.2.2
 have fcv2_9 := hfz HBv2_17 9
 have cv3_0 := (k10c HBv3_17).1
 have cv3_1 := (k10c HBv3_17).2.1
 have cv3_2 := (k10c HBv3_17).2.2.1
 have cv3_3 := (k10c HBv3_17).2.2.2.1
 have cv3_4 := (k10c HBv3_17).2.2.2.2.1
 have cv3_5 := (k10c HBv3_17).2.2.2.2.2.1
 have cv3_6 := (k10c HBv3_17).2.2.2.2.2.2.1
 have cv3_7 := (k10c HBv3_17).2.2.2.2.2.2.2.1
 have cv3_8 := (k10c HBv3_17).2.2.2.2.2.2.2.2.1
 have cv3_9 := (k10c HBv3_17).2.2.2.2.2.2.2.2.2
 go_wp2_with fail
 obtain ⟨w18, hW18⟩ := exq ((w17).setCell ⟨qv2, 0, none⟩ (.slice oC cs.length pC))
 rw [← hW18]
 have hb18 : Below w.heap.size w (w18) := by rw [hW18]; exact (hb17.setCell (p := ⟨qv2, 0, none⟩) HGv2.out _)
 have HBv1_18 := hset hW18 HNv1v2.out HBv1_17
 have HBv3_18 := hset hW18 HNv2v3.out.symm HBv3_17
 have ER_18 : Hid (RowsO (w18) w.heap.size (((shAll (.slice oC cs.length pC) (.slice oP ws.length pP) (.slice oK kv.length pK) (.slice oB bl.length pB) kv cs ws bl ++ flAll (.slice oF fv.length pF) fv) ++ seAll (.slice oE ev.length pE) ev) ++ rpAll (.slice oR rv.length pR) rv)) := by show RowsO _ _ _; rw [hW18]; exact RowsO.other ER_17.out HBv2_17.out HT3.out
 have HBv2_18 : Hid ((w18).heap[qv2]? = some (.cells #[.slice oC cs.length pC, .slice none 0 0, .slice none 0 0, .slice none 0 0, .int .i64 0, .int .i64 0, .slice none 0 0, .int .i64 0, .slice none 0 0, .slice none 0 0] 48)) := by show _ = _; rw [hW18]; have h := heap_set _ _ 0 _ _ _ (.slice oC cs.length pC) HBv2_17.out; simpa using h
 clear hb17 HBv1_17 HBv2_17 HBv3_17 ER_17 hW18
 obtain ⟨w19, hW19⟩ := exq ((w18).setCell ⟨qv2, 1, none⟩ (.slice oP ws.length pP))
 rw [← hW19]
 have hb19 : Below w.heap.size w (w19) := by rw [hW19]; exact (hb18.setCell (p := ⟨qv2, 1, none⟩) HGv2.out _)
 have HBv1_19 := hset hW19 HNv1v2.out HBv1_18
 have HBv3_19 := hset hW19 HNv2v3.out.symm HBv3_18
 have ER_19 : Hid (RowsO (w19) w.heap.size (((shAll (.slice oC cs.length pC) (.slice oP ws.length pP) (.slice oK kv.length pK) (.slice oB bl.length pB) kv cs ws bl ++ flAll (.slice oF fv.length pF) fv) ++ seAll (.slice oE ev.length pE) ev) ++ rpAll (.slice oR rv.length pR) rv)) := by show RowsO _ _ _; rw [hW19]; exact RowsO.other ER_18.out HBv2_18.out HT3.out
 have HBv2_19 : Hid ((w19).heap[qv2]? = some (.cells #[.slice oC cs.length pC, .slice oP ws.length pP, .slice none 0 0, .slice none 0 0, .int .i64 0, .int .i64 0, .slice none 0 0, .int .i64 0, .slice none 0 0, .slice none 0 0] 48)) := by show _ = _; rw [hW19]; have h := heap_set _ _ 1 _ _ _ (.slice oP ws.length pP) HBv2_18.out; simpa using h
 clear hb18 HBv1_18 HBv2_18 HBv3_18 ER_18 hW19
 obtain ⟨w20, hW20⟩ := exq ((w19).setCell ⟨qv2, 2, none⟩ (.slice oK kv.length pK))
 rw [← hW20]
 have hb20 : Below w.heap.size w (w20) := by rw [hW20]; exact (hb19.setCell (p := ⟨qv2, 2, none⟩) HGv2.out _)
 have HBv1_20 := hset hW20 HNv1v2.out HBv1_19
 have HBv3_20 := hset hW20 HNv2v3.out.symm HBv3_19
 have ER_20 : Hid (RowsO (w20) w.heap.size (((shAll (.slice oC cs.length pC) (.slice oP ws.length pP) (.slice oK kv.length pK) (.slice oB bl.length pB) kv cs ws bl ++ flAll (.slice oF fv.length pF) fv) ++ seAll (.slice oE ev.length pE) ev) ++ rpAll (.slice oR rv.length pR) rv)) := by show RowsO _ _ _; rw [hW20]; exact RowsO.other ER_19.out HBv2_19.out HT3.out
 have HBv2_20 : Hid ((w20).heap[qv2]? = some (.cells #[.slice oC cs.length pC, .slice oP ws.length pP, .slice oK kv.length pK, .slice none 0 0, .int .i64 0, .int .i64 0, .slice none 0 0, .int .i64 0, .slice none 0 0, .slice none 0 0] 48)) := by show _ = _; rw [hW20]; have h := heap_set _ _ 2 _ _ _ (.slice oK kv.length pK) HBv2_19.out; simpa using h
 clear hb19 HBv1_19 HBv2_19 HBv3_19 ER_19 hW20
 obtain ⟨w21, hW21⟩ := exq ((w20).setCell ⟨qv2, 3, none⟩ (.slice oB bl.length pB))
 rw [← hW21]
 have hb21 : Below w.heap.size w (w21) := by rw [hW21]; exact (hb20.setCell (p := ⟨qv2, 3, none⟩) HGv2.out _)
 have HBv1_21 := hset hW21 HNv1v2.out HBv1_20
 have HBv3_21 := hset hW21 HNv2v3.out.symm HBv3_20
 have ER_21 : Hid (RowsO (w21) w.heap.size (((shAll (.slice oC cs.length pC) (.slice oP ws.length pP) (.slice oK kv.length pK) (.slice oB bl.length pB) kv cs ws bl ++ flAll (.slice oF fv.length pF) fv) ++ seAll (.slice oE ev.length pE) ev) ++ rpAll (.slice oR rv.length pR) rv)) := by show RowsO _ _ _; rw [hW21]; exact RowsO.other ER_20.out HBv2_20.out HT3.out
 have HBv2_21 : Hid ((w21).heap[qv2]? = some (.cells #[.slice oC cs.length pC, .slice oP ws.length pP, .slice oK kv.length pK, .slice oB bl.length pB, .int .i64 0, .int .i64 0, .slice none 0 0, .int .i64 0, .slice none 0 0, .slice none 0 0] 48)) := by show _ = _; rw [hW21]; have h := heap_set _ _ 3 _ _ _ (.slice oB bl.length pB) HBv2_20.out; simpa using h
 clear hb20 HBv1_20 HBv2_20 HBv3_20 ER_20 hW21
 obtain ⟨w22, hW22⟩ := exq ((w21).setCell ⟨qv2, 4, none⟩ (.int .i64 nx))
 rw [← hW22]
 have hb22 : Below w.heap.size w (w22) := by rw [hW22]; exact (hb21.setCell (p := ⟨qv2, 4, none⟩) HGv2.out _)
 have HBv1_22 := hset hW22 HNv1v2.out HBv1_21
 have HBv3_22 := hset hW22 HNv2v3.out.symm HBv3_21
 have ER_22 : Hid (RowsO (w22) w.heap.size (((shAll (.slice oC cs.length pC) (.slice oP ws.length pP) (.slice oK kv.length pK) (.slice oB bl.length pB) kv cs ws bl ++ flAll (.slice oF fv.length pF) fv) ++ seAll (.slice oE ev.length pE) ev) ++ rpAll (.slice oR rv.length pR) rv)) := by show RowsO _ _ _; rw [hW22]; exact RowsO.other ER_21.out HBv2_21.out HT3.out
 have HBv2_22 : Hid ((w22).heap[qv2]? = some (.cells #[.slice oC cs.length pC, .slice oP ws.length pP, .slice oK kv.length pK, .slice oB bl.length pB, .int .i64 nx, .int .i64 0, .slice none 0 0, .int .i64 0, .slice none 0 0, .slice none 0 0] 48)) := by show _ = _; rw [hW22]; have h := heap_set _ _ 4 _ _ _ (.int .i64 nx) HBv2_21.out; simpa using h
 clear hb21 HBv1_21 HBv2_21 HBv3_21 ER_21 hW22
 obtain ⟨w23, hW23⟩ := exq ((w22).setCell ⟨qv2, 5, none⟩ (.int .i64 sq))
 rw [← hW23]
 have hb23 : Below w.heap.size w (w23) := by rw [hW23]; exact (hb22.setCell (p := ⟨qv2, 5, none⟩) HGv2.out _)
 have HBv1_23 := hset hW23 HNv1v2.out HBv1_22
 have HBv3_23 := hset hW23 HNv2v3.out.symm HBv3_22
 have ER_23 : Hid (RowsO (w23) w.heap.size (((shAll (.slice oC cs.length pC) (.slice oP ws.length pP) (.slice oK kv.length pK) (.slice oB bl.length pB) kv cs ws bl ++ flAll (.slice oF fv.length pF) fv) ++ seAll (.slice oE ev.length pE) ev) ++ rpAll (.slice oR rv.length pR) rv)) := by show RowsO _ _ _; rw [hW23]; exact RowsO.other ER_22.out HBv2_22.out HT3.out
 have HBv2_23 : Hid ((w23).heap[qv2]? = some (.cells #[.slice oC cs.length pC, .slice oP ws.length pP, .slice oK kv.length pK, .slice oB bl.length pB, .int .i64 nx, .int .i64 sq, .slice none 0 0, .int .i64 0, .slice none 0 0, .slice none 0 0] 48)) := by show _ = _; rw [hW23]; have h := heap_set _ _ 5 _ _ _ (.int .i64 sq) HBv2_22.out; simpa using h
 clear hb22 HBv1_22 HBv2_22 HBv3_22 ER_22 hW23
 obtain ⟨w24, hW24⟩ := exq ((w23).setCell ⟨qv2, 6, none⟩ (.slice oF fv.length pF))
 rw [← hW24]
 have hb24 : Below w.heap.size w (w24) := by rw [hW24]; exact (hb23.setCell (p := ⟨qv2, 6, none⟩) HGv2.out _)
 have HBv1_24 := hset hW24 HNv1v2.out HBv1_23
 have HBv3_24 := hset hW24 HNv2v3.out.symm HBv3_23
 have ER_24 : Hid (RowsO (w24) w.heap.size (((shAll (.slice oC cs.length pC) (.slice oP ws.length pP) (.slice oK kv.length pK) (.slice oB bl.length pB) kv cs ws bl ++ flAll (.slice oF fv.length pF) fv) ++ seAll (.slice oE ev.length pE) ev) ++ rpAll (.slice oR rv.length pR) rv)) := by show RowsO _ _ _; rw [hW24]; exact RowsO.other ER_23.out HBv2_23.out HT3.out
 have HBv2_24 : Hid ((w24).heap[qv2]? = some (.cells #[.slice oC cs.length pC, .slice oP ws.length pP, .slice oK kv.length pK, .slice oB bl.length pB, .int .i64 nx, .int .i64 sq, .slice oF fv.length pF, .int .i64 0, .slice none 0 0, .slice none 0 0] 48)) := by show _ = _; rw [hW24]; have h := heap_set _ _ 6 _ _ _ (.slice oF fv.length pF) HBv2_23.out; simpa using h
 clear hb23 HBv1_23 HBv2_23 HBv3_23 ER_23 hW24
 obtain ⟨w25, hW25⟩ := exq ((w24).setCell ⟨qv2, 7, none⟩ (.int .i64 now))
 rw [← hW25]
 have hb25 : Below w.heap.size w (w25) := by rw [hW25]; exact (hb24.setCell (p := ⟨qv2, 7, none⟩) HGv2.out _)
 have HBv1_25 := hset hW25 HNv1v2.out HBv1_24
 have HBv3_25 := hset hW25 HNv2v3.out.symm HBv3_24
 have ER_25 : Hid (RowsO (w25) w.heap.size (((shAll (.slice oC cs.length pC) (.slice oP ws.length pP) (.slice oK kv.length pK) (.slice oB bl.length pB) kv cs ws bl ++ flAll (.slice oF fv.length pF) fv) ++ seAll (.slice oE ev.length pE) ev) ++ rpAll (.slice oR rv.length pR) rv)) := by show RowsO _ _ _; rw [hW25]; exact RowsO.other ER_24.out HBv2_24.out HT3.out
 have HBv2_25 : Hid ((w25).heap[qv2]? = some (.cells #[.slice oC cs.length pC, .slice oP ws.length pP, .slice oK kv.length pK, .slice oB bl.length pB, .int .i64 nx, .int .i64 sq, .slice oF fv.length pF, .int .i64 now, .slice none 0 0, .slice none 0 0] 48)) := by show _ = _; rw [hW25]; have h := heap_set _ _ 7 _ _ _ (.int .i64 now) HBv2_24.out; simpa using h
 clear hb24 HBv1_24 HBv2_24 HBv3_24 ER_24 hW25
 obtain ⟨w26, hW26⟩ := exq ((w25).setCell ⟨qv2, 8, none⟩ (.slice oE ev.length pE))
 rw [← hW26]
 have hb26 : Below w.heap.size w (w26) := by rw [hW26]; exact (hb25.setCell (p := ⟨qv2, 8, none⟩) HGv2.out _)
 have HBv1_26 := hset hW26 HNv1v2.out HBv1_25
 have HBv3_26 := hset hW26 HNv2v3.out.symm HBv3_25
 have ER_26 : Hid (RowsO (w26) w.heap.size (((shAll (.slice oC cs.length pC) (.slice oP ws.length pP) (.slice oK kv.length pK) (.slice oB bl.length pB) kv cs ws bl ++ flAll (.slice oF fv.length pF) fv) ++ seAll (.slice oE ev.length pE) ev) ++ rpAll (.slice oR rv.length pR) rv)) := by show RowsO _ _ _; rw [hW26]; exact RowsO.other ER_25.out HBv2_25.out HT3.out
 have HBv2_26 : Hid ((w26).heap[qv2]? = some (.cells #[.slice oC cs.length pC, .slice oP ws.length pP, .slice oK kv.length pK, .slice oB bl.length pB, .int .i64 nx, .int .i64 sq, .slice oF fv.length pF, .int .i64 now, .slice oE ev.length pE, .slice none 0 0] 48)) := by show _ = _; rw [hW26]; have h := heap_set _ _ 8 _ _ _ (.slice oE ev.length pE) HBv2_25.out; simpa using h
 clear hb25 HBv1_25 HBv2_25 HBv3_25 ER_25 hW26
 obtain ⟨w27, hW27⟩ := exq ((w26).setCell ⟨qv2, 9, none⟩ (.slice oR rv.length pR))
 rw [← hW27]
 have hb27 : Below w.heap.size w (w27) := by rw [hW27]; exact (hb26.setCell (p := ⟨qv2, 9, none⟩) HGv2.out _)
 have HBv1_27 := hset hW27 HNv1v2.out HBv1_26
 have HBv3_27 := hset hW27 HNv2v3.out.symm HBv3_26
 have ER_27 : Hid (RowsO (w27) w.heap.size (((shAll (.slice oC cs.length pC) (.slice oP ws.length pP) (.slice oK kv.length pK) (.slice oB bl.length pB) kv cs ws bl ++ flAll (.slice oF fv.length pF) fv) ++ seAll (.slice oE ev.length pE) ev) ++ rpAll (.slice oR rv.length pR) rv)) := by show RowsO _ _ _; rw [hW27]; exact RowsO.other ER_26.out HBv2_26.out HT3.out
 have HBv2_27 : Hid ((w27).heap[qv2]? = some (.cells #[.slice oC cs.length pC, .slice oP ws.length pP, .slice oK kv.length pK, .slice oB bl.length pB, .int .i64 nx, .int .i64 sq, .slice oF fv.length pF, .int .i64 now, .slice oE ev.length pE, .slice oR rv.length pR] 48)) := by show _ = _; rw [hW27]; have h := heap_set _ _ 9 _ _ _ (.slice oR rv.length pR) HBv2_26.out; simpa using h
 clear hb26 HBv1_26 HBv2_26 HBv3_26 ER_26 hW27
 have kv2_0 := (k10c HBv2_27).1
 have kv2_1 := (k10c HBv2_27).2.1
 have kv2_2 := (k10c HBv2_27).2.2.1
 have kv2_3 := (k10c HBv2_27).2.2.2.1
 have kv2_4 := (k10c HBv2_27).2.2.2.2.1
 have kv2_5 := (k10c HBv2_27).2.2.2.2.2.1
 have kv2_6 := (k10c HBv2_27).2.2.2.2.2.2.1
 have kv2_7 := (k10c HBv2_27).2.2.2.2.2.2.2.1
 have kv2_8 := (k10c HBv2_27).2.2.2.2.2.2.2.2.1
 have kv2_9 := (k10c HBv2_27).2.2.2.2.2.2.2.2.2
 refine bodyPost_ret (v := .agg #[.slice oC cs.length pC, .slice oP ws.length pP, .slice oK kv.length pK, .slice oB bl.length pB, .int .i64 nx, .int .i64 sq, .slice oF fv.length pF, .int .i64 now, .slice oE ev.length pE, .slice oR rv.length pR]) (by simp [results, Tryz.results6, go_sem, kv2_0, kv2_1, kv2_2, kv2_3, kv2_4, kv2_5, kv2_6, kv2_7, kv2_8, kv2_9]) rfl ?_
 exact ⟨_, _, _, _, _, _, _, kv, fv, ev, rv, rfl, ⟨ER_27.out, HKM.out, HFM.out, HEM.out, HRM.out⟩, hb27⟩
/-- A cache's measure: negative, or what is left of L. -/
def SzCache (L : Int) (n1 : Nat) (cs : List ByteArray) (n2 : Nat) (ws : List (Int × ByteArray)) (ks : List KpD) (n4 : Nat) (bl : List (Int × ByteArray × ByteArray × Int)) (fl : List FlD) (se : List SeD) (sn : List RpD) (w : World) (e : Ending) (w' : World) : Prop :=
 ∃ r : Int, e = .returned (.int .i64 r) ∧ r ≤ L ∧ (0 ≤ r → r + (n1 : Int) + (n2 : Int) + (wtK ks : Int) + (n4 : Int) + (wtFl fl : Int) + (wtSe se : Int) + (wtRp sn : Int) ≤ L ∧ ((n1 ≤ 1048576 ∧ ∀ i, i < n1 → (textAt cs i).size ≤ 1048576) ∧ (n2 ≤ 1048576 ∧ ∀ x ∈ ws, (x.2).size ≤ 1048576) ∧ (∀ k ∈ ks, KpSmall k) ∧ (n4 ≤ 1048576 ∧ ∀ x ∈ bl, (x.2.1).size ≤ 1048576 ∧ (x.2.2.1).size ≤ 1048576)) ∧ (∀ k ∈ fl, FlSmall k) ∧ (∀ k ∈ se, SeSmall k) ∧ ∀ k ∈ sn, RpSmall k) ∧ Below w.heap.size w w'
theorem szCache_any (L : Int) (hL0 : 0 ≤ L) (hL1 : L ≤ 1048576) (a1 : Option Addr) (n1 c1 : Nat) (cs : List ByteArray) (a2 : Option Addr) (n2 c2 : Nat) (ws : List (Int × ByteArray)) (a3 : Option Addr) (n3 c3 : Nat) (ks : List KpD) (a4 : Option Addr) (n4 c4 : Nat) (bl : List (Int × ByteArray × ByteArray × Int)) (nx sq : Int) (a5 : Option Addr) (n5 c5 : Nat) (fl : List FlD) (now : Int) (a6 : Option Addr) (n6 c6 : Nat) (se : List SeD) (a7 : Option Addr) (n7 c7 : Nat) (sn : List RpD) (B : Nat) (w : World) (h1 : ArgT w B a1 n1 cs) (h2 : ArgWrite w B a2 n2 ws) (h3 : ArgKept w B a3 n3 ks) (h4 : ArgBan w B a4 n4 bl) (h5 : ArgFlight w B a5 n5 fl) (h6 : ArgSeen w B a6 n6 se) (h7 : ArgReply w B a7 n7 sn) (hB : B ≤ w.heap.size) (hm : (n1 ≤ maxLen ∧ n2 ≤ maxLen ∧ n3 ≤ maxLen ∧ n4 ≤ maxLen ∧ (∀ i, i < n1 → (textAt cs i).size ≤ maxLen) ∧ (∀ x ∈ ws, (x.2).size ≤ maxLen) ∧ (∀ k ∈ ks, KpMax k) ∧ ∀ x ∈ bl, (x.2.1).size ≤ maxLen ∧ (x.2.2.1).size ≤ maxLen) ∧ (n5 ≤ maxLen ∧ ∀ k ∈ fl, FlMax k) ∧ (n6 ≤ maxLen ∧ ∀ k ∈ se, SeMax k) ∧ n7 ≤ maxLen ∧ ∀ k ∈ sn, RpMax k) :
  Calls Tryz.prog 4 #[.agg #[.slice a1 n1 c1, .slice a2 n2 c2, .slice a3 n3 c3, .slice a4 n4 c4, .int .i64 nx, .int .i64 sq, .slice a5 n5 c5, .int .i64 now, .slice a6 n6 c6, .slice a7 n7 c7], .int .i64 L] w fun e w' => SzCache L n1 cs n2 ws ks n4 bl fl se sn w e w' := by
 have HA1 : Hid (∀ W, Below w.heap.size w W → ArgT W B a1 n1 cs) := fun W h => h1.below (h.mono hB)
 have HA2 : Hid (∀ W, Below w.heap.size w W → ArgWrite W B a2 n2 ws) := fun W h => h2.below (h.mono hB)
 have HA3 : Hid (∀ W, Below w.heap.size w W → ArgKept W B a3 n3 ks) := fun W h => h3.below (h.mono hB)
 have HA4 : Hid (∀ W, Below w.heap.size w W → ArgBan W B a4 n4 bl) := fun W h => h4.below (h.mono hB)
 have HA5 : Hid (∀ W, Below w.heap.size w W → ArgFlight W B a5 n5 fl) := fun W h => h5.below (h.mono hB)
 have HA6 : Hid (∀ W, Below w.heap.size w W → ArgSeen W B a6 n6 se) := fun W h => h6.below (h.mono hB)
 have HA7 : Hid (∀ W, Below w.heap.size w W → ArgReply W B a7 n7 sn) := fun W h => h7.below (h.mono hB)
 have HBB : Hid (∀ W, Below w.heap.size w W → B ≤ W.heap.size) := fun W h => Nat.le_trans hB h.size
 have HM : Hid ((n1 ≤ maxLen ∧ n2 ≤ maxLen ∧ n3 ≤ maxLen ∧ n4 ≤ maxLen ∧ (∀ i, i < n1 → (textAt cs i).size ≤ maxLen) ∧ (∀ x ∈ ws, (x.2).size ≤ maxLen) ∧ (∀ k ∈ ks, KpMax k) ∧ ∀ x ∈ bl, (x.2.1).size ≤ maxLen ∧ (x.2.2.1).size ≤ maxLen) ∧ (n5 ≤ maxLen ∧ ∀ k ∈ fl, FlMax k) ∧ (n6 ≤ maxLen ∧ ∀ k ∈ se, SeMax k) ∧ n7 ≤ maxLen ∧ ∀ k ∈ sn, RpMax k) := hm
 clear h1 h2 h3 h4 h5 h6 h7 hm hB
 have hb0 : Below w.heap.size w w := Below.refl _ _
 go_enter Tryz.func4, Tryz.ntmps4
 go_upto_region 1 with fail
 obtain ⟨qv1, hqv1⟩ := exq ((w).heap.size)
 obtain ⟨w1, hW1⟩ := exq ((w).alloc (.cells #[.slice a1 n1 c1, .slice a2 n2 c2, .slice a3 n3 c3, .slice a4 n4 c4, .int .i64 nx, .int .i64 sq, .slice a5 n5 c5, .int .i64 now, .slice a6 n6 c6, .slice a7 n7 c7] 34))
 have hz1 : (w).heap.size = qv1 := hqv1.symm
 first | rw [← hW1, ← hqv1] | rw [← hW1]
 have hs1 := hsa hW1 hz1
 have bw := bal hW1
 have hb1 := hbt hb0 bw
 have HBv1_1 := hnew hW1 hz1
 clear hb0 bw hW1 hz1
 clear hs1 hqv1
 have cv1_0 := (k10c HBv1_1).1
 have cv1_1 := (k10c HBv1_1).2.1
 have cv1_2 := (k10c HBv1_1).2.2.1
 have cv1_3 := (k10c HBv1_1).2.2.2.1
 have cv1_4 := (k10c HBv1_1).2.2.2.2.1
 have cv1_5 := (k10c HBv1_1).2.2.2.2.2.1
 go_wp2_with fail
 refine (szShelf_any L (by omega) (by omega) a1 n1 c1 cs a2 n2 c2 ws a3 n3 c3 ks a4 n4 c4 bl nx sq B _ (HA1.out _ hb1) (HA2.out _ hb1) (HA3.out _ hb1) (HA4.out _ hb1) (HBB.out _ hb1) HM.out.1).mono ?_
 rintro e w2 ⟨r1, rfl, hl1, hr1, bw⟩
 have hb2 := hbt hb1 bw
 have HBv1_2 := hblk HBv1_1 bw
 clear hb1 HBv1_1 bw
 clear cv1_0 cv1_1 cv1_2 cv1_3 cv1_4 cv1_5
 by_cases hc1 : r1 < 0
 ·
  clear hr1
  go_wp2_with fail
  go_ret
  exact ⟨-1, rfl, by omega, fun h => absurd h (by omega), hb2⟩
 ·
  have HR1 : Hid _ := hr1 (by omega)
  clear hr1
  have mr1 := HR1.out.1
  have cv1_6 := (k10c HBv1_2).2.2.2.2.2.2.1
  go_wp2_with fail
  refine (szFlightS_any r1 (by omega) (by omega) B a5 n5 c5 fl _ (HA5.out _ hb2) (HBB.out _ hb2) HM.out.2.1.1 HM.out.2.1.2).mono ?_
  rintro e w3 ⟨r2, rfl, hl2, hr2, bw⟩
  have hb3 := hbt hb2 bw
  have HBv1_3 := hblk HBv1_2 bw
  clear hb2 HBv1_2 bw
  clear cv1_6
  by_cases hc2 : r2 < 0
  ·
   clear hr2
   go_wp2_with fail
   go_ret
   exact ⟨-1, rfl, by omega, fun h => absurd h (by omega), hb3⟩
  ·
   have HR2 : Hid _ := hr2 (by omega)
   clear hr2
   have mr2 := HR2.out.1
   have cv1_8 := (k10c HBv1_3).2.2.2.2.2.2.2.2.1
   go_wp2_with fail
   refine (szSeenS_any r2 (by omega) (by omega) B a6 n6 c6 se _ (HA6.out _ hb3) (HBB.out _ hb3) HM.out.2.2.1.1 HM.out.2.2.1.2).mono ?_
   rintro e w4 ⟨r3, rfl, hl3, hr3, bw⟩
   have hb4 := hbt hb3 bw
   have HBv1_4 := hblk HBv1_3 bw
   clear hb3 HBv1_3 bw
   clear cv1_8
   by_cases hc3 : r3 < 0
   ·
    clear hr3
    go_wp2_with fail
    go_ret
    exact ⟨-1, rfl, by omega, fun h => absurd h (by omega), hb4⟩
   ·
    have HR3 : Hid _ := hr3 (by omega)
    clear hr3
    have mr3 := HR3.out.1
    have cv1_9 := (k10c HBv1_4).2.2.2.2.2.2.2.2.2
    go_wp2_with fail
    refine (szReplyS_any r3 (by omega) (by omega) B a7 n7 c7 sn _ (HA7.out _ hb4) (HBB.out _ hb4) HM.out.2.2.2.1 HM.out.2.2.2.2).mono ?_
    rintro e w5 ⟨r4, rfl, hl4, hr4, bw⟩
    have hb5 := hbt hb4 bw
    have HBv1_5 := hblk HBv1_4 bw
    clear hb4 HBv1_4 bw
    clear cv1_9
    by_cases hc4 : r4 < 0
    ·
     clear hr4
     go_wp2_with fail
     go_ret
     exact ⟨-1, rfl, by omega, fun h => absurd h (by omega), hb5⟩
    ·
     have HR4 : Hid _ := hr4 (by omega)
     clear hr4
     have mr4 := HR4.out.1
     go_wp2_with fail
     go_ret
     exact ⟨r4, rfl, by omega, fun _ => ⟨by omega, HR1.out.2, HR2.out.2, HR3.out.2, HR4.out.2⟩, hb5⟩
/-- A cache of bounded size. -/
structure CaLim (y : CaD) : Prop where
 c : y.s.cs.length ≤ 2000000
 w : y.s.ws.length ≤ 2000000
 k : y.s.ks.length ≤ 2000000
 b : y.s.bl.length ≤ 2000000
 ks : ∀ k ∈ y.s.ks, k.xs.length ≤ 2000000 ∧ k.ys.length ≤ 2000000 ∧ k.fs.length ≤ 2000000
 nfl : y.fl.length ≤ 2000000
 nse : y.se.length ≤ 2000000
 nsn : y.sn.length ≤ 2000000
 fl : ∀ k ∈ y.fl, FlLim k
 se : ∀ k ∈ y.se, SeLim k
 sn : ∀ k ∈ y.sn, RpLim k
theorem eqCache_any (c : CaD) (x1 x2 x3 x4 x5 x6 x7 y1 y2 y3 y4 y5 y6 y7 : Value) (kvx kvy : List (KpD × Value × Value × Value)) (fvx fvy : List FlV) (evx evy : List SeV) (rvx rvy : List RpV) (Bx By : Nat) (w : World) (hx : CacheO (w) Bx x1 x2 x3 x4 x5 x6 x7 kvx fvx evx rvx c) (hy : CacheO (w) By y1 y2 y3 y4 y5 y6 y7 kvy fvy evy rvy c) (hl : CaLim c) :
  Calls Tryz.prog 8 #[.agg #[x1, x2, x3, x4, .int .i64 c.s.nx, .int .i64 c.s.sq, x5, .int .i64 c.now, x6, x7], .agg #[y1, y2, y3, y4, .int .i64 c.s.nx, .int .i64 c.s.sq, y5, .int .i64 c.now, y6, y7]] w fun e w' => e = .returned (.bool true) ∧ Below w.heap.size w w' := by
 have HLM : Hid (CaLim c) := hl
 have Ex_0 : Hid (CacheO (w) Bx x1 x2 x3 x4 x5 x6 x7 kvx fvx evx rvx c) := hx
 have Ey_0 : Hid (CacheO (w) By y1 y2 y3 y4 y5 y6 y7 kvy fvy evy rvy c) := hy
 clear hx hy hl
 have hnw : (c.now != c.now) = false := by simp
 have hb0 : Below w.heap.size w w := Below.refl _ _
 go_enter Tryz.func8, Tryz.ntmps8
 go_upto_region 1 with fail
 obtain ⟨qv1, hqv1⟩ := exq ((w).heap.size)
 obtain ⟨w1, hW1⟩ := exq ((w).alloc (.cells #[x1, x2, x3, x4, .int .i64 c.s.nx, .int .i64 c.s.sq, x5, .int .i64 c.now, x6, x7] 48))
 have hz1 : (w).heap.size = qv1 := hqv1.symm
 first | rw [← hW1, ← hqv1] | rw [← hW1]
 have hs1 := hsa hW1 hz1
 have bw := bal hW1
 have hb1 := hbt hb0 bw
 have Ex_1 : Hid (CacheO (w1) Bx x1 x2 x3 x4 x5 x6 x7 kvx fvx evx rvx c) := Ex_0.out.below bw
 have Ey_1 : Hid (CacheO (w1) By y1 y2 y3 y4 y5 y6 y7 kvy fvy evy rvy c) := Ey_0.out.below bw
 have HBv1_1 := hnew hW1 hz1
 clear hb0 Ex_0 Ey_0 bw hW1 hz1
 obtain ⟨qv2, hqv2⟩ := exq (qv1 + 1)
 obtain ⟨w2, hW2⟩ := exq ((w1).alloc (.cells #[y1, y2, y3, y4, .int .i64 c.s.nx, .int .i64 c.s.sq, y5, .int .i64 c.now, y6, y7] 48))
 have hz2 : (w1).heap.size = qv2 := by rw [hqv2]; exact hs1
 first | rw [← hW2, ← hqv2] | rw [← hW2]
 have hs2 := hsa hW2 hz2
 have bw := bal hW2
 have hb2 := hbt hb1 bw
 have HBv1_2 := hblk HBv1_1 bw
 have Ex_2 : Hid (CacheO (w2) Bx x1 x2 x3 x4 x5 x6 x7 kvx fvx evx rvx c) := Ex_1.out.below bw
 have Ey_2 : Hid (CacheO (w2) By y1 y2 y3 y4 y5 y6 y7 kvy fvy evy rvy c) := Ey_1.out.below bw
 have HBv2_2 := hnew hW2 hz2
 clear hb1 HBv1_1 Ex_1 Ey_1 bw hW2 hz2
 clear hs2 hqv2 hs1 hqv1
 have cv1_0 := (k10c HBv1_2).1
 have cv1_1 := (k10c HBv1_2).2.1
 have cv1_2 := (k10c HBv1_2).2.2.1
 have cv1_3 := (k10c HBv1_2).2.2.2.1
 have cv1_4 := (k10c HBv1_2).2.2.2.2.1
 have cv1_5 := (k10c HBv1_2).2.2.2.2.2.1
 have cv2_0 := (k10c HBv2_2).1
 have cv2_1 := (k10c HBv2_2).2.1
 have cv2_2 := (k10c HBv2_2).2.2.1
 have cv2_3 := (k10c HBv2_2).2.2.2.1
 have cv2_4 := (k10c HBv2_2).2.2.2.2.1
 have cv2_5 := (k10c HBv2_2).2.2.2.2.2.1
 go_wp2_with fail
 refine (eqShelf_any c.s _ _ _ _ _ _ _ _ kvx kvy Bx By _ Ex_2.out.shelf Ey_2.out.shelf HLM.out.c HLM.out.w HLM.out.k HLM.out.b HLM.out.ks).mono ?_
 rintro e w3 ⟨rfl, bw⟩
 have hb3 := hbt hb2 bw
 have HBv1_3 := hblk HBv1_2 bw
 have HBv2_3 := hblk HBv2_2 bw
 have Ex_3 : Hid (CacheO (w3) Bx x1 x2 x3 x4 x5 x6 x7 kvx fvx evx rvx c) := Ex_2.out.below bw
 have Ey_3 : Hid (CacheO (w3) By y1 y2 y3 y4 y5 y6 y7 kvy fvy evy rvy c) := Ey_2.out.below bw
 clear hb2 HBv1_2 HBv2_2 Ex_2 Ey_2 bw
 clear cv1_0 cv1_1 cv1_2 cv1_3 cv1_4 cv1_5 cv2_0 cv2_1 cv2_2 cv2_3 cv2_4 cv2_5
 have cv1_6 := (k10c HBv1_3).2.2.2.2.2.2.1
 have cv2_6 := (k10c HBv2_3).2.2.2.2.2.2.1
 go_wp2_with fail
 refine (eqFlightS_any _ _ fvx fvy Bx By _ (Ex_3.out.hf.trans Ey_3.out.hf.symm) Ex_3.out.fls Ey_3.out.fls (by rw [← List.length_map (f := (·.d)), Ex_3.out.hf]; exact HLM.out.nfl) (fun x hx => HLM.out.fl x.d (by rw [← Ex_3.out.hf]; exact List.mem_map.2 ⟨x, hx, rfl⟩))).mono ?_
 rintro e w4 ⟨rfl, bw⟩
 have hb4 := hbt hb3 bw
 have HBv1_4 := hblk HBv1_3 bw
 have HBv2_4 := hblk HBv2_3 bw
 have Ex_4 : Hid (CacheO (w4) Bx x1 x2 x3 x4 x5 x6 x7 kvx fvx evx rvx c) := Ex_3.out.below bw
 have Ey_4 : Hid (CacheO (w4) By y1 y2 y3 y4 y5 y6 y7 kvy fvy evy rvy c) := Ey_3.out.below bw
 clear hb3 HBv1_3 HBv2_3 Ex_3 Ey_3 bw
 clear cv1_6 cv2_6
 have cv1_7 := (k10c HBv1_4).2.2.2.2.2.2.2.1
 have cv2_7 := (k10c HBv2_4).2.2.2.2.2.2.2.1
 have cv1_8 := (k10c HBv1_4).2.2.2.2.2.2.2.2.1
 have cv2_8 := (k10c HBv2_4).2.2.2.2.2.2.2.2.1
 go_wp2_with fail
 refine (eqSeenS_any _ _ evx evy Bx By _ (Ex_4.out.he.trans Ey_4.out.he.symm) Ex_4.out.ses Ey_4.out.ses (by rw [← List.length_map (f := (·.d)), Ex_4.out.he]; exact HLM.out.nse) (fun x hx => HLM.out.se x.d (by rw [← Ex_4.out.he]; exact List.mem_map.2 ⟨x, hx, rfl⟩))).mono ?_
 rintro e w5 ⟨rfl, bw⟩
 have hb5 := hbt hb4 bw
 have HBv1_5 := hblk HBv1_4 bw
 have HBv2_5 := hblk HBv2_4 bw
 have Ex_5 : Hid (CacheO (w5) Bx x1 x2 x3 x4 x5 x6 x7 kvx fvx evx rvx c) := Ex_4.out.below bw
 have Ey_5 : Hid (CacheO (w5) By y1 y2 y3 y4 y5 y6 y7 kvy fvy evy rvy c) := Ey_4.out.below bw
 clear hb4 HBv1_4 HBv2_4 Ex_4 Ey_4 bw
 clear cv1_7 cv2_7 cv1_8 cv2_8
 have cv1_9 := (k10c HBv1_5).2.2.2.2.2.2.2.2.2
 have cv2_9 := (k10c HBv2_5).2.2.2.2.2.2.2.2.2
 go_wp2_with fail
 refine (eqReplyS_any _ _ rvx rvy Bx By _ (Ex_5.out.hr.trans Ey_5.out.hr.symm) Ex_5.out.rps Ey_5.out.rps (by rw [← List.length_map (f := (·.d)), Ex_5.out.hr]; exact HLM.out.nsn) (fun x hx => HLM.out.sn x.d (by rw [← Ex_5.out.hr]; exact List.mem_map.2 ⟨x, hx, rfl⟩))).mono ?_
 rintro e w6 ⟨rfl, bw⟩
 have hb6 := hbt hb5 bw
 have HBv1_6 := hblk HBv1_5 bw
 have HBv2_6 := hblk HBv2_5 bw
 have Ex_6 : Hid (CacheO (w6) Bx x1 x2 x3 x4 x5 x6 x7 kvx fvx evx rvx c) := Ex_5.out.below bw
 have Ey_6 : Hid (CacheO (w6) By y1 y2 y3 y4 y5 y6 y7 kvy fvy evy rvy c) := Ey_5.out.below bw
 clear hb5 HBv1_5 HBv2_5 Ex_5 Ey_5 bw
 clear cv1_9 cv2_9
 go_wp2_with fail
 go_ret
 exact ⟨rfl, hb6⟩
end Go.Proofs.YtanpngnpolhgbaaGreat
namespace Go.Proofs.YtanpngnpolhgbaaGreat
open Go.RowKit
open Go.Lib hiding intOf
theorem l9Names_any (oa : Option Addr) (m cm : Nat) (xs : List ByteArray) (w : World) (hx : TextsA w oa m xs) (hm : m ≤ 2000000) (hsz : ∀ i, i < m → (textAt xs i).size ≤ maxLen) :
  Calls Tryz.prog 40 #[.slice oa m cm] w fun e w' => BoolIs (NamesP xs) w e w' := by
 have HX : Hid (∀ W, Below w.heap.size w W → TextsA W oa m xs) := fun W h => hx.below h
 have HL : Hid (xs.length = m) := hx.1
 have HS : Hid (∀ i, i < m → (textAt xs i).size ≤ maxLen) := hsz
 clear hx hsz
 go_enter Tryz.func40, Tryz.ntmps40
 go_wp2_with fail
 go_loopw [3] (fun i wr => ∃ j : Nat, j ≤ m ∧ i = .int .i64 (j : Int) ∧ Below w.heap.size w wr ∧ Hid (∀ x ∈ xs.take j, TokOk x)) (fun i _ => m - (intOf i).toNat)
 case atStart => exact ⟨0, Nat.zero_le _, rfl, Below.refl _ _, fun x hx => by simp at hx⟩
 case round =>
  obtain ⟨j, hj, rfl, hbw, HN⟩ := hrel
  by_cases hlt : (j : Int) < (m : Int)
  ·
   have hjx : j < xs.length := by rw [HL.out]; omega
   obtain ⟨g, rfl, hg, hc⟩ := (HX.out wr hbw).2 j (by omega)
   have hs := HS.out j (by omega)
   obtain ⟨x, hxx⟩ := exq (textAt xs j)
   rw [← hxx] at hc hs
   have HM : Hid (x ∈ xs) := by show _ ∈ _; rw [hxx]; exact textAt_mem xs j hjx
   have HT : Hid (xs.take (j + 1) = xs.take j ++ [x]) := by show _ = _; rw [take_textAt xs j hjx, hxx]
   clear hxx hjx
   go_wp2_with fail
   refine (specTokenOk_any x _ hs).mono ?_
   rintro e w1 ⟨t, rfl, ht, b1⟩
   have hb1 : Below w.heap.size w w1 := hbw.trans (b1.mono hbw.size)
   clear b1 hbw hc
   cases t with
   | false =>
    have HF : Hid (¬ NamesP xs) := fun h => nomatch ht.2 (h.1 x HM.out)
    clear ht HN
    go_wp2_with fail
    go_ret
    exact BoolIs.no HF.out hb1
   | true =>
    have HN2 : Hid (∀ y ∈ xs.take (j + 1), TokOk y) := by
     intro y hy
     rw [HT.out] at hy
     rcases List.mem_append.1 hy with hy | hy
     · exact HN.out y hy
     · rw [List.mem_singleton.1 hy]; exact ht.1 rfl
    clear ht HN
    go_wp2_with fail
    go_roundw
    case rel => exact ⟨j + 1, by omega, by go_num, hb1, HN2⟩
    case measure => simp [intOf]; omega
  ·
   have HA : Hid (∀ x ∈ xs, TokOk x) := by
    have h := HN.out
    rw [List.take_of_length_le (by rw [HL.out]; omega)] at h
    exact h
   have HQ : Hid (((m : Int) ≤ 4) ↔ NamesP xs) := ⟨fun h => ⟨HA.out, by rw [HL.out]; omega⟩, fun h => by have := h.2; rw [HL.out] at this; omega⟩
   clear HN
   go_wp2_with fail
   go_ret
   exact ⟨decide ((m : Int) ≤ 4), rfl, by rw [decide_eq_true_iff]; exact HQ.out, hbw⟩
end Go.Proofs.YtanpngnpolhgbaaGreat
namespace Go.Proofs.YtanpngnpolhgbaaGreat
open Go.RowKit
open Go.Lib hiding intOf
theorem place_any (v : Value) (n base : Nat) (fs : List (ByteArray × ByteArray)) (name : ByteArray) (w : World) (hv : FieldsV w base v n fs) (hn : n ≤ 1073741824) :
  Calls Tryz.prog 144 #[v, .string name] w fun e w' => e = .returned (.int .i64 (atF fs name : Int)) ∧ w' = w := by
 have hl := hv.len
 obtain ⟨oa, cap, rfl, hrow⟩ := hv.slice
 clear hv
 go_enter Tryz.func144, Tryz.ntmps144
 go_wp2
 go_loop [8] (fun i => ∃ k : Nat, k ≤ n ∧ i = .int .i64 (k : Int) ∧ Hid (∀ j, j < k → nameAt fs j ≠ name)) (fun i => n - (intOf i).toNat)
 case atStart => exact ⟨0, Nat.zero_le _, rfl, fun j h => absurd h (by omega)⟩
 case round =>
  obtain ⟨k, hk, rfl, hb⟩ := hrel
  by_cases hlt : k < n
  ·
   obtain ⟨g, rfl, row⟩ := hrow k hlt
   have hc := row.name k hlt
   have hlt2 : (k : Int) < (n : Int) := by omega
   clear hrow row
   by_cases he : nameAt fs k = name
   ·
    have hT : Hid (atF fs name = k) := atF_uniq (by omega) hb.out he
    have ht : ((nameAt fs k).toList == name.toList) = true := (text_beq _ _).2 he
    clear he
    go_wp2
    go_ret
    exact ⟨by rw [hT.out]; rfl, rfl⟩
   ·
    have ht := text_beq_no he
    have HE : Hid (nameAt fs k ≠ name) := he
    clear he
    go_wp2
    go_round
    case rel =>
     refine ⟨k + 1, by omega, by go_num, ?_⟩
     intro j hj
     by_cases e : j = k
     · subst e; exact HE.out
     · exact hb.out j (by omega)
    case measure => simp [intOf]; omega
  ·
   have hT : Hid (atF fs name = n) := by
    have := atF_none (fs := fs) (name := name) (fun j hj => hb.out j (by omega))
    show _ = _
    omega
   clear hrow
   go_wp2
   go_ret
   exact ⟨by rw [hT.out]; rfl, rfl⟩
/-- Every text of the fields is short enough to be copied. -/
def CopyF (fs : List (ByteArray × ByteArray)) : Prop := ∀ i, i < fs.length → (nameAt fs i).size ≤ 281474976710656 ∧ (valAt fs i).size ≤ 281474976710656
theorem implGet_any (v : Value) (n base : Nat) (fs : List (ByteArray × ByteArray)) (name : ByteArray) (w : World) (hv : FieldsV w base v n fs) (hn : n ≤ 1073741824) (hsz : CopyF fs) :
  Calls Tryz.prog 132 #[v, .string name] w fun e w' => e = .returned (.tuple #[.string (getV fs name), .bool (getB fs name)]) ∧ Below w.heap.size w w' := by
 have hl := hv.len
 have hv0 := hv
 obtain ⟨oa, cap, rfl, hrow⟩ := hv0.slice
 clear hv0
 obtain ⟨k, hk⟩ := exq (atF fs name)
 have hle := atF_le fs name
 by_cases hin : atF fs name < fs.length
 ·
  have hV : Hid (getV fs name = valAt fs k) := by show _ = _; unfold getV; rw [if_pos hin, hk]
  have hB : Hid (getB fs name = true) := by show _ = _; unfold getB; simpa using hin
  obtain ⟨g, rfl, row⟩ := hrow k (by omega)
  have hc := row.val k (by omega)
  have hlt : (k : Int) < (n : Int) := by omega
  have hne : ((k : Int) == (n : Int)) = false := by rw [beq_eq_false_iff_ne]; omega
  obtain ⟨_, hz⟩ := hsz k (by omega)
  obtain ⟨vl, hvl⟩ := exq (valAt fs k)
  rw [← hvl] at hV hc hz
  go_enter Tryz.func132, Tryz.ntmps132
  go_wp2_with fail
  refine (place_any _ n base fs name _ hv hn).mono ?_
  rintro e w1 ⟨rfl, rfl⟩
  rw [← hk]
  clear hv hrow row hk hvl hle hin hsz
  go_wp2_with fail
  refine (clone_any vl _ hz).mono ?_
  rintro e w2 ⟨rfl, hb2⟩
  go_wp2
  go_ret2
  exact ⟨by rw [hV.out, hB.out]; rfl, hb2⟩
 ·
  have hV : Hid (getV fs name = ⟨#[]⟩) := by show _ = _; unfold getV; rw [if_neg hin]
  have hB : Hid (getB fs name = false) := by show _ = _; unfold getB; simpa using hin
  have hkn : k = n := by omega
  go_enter Tryz.func132, Tryz.ntmps132
  go_wp2_with fail
  refine (place_any _ n base fs name _ hv hn).mono ?_
  rintro e w1 ⟨rfl, rfl⟩
  rw [← hk, hkn]
  clear hv hrow hk hle hin hsz hkn
  go_wp2
  go_ret2
  exact ⟨by rw [hV.out, hB.out]; rfl, Below.refl _ _⟩
end Go.Proofs.YtanpngnpolhgbaaGreat
namespace Go.Proofs.YtanpngnpolhgbaaGreat
open Go.RowKit
open Go.Lib hiding intOf
/-- What one word says that is no age. -/
def saidF (x : ByteArray) : CcD := if x = nsW then ⟨true, false, false, false, false, 0⟩ else if x = ncW then ⟨false, true, false, false, false, 0⟩ else if x = prW then ⟨false, false, true, false, false, 0⟩ else if x = muW then ⟨false, false, false, true, false, 0⟩ else cc0
/-- What one word says. -/
noncomputable def saidB (x : ByteArray) : CcD := match ageOf x with
 | some n => ⟨false, false, false, false, true, n⟩
 | none => saidF x
def leastA (a b : CcD) : Int := if a.ha = false then b.age else if b.ha = false then a.age else min a.age b.age
def toge (a b : CcD) : CcD := ⟨a.ns || b.ns, a.nc || b.nc, a.pr || b.pr, a.mu || b.mu, a.ha || b.ha, leastA a b⟩
theorem ageOf_word {x : ByteArray} (h : x = nsW ∨ x = ncW ∨ x = prW ∨ x = muW) : ageOf x = none := by
 unfold ageOf
 rw [if_neg]
 rcases h with rfl | rfl | rfl | rfl <;> decide
theorem step_toge {c : CcD} (h : c.fit) (x : ByteArray) : ccStep c x = toge c (saidB x) := by
 obtain ⟨a0, a1, a2, a3, a4, ax⟩ := c
 have h3 : a4 = false → ax = 0 := h.2.2
 unfold ccStep saidB
 by_cases h0 : x = nsW
 ·
  rw [if_pos h0, ageOf_word (.inl h0)]
  unfold saidF
  rw [if_pos h0]
  cases a4 <;> simp [toge, leastA] <;> exact h3 rfl
 rw [if_neg h0]
 by_cases h1 : x = ncW
 ·
  rw [if_pos h1, ageOf_word (.inr (.inl h1))]
  unfold saidF
  rw [if_neg h0, if_pos h1]
  cases a4 <;> simp [toge, leastA] <;> exact h3 rfl
 rw [if_neg h1]
 by_cases h2 : x = prW
 ·
  rw [if_pos h2, ageOf_word (.inr (.inr (.inl h2)))]
  unfold saidF
  rw [if_neg h0, if_neg h1, if_pos h2]
  cases a4 <;> simp [toge, leastA] <;> exact h3 rfl
 rw [if_neg h2]
 by_cases h4 : x = muW
 ·
  rw [if_pos h4, ageOf_word (.inr (.inr (.inr h4)))]
  unfold saidF
  rw [if_neg h0, if_neg h1, if_neg h2, if_pos h4]
  cases a4 <;> simp [toge, leastA] <;> exact h3 rfl
 rw [if_neg h4]
 cases ageOf x with
 | none =>
  dsimp only
  unfold saidF
  rw [if_neg h0, if_neg h1, if_neg h2, if_neg h4]
  cases a4 <;> simp [toge, leastA, cc0] <;> exact h3 rfl
 | some n => cases a4 <;> simp [toge, leastA]
theorem putCc_other {w : World} {g j : Nat} {d : CcD} (h : j ≠ g) : (putCc w g d).heap[j]? = w.heap[j]? := by
 unfold putCc
 rw [heap_setCell_other _ _ j _ h, heap_setCell_other _ _ j _ h, heap_setCell_other _ _ j _ h, heap_setCell_other _ _ j _ h, heap_setCell_other _ _ j _ h, heap_setCell_other _ _ j _ h]
/-- 'wpAnyH_take', its place named. -/
theorem wpAnyH_takeD {P : Program} {ops : Array Oper} {Q : Exit → Act → World → Prop} {md : Region.Mode} {S : World → Prop} {i : Nat} {oi : Oper} {v : Value} {fuel : Nat} {listed : Array Bool} {a : Act} {w : World} (d : Option Tmp) (hi : ops[i]? = some oi) (hd : oi.dst = d)
  (hs : Region.noSelect ops = true) (hf : Region.free md ops listed i = true) (hr : (Region.ready md ops listed).contains i = true)
  (hQ : ∀ c a w, Q (.panic c) (a.put oi.dst v) w → Q (.panic c) a w) (hy : YieldsIf P ops S oi v a) (hS : S w)
  (h : wpAnyH P md ops Q S fuel (listed.setIfInBounds i true) (a.put d v) w) : wpAnyH P md ops Q S (fuel + 1) listed a w :=
 wpAnyH_take hi hs hf hr hQ hy hS (hd ▸ h)
theorem yieldsIf_guard {P : Program} {ops : Array Oper} {S : World → Prop} {o : Oper} {v : Value} {a : Act} (g : Bool) (hw : Region.wanted o (yielded ops a.tmps) = g) (hv : g = true → ∀ w, S w → (execOp a.eval o).run P w = .ok (.value v) w) : YieldsIf P ops S o (if g = true then v else undef) a := by
 cases g with
 | true => exact Or.inl ⟨hw, by simpa using hv rfl⟩
 | false => exact Or.inr ⟨hw, by simp⟩
theorem leastAge_any (a b : CcD) (w : World) :
  Calls Tryz.prog 164 #[a.v, b.v] w fun e w' => e = .returned (.int .i64 (leastA a b)) ∧ Below w.heap.size w w' := by
 obtain ⟨a0, a1, a2, a3, a4, ax⟩ := a
 obtain ⟨b0, b1, b2, b3, b4, bx⟩ := b
 have HB : Hid (∀ o1 o2, Below w.heap.size w ((w.alloc o1).alloc o2)) := fun o1 o2 => ((Below.refl _ w).alloc (Nat.le_refl _) _).alloc (by simp) _
 have HE : Hid (leastA ⟨a0, a1, a2, a3, a4, ax⟩ ⟨b0, b1, b2, b3, b4, bx⟩ = if a4 = false then bx else if b4 = false then ax else min ax bx) := rfl
 show Calls _ _ #[.agg #[.bool a0, .bool a1, .bool a2, .bool a3, .bool a4, .int .i64 ax], .agg #[.bool b0, .bool b1, .bool b2, .bool b3, .bool b4, .int .i64 bx]] _ _
 cases a4 with
 | false =>
  go_enter Tryz.func164, Tryz.ntmps164
  go_wp2
  go_ret
  exact ⟨by rw [HE.out]; rfl, HB.out _ _⟩
 | true =>
  cases b4 with
  | false =>
   go_enter Tryz.func164, Tryz.ntmps164
   go_wp2
   go_ret
   exact ⟨by rw [HE.out]; rfl, HB.out _ _⟩
  | true =>
   go_enter Tryz.func164, Tryz.ntmps164
   go_wp2
   go_ret
   exact ⟨by rw [HE.out]; rfl, HB.out _ _⟩
theorem together_any (a b : CcD) (w : World) :
  Calls Tryz.prog 155 #[a.v, b.v] w fun e w' => e = .returned (toge a b).v ∧ Below w.heap.size w w' := by
 obtain ⟨a0, a1, a2, a3, a4, ax⟩ := a
 obtain ⟨b0, b1, b2, b3, b4, bx⟩ := b
 show Calls _ _ #[.agg #[.bool a0, .bool a1, .bool a2, .bool a3, .bool a4, .int .i64 ax], .agg #[.bool b0, .bool b1, .bool b2, .bool b3, .bool b4, .int .i64 bx]] _ _
 obtain ⟨H, hH⟩ := exq (w.heap.size)
 have HW : Hid (w.heap.size = H) := hH.symm
 obtain ⟨W1, hW1⟩ := exq (((w.alloc (.cells #[.bool a0, .bool a1, .bool a2, .bool a3, .bool a4, .int .i64 ax] 114)).alloc (.cells #[.bool b0, .bool b1, .bool b2, .bool b3, .bool b4, .int .i64 bx] 114)).alloc (.cells #[.bool false, .bool false, .bool false, .bool false, .bool false, .int .i64 0] 114))
 have HS1 : CcAt W1 H (⟨a0, a1, a2, a3, a4, ax⟩ : CcD) ∧ CcAt W1 (H + 1) (⟨b0, b1, b2, b3, b4, bx⟩ : CcD) ∧ CcAt W1 (H + 1 + 1) cc0 ∧ Below H w W1 := by
  have e1 := heap_alloc_new w (.cells #[.bool a0, .bool a1, .bool a2, .bool a3, .bool a4, .int .i64 ax] 114)
  have e2 := heap_alloc_new (w.alloc (.cells #[.bool a0, .bool a1, .bool a2, .bool a3, .bool a4, .int .i64 ax] 114)) (.cells #[.bool b0, .bool b1, .bool b2, .bool b3, .bool b4, .int .i64 bx] 114)
  have e3 := heap_alloc_new ((w.alloc (.cells #[.bool a0, .bool a1, .bool a2, .bool a3, .bool a4, .int .i64 ax] 114)).alloc (.cells #[.bool b0, .bool b1, .bool b2, .bool b3, .bool b4, .int .i64 bx] 114)) (.cells #[.bool false, .bool false, .bool false, .bool false, .bool false, .int .i64 0] 114)
  rw [World.size_alloc] at e2
  rw [World.size_alloc, World.size_alloc] at e3
  refine ⟨?_, ?_, ?_, ?_⟩
  · unfold CcAt; rw [hW1, hH, heap_alloc_old _ _ (by simp; omega), heap_alloc_old _ _ (by simp)]; exact e1
  · unfold CcAt; rw [hW1, hH, heap_alloc_old _ _ (by simp)]; exact e2
  · unfold CcAt; rw [hW1, hH]; exact e3
  · rw [hW1, hH]; exact (((Below.refl _ w).alloc (Nat.le_refl _) _).alloc (by simp) _).alloc (by simp; omega) _
 have HW1 : Hid (((w.alloc (.cells #[.bool a0, .bool a1, .bool a2, .bool a3, .bool a4, .int .i64 ax] 114)).alloc (.cells #[.bool b0, .bool b1, .bool b2, .bool b3, .bool b4, .int .i64 bx] 114)).alloc (.cells #[.bool false, .bool false, .bool false, .bool false, .bool false, .int .i64 0] 114) = W1) := hW1.symm
 have HL := leastAge_any (⟨a0, a1, a2, a3, a4, ax⟩ : CcD) (⟨b0, b1, b2, b3, b4, bx⟩ : CcD)
 dsimp only [CcD.v] at HL
 obtain ⟨m, hm⟩ : ∃ m, m = leastA (⟨a0, a1, a2, a3, a4, ax⟩ : CcD) (⟨b0, b1, b2, b3, b4, bx⟩ : CcD) := ⟨_, rfl⟩
 rw [← hm] at HL
 have HLL : Hid _ := HL
 have HM : Hid (m = leastA (⟨a0, a1, a2, a3, a4, ax⟩ : CcD) (⟨b0, b1, b2, b3, b4, bx⟩ : CcD)) := hm
 clear hW1 HL hm
 go_enter Tryz.func155, Tryz.ntmps155
 go_upto_region 1 with fail
 rw [HW1.out, ← hH]
 clear hH HW1
 refine wp_region_held_drew (S := fun W => CcAt W H (⟨a0, a1, a2, a3, a4, ax⟩ : CcD) ∧ CcAt W (H + 1) (⟨b0, b1, b2, b3, b4, bx⟩ : CcD) ∧ (∃ c, CcAt W (H + 1 + 1) c) ∧ Below H w W) (by kernel_rfl) ⟨HS1.1, HS1.2.1, ⟨_, HS1.2.2.1⟩, HS1.2.2.2.drew⟩ (fun hHeld => ?_)
 clear HS1
 refine wpAnyH_takeD (i := 0) (v := .pointer (some ⟨H, 0, none⟩)) (some 5) rfl rfl (by kernel_rfl) (by kernel_rfl) (by kernel_rfl) (fun _ _ _ h => h) (Or.inl ⟨by rfl, by intro W hSW; obtain ⟨⟨p0, p1, p2, p3, p4, p5⟩, ⟨r0, r1, r2, r3, r4, r5⟩⟩ := And.intro hSW.1.cells hSW.2.1.cells; dsimp only at p0 p1 p2 p3 p4 p5 r0 r1 r2 r3 r4 r5; go_simp⟩) (by assumption) ?_
 go_frame
 refine wpAnyH_takeD (i := 1) (v := .bool a0) (some 6) rfl rfl (by kernel_rfl) (by kernel_rfl) (by kernel_rfl) (fun _ _ _ h => h) (Or.inl ⟨by rfl, by intro W hSW; obtain ⟨⟨p0, p1, p2, p3, p4, p5⟩, ⟨r0, r1, r2, r3, r4, r5⟩⟩ := And.intro hSW.1.cells hSW.2.1.cells; dsimp only at p0 p1 p2 p3 p4 p5 r0 r1 r2 r3 r4 r5; go_simp⟩) (by assumption) ?_
 go_frame
 refine wpAnyH_takeD (i := 2) (v := .bool a0) (some 7) rfl rfl (by kernel_rfl) (by kernel_rfl) (by kernel_rfl) (fun _ _ _ h => h) (Or.inl ⟨by rfl, by intro W hSW; obtain ⟨⟨p0, p1, p2, p3, p4, p5⟩, ⟨r0, r1, r2, r3, r4, r5⟩⟩ := And.intro hSW.1.cells hSW.2.1.cells; dsimp only at p0 p1 p2 p3 p4 p5 r0 r1 r2 r3 r4 r5; go_simp⟩) (by assumption) ?_
 go_frame
 refine wpAnyH_takeD (i := 3) (v := if (!a0) = true then .pointer (some ⟨H + 1, 0, none⟩) else undef) (some 8) rfl rfl (by kernel_rfl) (by kernel_rfl) (by kernel_rfl) (fun _ _ _ h => h) (yieldsIf_guard (!a0) (by cases a0 <;> rfl) (fun hg => by cases a0 with | true => cases hg | false => (intro W hSW; obtain ⟨⟨p0, p1, p2, p3, p4, p5⟩, ⟨r0, r1, r2, r3, r4, r5⟩⟩ := And.intro hSW.1.cells hSW.2.1.cells; dsimp only at p0 p1 p2 p3 p4 p5 r0 r1 r2 r3 r4 r5; go_simp))) (by assumption) ?_
 go_frame
 refine wpAnyH_takeD (i := 4) (v := if (!a0) = true then .bool b0 else undef) (some 9) rfl rfl (by kernel_rfl) (by kernel_rfl) (by kernel_rfl) (fun _ _ _ h => h) (yieldsIf_guard (!a0) (by cases a0 <;> rfl) (fun hg => by cases a0 with | true => cases hg | false => (intro W hSW; obtain ⟨⟨p0, p1, p2, p3, p4, p5⟩, ⟨r0, r1, r2, r3, r4, r5⟩⟩ := And.intro hSW.1.cells hSW.2.1.cells; dsimp only at p0 p1 p2 p3 p4 p5 r0 r1 r2 r3 r4 r5; go_simp))) (by assumption) ?_
 go_frame
 refine wpAnyH_takeD (i := 5) (v := .bool (a0 || b0)) (some 10) rfl rfl (by kernel_rfl) (by kernel_rfl) (by kernel_rfl) (fun _ _ _ h => h) (Or.inl ⟨by rfl, by intro W hSW; cases a0 <;> go_simp⟩) (by assumption) ?_
 go_frame
 generalize (if (!a0) = true then Value.pointer (some ⟨H + 1, 0, none⟩) else undef) = z0
 generalize (if (!a0) = true then Value.bool b0 else undef) = y0
 refine wpAnyH_takeD (i := 6) (v := .pointer (some ⟨H, 1, none⟩)) (some 11) rfl rfl (by kernel_rfl) (by kernel_rfl) (by kernel_rfl) (fun _ _ _ h => h) (Or.inl ⟨by rfl, by intro W hSW; obtain ⟨⟨p0, p1, p2, p3, p4, p5⟩, ⟨r0, r1, r2, r3, r4, r5⟩⟩ := And.intro hSW.1.cells hSW.2.1.cells; dsimp only at p0 p1 p2 p3 p4 p5 r0 r1 r2 r3 r4 r5; go_simp⟩) (by assumption) ?_
 go_frame
 refine wpAnyH_takeD (i := 7) (v := .bool a1) (some 12) rfl rfl (by kernel_rfl) (by kernel_rfl) (by kernel_rfl) (fun _ _ _ h => h) (Or.inl ⟨by rfl, by intro W hSW; obtain ⟨⟨p0, p1, p2, p3, p4, p5⟩, ⟨r0, r1, r2, r3, r4, r5⟩⟩ := And.intro hSW.1.cells hSW.2.1.cells; dsimp only at p0 p1 p2 p3 p4 p5 r0 r1 r2 r3 r4 r5; go_simp⟩) (by assumption) ?_
 go_frame
 refine wpAnyH_takeD (i := 8) (v := .bool a1) (some 13) rfl rfl (by kernel_rfl) (by kernel_rfl) (by kernel_rfl) (fun _ _ _ h => h) (Or.inl ⟨by rfl, by intro W hSW; obtain ⟨⟨p0, p1, p2, p3, p4, p5⟩, ⟨r0, r1, r2, r3, r4, r5⟩⟩ := And.intro hSW.1.cells hSW.2.1.cells; dsimp only at p0 p1 p2 p3 p4 p5 r0 r1 r2 r3 r4 r5; go_simp⟩) (by assumption) ?_
 go_frame
 refine wpAnyH_takeD (i := 9) (v := if (!a1) = true then .pointer (some ⟨H + 1, 1, none⟩) else undef) (some 14) rfl rfl (by kernel_rfl) (by kernel_rfl) (by kernel_rfl) (fun _ _ _ h => h) (yieldsIf_guard (!a1) (by cases a1 <;> rfl) (fun hg => by cases a1 with | true => cases hg | false => (intro W hSW; obtain ⟨⟨p0, p1, p2, p3, p4, p5⟩, ⟨r0, r1, r2, r3, r4, r5⟩⟩ := And.intro hSW.1.cells hSW.2.1.cells; dsimp only at p0 p1 p2 p3 p4 p5 r0 r1 r2 r3 r4 r5; go_simp))) (by assumption) ?_
 go_frame
 refine wpAnyH_takeD (i := 10) (v := if (!a1) = true then .bool b1 else undef) (some 15) rfl rfl (by kernel_rfl) (by kernel_rfl) (by kernel_rfl) (fun _ _ _ h => h) (yieldsIf_guard (!a1) (by cases a1 <;> rfl) (fun hg => by cases a1 with | true => cases hg | false => (intro W hSW; obtain ⟨⟨p0, p1, p2, p3, p4, p5⟩, ⟨r0, r1, r2, r3, r4, r5⟩⟩ := And.intro hSW.1.cells hSW.2.1.cells; dsimp only at p0 p1 p2 p3 p4 p5 r0 r1 r2 r3 r4 r5; go_simp))) (by assumption) ?_
 go_frame
 refine wpAnyH_takeD (i := 11) (v := .bool (a1 || b1)) (some 16) rfl rfl (by kernel_rfl) (by kernel_rfl) (by kernel_rfl) (fun _ _ _ h => h) (Or.inl ⟨by rfl, by intro W hSW; cases a1 <;> go_simp⟩) (by assumption) ?_
 go_frame
 generalize (if (!a1) = true then Value.pointer (some ⟨H + 1, 1, none⟩) else undef) = z1
 generalize (if (!a1) = true then Value.bool b1 else undef) = y1
 refine wpAnyH_takeD (i := 12) (v := .pointer (some ⟨H, 2, none⟩)) (some 17) rfl rfl (by kernel_rfl) (by kernel_rfl) (by kernel_rfl) (fun _ _ _ h => h) (Or.inl ⟨by rfl, by intro W hSW; obtain ⟨⟨p0, p1, p2, p3, p4, p5⟩, ⟨r0, r1, r2, r3, r4, r5⟩⟩ := And.intro hSW.1.cells hSW.2.1.cells; dsimp only at p0 p1 p2 p3 p4 p5 r0 r1 r2 r3 r4 r5; go_simp⟩) (by assumption) ?_
 go_frame
 refine wpAnyH_takeD (i := 13) (v := .bool a2) (some 18) rfl rfl (by kernel_rfl) (by kernel_rfl) (by kernel_rfl) (fun _ _ _ h => h) (Or.inl ⟨by rfl, by intro W hSW; obtain ⟨⟨p0, p1, p2, p3, p4, p5⟩, ⟨r0, r1, r2, r3, r4, r5⟩⟩ := And.intro hSW.1.cells hSW.2.1.cells; dsimp only at p0 p1 p2 p3 p4 p5 r0 r1 r2 r3 r4 r5; go_simp⟩) (by assumption) ?_
 go_frame
 refine wpAnyH_takeD (i := 14) (v := .bool a2) (some 19) rfl rfl (by kernel_rfl) (by kernel_rfl) (by kernel_rfl) (fun _ _ _ h => h) (Or.inl ⟨by rfl, by intro W hSW; obtain ⟨⟨p0, p1, p2, p3, p4, p5⟩, ⟨r0, r1, r2, r3, r4, r5⟩⟩ := And.intro hSW.1.cells hSW.2.1.cells; dsimp only at p0 p1 p2 p3 p4 p5 r0 r1 r2 r3 r4 r5; go_simp⟩) (by assumption) ?_
 go_frame
 refine wpAnyH_takeD (i := 15) (v := if (!a2) = true then .pointer (some ⟨H + 1, 2, none⟩) else undef) (some 20) rfl rfl (by kernel_rfl) (by kernel_rfl) (by kernel_rfl) (fun _ _ _ h => h) (yieldsIf_guard (!a2) (by cases a2 <;> rfl) (fun hg => by cases a2 with | true => cases hg | false => (intro W hSW; obtain ⟨⟨p0, p1, p2, p3, p4, p5⟩, ⟨r0, r1, r2, r3, r4, r5⟩⟩ := And.intro hSW.1.cells hSW.2.1.cells; dsimp only at p0 p1 p2 p3 p4 p5 r0 r1 r2 r3 r4 r5; go_simp))) (by assumption) ?_
 go_frame
 refine wpAnyH_takeD (i := 16) (v := if (!a2) = true then .bool b2 else undef) (some 21) rfl rfl (by kernel_rfl) (by kernel_rfl) (by kernel_rfl) (fun _ _ _ h => h) (yieldsIf_guard (!a2) (by cases a2 <;> rfl) (fun hg => by cases a2 with | true => cases hg | false => (intro W hSW; obtain ⟨⟨p0, p1, p2, p3, p4, p5⟩, ⟨r0, r1, r2, r3, r4, r5⟩⟩ := And.intro hSW.1.cells hSW.2.1.cells; dsimp only at p0 p1 p2 p3 p4 p5 r0 r1 r2 r3 r4 r5; go_simp))) (by assumption) ?_
 go_frame
 refine wpAnyH_takeD (i := 17) (v := .bool (a2 || b2)) (some 22) rfl rfl (by kernel_rfl) (by kernel_rfl) (by kernel_rfl) (fun _ _ _ h => h) (Or.inl ⟨by rfl, by intro W hSW; cases a2 <;> go_simp⟩) (by assumption) ?_
 go_frame
 generalize (if (!a2) = true then Value.pointer (some ⟨H + 1, 2, none⟩) else undef) = z2
 generalize (if (!a2) = true then Value.bool b2 else undef) = y2
 refine wpAnyH_takeD (i := 18) (v := .pointer (some ⟨H, 3, none⟩)) (some 23) rfl rfl (by kernel_rfl) (by kernel_rfl) (by kernel_rfl) (fun _ _ _ h => h) (Or.inl ⟨by rfl, by intro W hSW; obtain ⟨⟨p0, p1, p2, p3, p4, p5⟩, ⟨r0, r1, r2, r3, r4, r5⟩⟩ := And.intro hSW.1.cells hSW.2.1.cells; dsimp only at p0 p1 p2 p3 p4 p5 r0 r1 r2 r3 r4 r5; go_simp⟩) (by assumption) ?_
 go_frame
 refine wpAnyH_takeD (i := 19) (v := .bool a3) (some 24) rfl rfl (by kernel_rfl) (by kernel_rfl) (by kernel_rfl) (fun _ _ _ h => h) (Or.inl ⟨by rfl, by intro W hSW; obtain ⟨⟨p0, p1, p2, p3, p4, p5⟩, ⟨r0, r1, r2, r3, r4, r5⟩⟩ := And.intro hSW.1.cells hSW.2.1.cells; dsimp only at p0 p1 p2 p3 p4 p5 r0 r1 r2 r3 r4 r5; go_simp⟩) (by assumption) ?_
 go_frame
 refine wpAnyH_takeD (i := 20) (v := .bool a3) (some 25) rfl rfl (by kernel_rfl) (by kernel_rfl) (by kernel_rfl) (fun _ _ _ h => h) (Or.inl ⟨by rfl, by intro W hSW; obtain ⟨⟨p0, p1, p2, p3, p4, p5⟩, ⟨r0, r1, r2, r3, r4, r5⟩⟩ := And.intro hSW.1.cells hSW.2.1.cells; dsimp only at p0 p1 p2 p3 p4 p5 r0 r1 r2 r3 r4 r5; go_simp⟩) (by assumption) ?_
 go_frame
 refine wpAnyH_takeD (i := 21) (v := if (!a3) = true then .pointer (some ⟨H + 1, 3, none⟩) else undef) (some 26) rfl rfl (by kernel_rfl) (by kernel_rfl) (by kernel_rfl) (fun _ _ _ h => h) (yieldsIf_guard (!a3) (by cases a3 <;> rfl) (fun hg => by cases a3 with | true => cases hg | false => (intro W hSW; obtain ⟨⟨p0, p1, p2, p3, p4, p5⟩, ⟨r0, r1, r2, r3, r4, r5⟩⟩ := And.intro hSW.1.cells hSW.2.1.cells; dsimp only at p0 p1 p2 p3 p4 p5 r0 r1 r2 r3 r4 r5; go_simp))) (by assumption) ?_
 go_frame
 refine wpAnyH_takeD (i := 22) (v := if (!a3) = true then .bool b3 else undef) (some 27) rfl rfl (by kernel_rfl) (by kernel_rfl) (by kernel_rfl) (fun _ _ _ h => h) (yieldsIf_guard (!a3) (by cases a3 <;> rfl) (fun hg => by cases a3 with | true => cases hg | false => (intro W hSW; obtain ⟨⟨p0, p1, p2, p3, p4, p5⟩, ⟨r0, r1, r2, r3, r4, r5⟩⟩ := And.intro hSW.1.cells hSW.2.1.cells; dsimp only at p0 p1 p2 p3 p4 p5 r0 r1 r2 r3 r4 r5; go_simp))) (by assumption) ?_
 go_frame
 refine wpAnyH_takeD (i := 23) (v := .bool (a3 || b3)) (some 28) rfl rfl (by kernel_rfl) (by kernel_rfl) (by kernel_rfl) (fun _ _ _ h => h) (Or.inl ⟨by rfl, by intro W hSW; cases a3 <;> go_simp⟩) (by assumption) ?_
 go_frame
 generalize (if (!a3) = true then Value.pointer (some ⟨H + 1, 3, none⟩) else undef) = z3
 generalize (if (!a3) = true then Value.bool b3 else undef) = y3
 refine wpAnyH_takeD (i := 24) (v := .pointer (some ⟨H, 4, none⟩)) (some 29) rfl rfl (by kernel_rfl) (by kernel_rfl) (by kernel_rfl) (fun _ _ _ h => h) (Or.inl ⟨by rfl, by intro W hSW; obtain ⟨⟨p0, p1, p2, p3, p4, p5⟩, ⟨r0, r1, r2, r3, r4, r5⟩⟩ := And.intro hSW.1.cells hSW.2.1.cells; dsimp only at p0 p1 p2 p3 p4 p5 r0 r1 r2 r3 r4 r5; go_simp⟩) (by assumption) ?_
 go_frame
 refine wpAnyH_takeD (i := 25) (v := .bool a4) (some 30) rfl rfl (by kernel_rfl) (by kernel_rfl) (by kernel_rfl) (fun _ _ _ h => h) (Or.inl ⟨by rfl, by intro W hSW; obtain ⟨⟨p0, p1, p2, p3, p4, p5⟩, ⟨r0, r1, r2, r3, r4, r5⟩⟩ := And.intro hSW.1.cells hSW.2.1.cells; dsimp only at p0 p1 p2 p3 p4 p5 r0 r1 r2 r3 r4 r5; go_simp⟩) (by assumption) ?_
 go_frame
 refine wpAnyH_takeD (i := 26) (v := .bool a4) (some 31) rfl rfl (by kernel_rfl) (by kernel_rfl) (by kernel_rfl) (fun _ _ _ h => h) (Or.inl ⟨by rfl, by intro W hSW; obtain ⟨⟨p0, p1, p2, p3, p4, p5⟩, ⟨r0, r1, r2, r3, r4, r5⟩⟩ := And.intro hSW.1.cells hSW.2.1.cells; dsimp only at p0 p1 p2 p3 p4 p5 r0 r1 r2 r3 r4 r5; go_simp⟩) (by assumption) ?_
 go_frame
 refine wpAnyH_takeD (i := 27) (v := if (!a4) = true then .pointer (some ⟨H + 1, 4, none⟩) else undef) (some 32) rfl rfl (by kernel_rfl) (by kernel_rfl) (by kernel_rfl) (fun _ _ _ h => h) (yieldsIf_guard (!a4) (by cases a4 <;> rfl) (fun hg => by cases a4 with | true => cases hg | false => (intro W hSW; obtain ⟨⟨p0, p1, p2, p3, p4, p5⟩, ⟨r0, r1, r2, r3, r4, r5⟩⟩ := And.intro hSW.1.cells hSW.2.1.cells; dsimp only at p0 p1 p2 p3 p4 p5 r0 r1 r2 r3 r4 r5; go_simp))) (by assumption) ?_
 go_frame
 refine wpAnyH_takeD (i := 28) (v := if (!a4) = true then .bool b4 else undef) (some 33) rfl rfl (by kernel_rfl) (by kernel_rfl) (by kernel_rfl) (fun _ _ _ h => h) (yieldsIf_guard (!a4) (by cases a4 <;> rfl) (fun hg => by cases a4 with | true => cases hg | false => (intro W hSW; obtain ⟨⟨p0, p1, p2, p3, p4, p5⟩, ⟨r0, r1, r2, r3, r4, r5⟩⟩ := And.intro hSW.1.cells hSW.2.1.cells; dsimp only at p0 p1 p2 p3 p4 p5 r0 r1 r2 r3 r4 r5; go_simp))) (by assumption) ?_
 go_frame
 refine wpAnyH_takeD (i := 29) (v := .bool (a4 || b4)) (some 34) rfl rfl (by kernel_rfl) (by kernel_rfl) (by kernel_rfl) (fun _ _ _ h => h) (Or.inl ⟨by rfl, by intro W hSW; cases a4 <;> go_simp⟩) (by assumption) ?_
 go_frame
 generalize (if (!a4) = true then Value.pointer (some ⟨H + 1, 4, none⟩) else undef) = z4
 generalize (if (!a4) = true then Value.bool b4 else undef) = y4
 refine wpAnyH_takeD (i := 30) (v := .agg #[.bool a0, .bool a1, .bool a2, .bool a3, .bool a4, .int .i64 ax]) (some 35) rfl rfl (by kernel_rfl) (by kernel_rfl) (by kernel_rfl) (fun _ _ _ h => h) (Or.inl ⟨by rfl, by intro W hSW; obtain ⟨⟨p0, p1, p2, p3, p4, p5⟩, ⟨r0, r1, r2, r3, r4, r5⟩⟩ := And.intro hSW.1.cells hSW.2.1.cells; dsimp only at p0 p1 p2 p3 p4 p5 r0 r1 r2 r3 r4 r5; go_simp⟩) (by assumption) ?_
 go_frame
 refine wpAnyH_takeD (i := 31) (v := .agg #[.bool b0, .bool b1, .bool b2, .bool b3, .bool b4, .int .i64 bx]) (some 36) rfl rfl (by kernel_rfl) (by kernel_rfl) (by kernel_rfl) (fun _ _ _ h => h) (Or.inl ⟨by rfl, by intro W hSW; obtain ⟨⟨p0, p1, p2, p3, p4, p5⟩, ⟨r0, r1, r2, r3, r4, r5⟩⟩ := And.intro hSW.1.cells hSW.2.1.cells; dsimp only at p0 p1 p2 p3 p4 p5 r0 r1 r2 r3 r4 r5; go_simp⟩) (by assumption) ?_
 go_frame
 refine rd1 32 rfl (fun K hK => ?_)
 go_simp
 refine (HLL.out _).mono ?_
 rintro e w2 ⟨rfl, bt⟩
 have hS2 : CcAt w2 H (⟨a0, a1, a2, a3, a4, ax⟩ : CcD) ∧ CcAt w2 (H + 1) (⟨b0, b1, b2, b3, b4, bx⟩ : CcD) ∧ (∃ c, CcAt w2 (H + 1 + 1) c) ∧ Below H w w2 :=
  ⟨hHeld.1.same (bt.block _ hHeld.1.lt), hHeld.2.1.same (bt.block _ hHeld.2.1.lt), hHeld.2.2.1.imp fun _ h => h.same (bt.block _ h.lt), hHeld.2.2.2.trans (bt.mono (Nat.le_of_lt hHeld.1.lt))⟩
 refine hK.out _ _ hS2 (fun hHeld2 => ?_)
 clear hK K hHeld bt hHeld2
 refine tkL 33 (.agg #[.bool (a0 || b0), .bool (a1 || b1), .bool (a2 || b2), .bool (a3 || b3), .bool (a4 || b4), .int .i64 m]) 38 rfl rfl (Or.inl ⟨by rfl, by intro W hSW; clear hSW; go_simp⟩) hS2 ?_
 go_frame
 refine rd1 34 rfl (fun K hK => ?_)
 obtain ⟨z, hz⟩ := hS2.2.2.1
 obtain ⟨r0, r1, r2, r3, r4, r5⟩ := hz.cells
 have f0 := hz.frozen 0
 have f1 := hz.frozen 1
 have f2 := hz.frozen 2
 have f3 := hz.frozen 3
 have f4 := hz.frozen 4
 have f5 := hz.frozen 5
 obtain ⟨c, hc⟩ : ∃ c : CcD, c = ⟨a0 || b0, a1 || b1, a2 || b2, a3 || b3, a4 || b4, m⟩ := ⟨_, rfl⟩
 have HC : Hid (c = toge (⟨a0, a1, a2, a3, a4, ax⟩ : CcD) (⟨b0, b1, b2, b3, b4, bx⟩ : CcD)) := by show _ = _; rw [hc, HM.out]; rfl
 have HP : Hid (CcAt (putCc w2 (H + 1 + 1) c) (H + 1 + 1) c) := hz.putAll c
 have HB : Hid (Below H w (putCc w2 (H + 1 + 1) c)) := below_putCc hS2.2.2.2 (by omega) c
 have HS3 : Hid (CcAt (putCc w2 (H + 1 + 1) c) H (⟨a0, a1, a2, a3, a4, ax⟩ : CcD) ∧ CcAt (putCc w2 (H + 1 + 1) c) (H + 1) (⟨b0, b1, b2, b3, b4, bx⟩ : CcD)) :=
  ⟨hS2.1.same (putCc_other (by omega)), hS2.2.1.same (putCc_other (by omega))⟩
 have HPC : Hid (putCc w2 (H + 1 + 1) c = (((((w2.setCell ⟨H + 1 + 1, 0, none⟩ (.bool (a0 || b0))).setCell ⟨H + 1 + 1, 1, none⟩ (.bool (a1 || b1))).setCell ⟨H + 1 + 1, 2, none⟩ (.bool (a2 || b2))).setCell ⟨H + 1 + 1, 3, none⟩ (.bool (a3 || b3))).setCell ⟨H + 1 + 1, 4, none⟩ (.bool (a4 || b4))).setCell ⟨H + 1 + 1, 5, none⟩ (.int .i64 m)) := by show _ = _; rw [hc]; rfl
 clear hS2 hz hc
 go_simp
 rw [← HPC.out]
 obtain ⟨w3, hw3⟩ := exq (putCc w2 (H + 1 + 1) c)
 rw [← hw3] at HP HB HS3 ⊢
 clear hw3 HPC r0 r1 r2 r3 r4 r5 f0 f1 f2 f3 f4 f5
 refine hK.out _ _ ⟨HS3.out.1, HS3.out.2, ⟨_, HP.out⟩, HB.out⟩ (fun _ => ?_)
 clear hK K
 refine wpAnyH_done (by kernel_rfl) ?_ _
 obtain ⟨m0, m1, m2, m3, m4, m5⟩ := HP.out.cells
 go_wp2_with fail
 refine bodyPost_ret (v := c.v) (by simp [results, Tryz.results155, go_sem, m0, m1, m2, m3, m4, m5, CcD.v]) rfl ?_
 exact ⟨by rw [HC.out], by rw [HW.out]; exact HB.out⟩
end Go.Proofs.YtanpngnpolhgbaaGreat
namespace Go.Proofs.YtanpngnpolhgbaaGreat
open Go.RowKit
open Go.Lib hiding intOf
theorem specObjOk_any (p : ByteArray) (o1 : Option Addr) (n1 c1 : Nat) (xs : List ByteArray) (o2 : Option Addr) (n2 c2 : Nat) (ys : List ByteArray) (st : Int) (v3 : Value) (n3 base : Nat) (fs : List (ByteArray × ByteArray)) (b : ByteArray) (t : Int) (w : World) (h1 : TextsA w o1 n1 xs) (h2 : TextsA w o2 n2 ys) (h3 : FieldsV w base v3 n3 fs) (hn1 : n1 ≤ 2000000) (hn2 : n2 ≤ 2000000) (hn3 : n3 ≤ 2000000) (hs1 : ∀ i, i < n1 → (textAt xs i).size ≤ maxLen) (hs2 : ∀ i, i < n2 → (textAt ys i).size ≤ maxLen) (hs3 : WalkF n3 fs) (hp : p.size ≤ maxLen) (hx : b.size ≤ maxLen) (hg : (getV fs varyName).size ≤ 1048576) :
  Calls Tryz.prog 16 #[.agg #[.string p, .slice o1 n1 c1, .slice o2 n2 c2, .int .i64 st, v3, .string b, .int .i64 t]] w fun e w' => BoolIs (ObjP p xs ys st fs b t) w e w' := by
 obtain ⟨o3, c3, rfl, _⟩ := h3.slice
 have HV1 : Hid (∀ W, Below w.heap.size w W → TextsA W o1 n1 xs) := fun W h => h1.below h
 have HV2 : Hid (∀ W, Below w.heap.size w W → TextsA W o2 n2 ys) := fun W h => h2.below h
 have HV3 : Hid (∀ W, Below w.heap.size w W → FieldsV W base (.slice o3 n3 c3) n3 fs) := fun W h => h3.below h
 have HL1 : Hid (xs.length = n1) := h1.1
 have HL2 : Hid (ys.length = n2) := h2.1
 have HS1 : Hid (∀ i, i < n1 → (textAt xs i).size ≤ maxLen) := hs1
 have HS2 : Hid (∀ i, i < n2 → (textAt ys i).size ≤ maxLen) := hs2
 have HS3 : Hid (WalkF n3 fs) := hs3
 have HPM : Hid (p.size ≤ maxLen) := hp
 have HX : Hid (b.size ≤ maxLen) := hx
 have HG : Hid ((getV fs varyName).size ≤ 1048576) := hg
 obtain ⟨vl, hvl⟩ := exq (varyP fs)
 have HVL : Hid (varyP fs = vl) := hvl.symm
 clear h1 h2 h3 hs1 hs2 hs3 hp hx hg hvl
 have hb0 : Below w.heap.size w w := Below.refl _ _
 go_enter Tryz.func16, Tryz.ntmps16
 go_upto_region 1 with fail
 obtain ⟨qv1, hqv1⟩ := exq ((w).heap.size)
 obtain ⟨w1, hW1⟩ := exq ((w).alloc (.cells #[.string p, .slice o1 n1 c1, .slice o2 n2 c2, .int .i64 st, .slice o3 n3 c3, .string b, .int .i64 t] 65))
 have hz1 : (w).heap.size = qv1 := hqv1.symm
 first | rw [← hW1, ← hqv1] | rw [← hW1]
 have hs1 := hsa hW1 hz1
 have bw := bal hW1
 have hb1 := hbt hb0 bw
 have HBv1_1 := hnew hW1 hz1
 clear hb0 bw hW1 hz1
 clear hs1 hqv1
 go_upto_region 1 with fail
 refine wp_region_held_drew (S := fun W => W.heap[qv1]? = some (.cells #[.string p, .slice o1 n1 c1, .slice o2 n2 c2, .int .i64 st, .slice o3 n3 c3, .string b, .int .i64 t] 65)) (by kernel_rfl) HBv1_1.out (fun _ => ?_)
 obtain ⟨w2, hX⟩ := exq w1.drew
 have bw := bdr hX
 rw [← hX]
 have hb2 := hbt hb1 bw
 have HBv1_2 := hblk HBv1_1 bw
 have hS2 := HBv1_2.out
 clear hb1 HBv1_1 bw hX
 refine tkP 0 (.pointer (some ⟨qv1, 3, none⟩)) 4 rfl rfl hS2 ?_
 go_frame
 refine tkL 1 (.agg #[.int .i64 st, .slice o3 n3 c3, .string b]) 5 rfl rfl (Or.inl ⟨by rfl, by intro W hW; have hhv1 := hW; have y3 := (cell_of hhv1 3).trans rfl; have y4 := (cell_of hhv1 4).trans rfl; have y5 := (cell_of hhv1 5).trans rfl; go_simp⟩) hS2 ?_
 go_frame
 refine rd1 2 rfl (fun K hK => ?_)
 go_simp
 refine (specRespOk_any st _ b n3 base fs _ (HV3.out _ hb2) (by omega) HS3.out HX.out).mono ?_
 rintro e w3 ⟨u1, rfl, htu1, bw⟩
 have hb3 := hbt hb2 bw
 have HBv1_3 := hblk HBv1_2 bw
 clear hb2 HBv1_2 bw
 have hS3 := HBv1_3.out
 refine hK.out _ _ hS3 (fun _ => ?_)
 clear hK K hS2
 cases u1 with
 | false =>
  have HF : Hid (¬ ObjP p xs ys st fs b t) := fun h => nomatch htu1.2 h.1
  clear htu1
  refine tkP 3 (.bool true) 7 rfl rfl hS3 ?_
  go_frame
  refine tkP 4 (.bool true) 8 rfl rfl hS3 ?_
  go_frame
  refine tkN 5 9 rfl rfl hS3 ?_
  go_frame
  refine tkN 6 10 rfl rfl hS3 ?_
  go_frame
  refine tkN 7 11 rfl rfl hS3 ?_
  go_frame
  refine tkN 8 12 rfl rfl hS3 ?_
  go_frame
  refine tkP 9 (.bool true) 13 rfl rfl hS3 ?_
  go_frame
  refine tkP 10 (.bool true) 14 rfl rfl hS3 ?_
  go_frame
  refine tkN 11 15 rfl rfl hS3 ?_
  go_frame
  refine tkN 12 16 rfl rfl hS3 ?_
  go_frame
  refine tkN 13 17 rfl rfl hS3 ?_
  go_frame
  refine tkN 14 18 rfl rfl hS3 ?_
  go_frame
  refine tkP 15 (.bool true) 19 rfl rfl hS3 ?_
  go_frame
  refine tkP 16 (.bool true) 20 rfl rfl hS3 ?_
  go_frame
  refine tkN 17 21 rfl rfl hS3 ?_
  go_frame
  refine tkN 18 22 rfl rfl hS3 ?_
  go_frame
  refine tkN 19 23 rfl rfl hS3 ?_
  go_frame
  refine tkN 20 24 rfl rfl hS3 ?_
  go_frame
  refine tkP 21 (.bool true) 25 rfl rfl hS3 ?_
  go_frame
  refine tkP 22 (.bool true) 26 rfl rfl hS3 ?_
  go_frame
  refine tkN 23 27 rfl rfl hS3 ?_
  go_frame
  refine tkN 24 28 rfl rfl hS3 ?_
  go_frame
  refine tkN 25 29 rfl rfl hS3 ?_
  go_frame
  refine tkN 26 30 rfl rfl hS3 ?_
  go_frame
  refine tkN 27 31 rfl rfl hS3 ?_
  go_frame
  refine tkN 28 32 rfl rfl hS3 ?_
  go_frame
  refine tkN 29 33 rfl rfl hS3 ?_
  go_frame
  refine tkN 30 34 rfl rfl hS3 ?_
  go_frame
  refine tkP 31 (.bool true) 35 rfl rfl hS3 ?_
  go_frame
  refine tkP 32 (.bool true) 36 rfl rfl hS3 ?_
  go_frame
  refine tkN 33 37 rfl rfl hS3 ?_
  go_frame
  refine tkN 34 38 rfl rfl hS3 ?_
  go_frame
  refine tkN 35 39 rfl rfl hS3 ?_
  go_frame
  refine tkN 36 40 rfl rfl hS3 ?_
  go_frame
  refine tkN 37 41 rfl rfl hS3 ?_
  go_frame
  refine tkN 38 42 rfl rfl hS3 ?_
  go_frame
  refine tkN 39 43 rfl rfl hS3 ?_
  go_frame
  refine tkP 40 (.bool true) 44 rfl rfl hS3 ?_
  go_frame
  clear hS3
  refine wpAnyH_done (by kernel_rfl) ?_ _
  go_wp2_with fail
  go_ret
  exact BoolIs.no HF.out hb3
 | true =>
  have HR : Hid (RespP st fs b) := htu1.1 rfl
  clear htu1
  refine tkP 3 (.bool false) 7 rfl rfl hS3 ?_
  go_frame
  refine tkP 4 (.bool false) 8 rfl rfl hS3 ?_
  go_frame
  refine tkP 5 (.pointer (some ⟨qv1, 0, none⟩)) 9 rfl rfl hS3 ?_
  go_frame
  refine tkL 6 (.string p) 10 rfl rfl (Or.inl ⟨by rfl, by intro W hW; have hhv1 := hW; have y0 := (cell_of hhv1 0).trans rfl; go_simp⟩) hS3 ?_
  go_frame
  refine rd1 7 rfl (fun K hK => ?_)
  go_simp
  refine (l3Path_any p _ HPM.out).mono ?_
  rintro e w4 ⟨u2, rfl, htu2, bw⟩
  have hb4 := hbt hb3 bw
  have HBv1_4 := hblk HBv1_3 bw
  clear hb3 HBv1_3 bw
  have hS4 := HBv1_4.out
  refine hK.out _ _ hS4 (fun _ => ?_)
  clear hK K hS3
  cases u2 with
  | false =>
   have HF : Hid (¬ ObjP p xs ys st fs b t) := fun h => nomatch htu2.2 h.2.1
   clear htu2
   refine tkP 8 (.bool true) 12 rfl rfl hS4 ?_
   go_frame
   refine tkP 9 (.bool true) 13 rfl rfl hS4 ?_
   go_frame
   refine tkP 10 (.bool true) 14 rfl rfl hS4 ?_
   go_frame
   refine tkN 11 15 rfl rfl hS4 ?_
   go_frame
   refine tkN 12 16 rfl rfl hS4 ?_
   go_frame
   refine tkN 13 17 rfl rfl hS4 ?_
   go_frame
   refine tkN 14 18 rfl rfl hS4 ?_
   go_frame
   refine tkP 15 (.bool true) 19 rfl rfl hS4 ?_
   go_frame
   refine tkP 16 (.bool true) 20 rfl rfl hS4 ?_
   go_frame
   refine tkN 17 21 rfl rfl hS4 ?_
   go_frame
   refine tkN 18 22 rfl rfl hS4 ?_
   go_frame
   refine tkN 19 23 rfl rfl hS4 ?_
   go_frame
   refine tkN 20 24 rfl rfl hS4 ?_
   go_frame
   refine tkP 21 (.bool true) 25 rfl rfl hS4 ?_
   go_frame
   refine tkP 22 (.bool true) 26 rfl rfl hS4 ?_
   go_frame
   refine tkN 23 27 rfl rfl hS4 ?_
   go_frame
   refine tkN 24 28 rfl rfl hS4 ?_
   go_frame
   refine tkN 25 29 rfl rfl hS4 ?_
   go_frame
   refine tkN 26 30 rfl rfl hS4 ?_
   go_frame
   refine tkN 27 31 rfl rfl hS4 ?_
   go_frame
   refine tkN 28 32 rfl rfl hS4 ?_
   go_frame
   refine tkN 29 33 rfl rfl hS4 ?_
   go_frame
   refine tkN 30 34 rfl rfl hS4 ?_
   go_frame
   refine tkP 31 (.bool true) 35 rfl rfl hS4 ?_
   go_frame
   refine tkP 32 (.bool true) 36 rfl rfl hS4 ?_
   go_frame
   refine tkN 33 37 rfl rfl hS4 ?_
   go_frame
   refine tkN 34 38 rfl rfl hS4 ?_
   go_frame
   refine tkN 35 39 rfl rfl hS4 ?_
   go_frame
   refine tkN 36 40 rfl rfl hS4 ?_
   go_frame
   refine tkN 37 41 rfl rfl hS4 ?_
   go_frame
   refine tkN 38 42 rfl rfl hS4 ?_
   go_frame
   refine tkN 39 43 rfl rfl hS4 ?_
   go_frame
   refine tkP 40 (.bool true) 44 rfl rfl hS4 ?_
   go_frame
   clear hS4
   refine wpAnyH_done (by kernel_rfl) ?_ _
   go_wp2_with fail
   go_ret
   exact BoolIs.no HF.out hb4
  | true =>
   have HP : Hid (PathOk p) := htu2.1 rfl
   clear htu2
   refine tkP 8 (.bool false) 12 rfl rfl hS4 ?_
   go_frame
   refine tkP 9 (.bool false) 13 rfl rfl hS4 ?_
   go_frame
   refine tkP 10 (.bool false) 14 rfl rfl hS4 ?_
   go_frame
   refine tkP 11 (.pointer (some ⟨qv1, 6, none⟩)) 15 rfl rfl hS4 ?_
   go_frame
   refine tkL 12 (.int .i64 t) 16 rfl rfl (Or.inl ⟨by rfl, by intro W hW; have hhv1 := hW; have y6 := (cell_of hhv1 6).trans rfl; go_simp⟩) hS4 ?_
   go_frame
   refine rd1 13 rfl (fun K hK => ?_)
   go_simp
   refine (l1In_any t 0 1000000 _).mono ?_
   rintro e w5 ⟨rfl, hwe⟩
   have bw : Below (w4).heap.size (w4) w5 := by rw [hwe]; exact Below.refl _ _
   clear hwe
   obtain ⟨u3, hu3⟩ : ∃ u3, u3 = decide ((0 : Int) ≤ t ∧ t ≤ 1000000) := ⟨_, rfl⟩
   rw [← hu3]
   have hb5 := hbt hb4 bw
   have HBv1_5 := hblk HBv1_4 bw
   clear hb4 HBv1_4 bw
   have hS5 := HBv1_5.out
   refine hK.out _ _ hS5 (fun _ => ?_)
   clear hK K hS4
   cases u3 with
   | false =>
    have HF : Hid (¬ ObjP p xs ys st fs b t) := fun h => absurd h.2.2.1 (of_decide_eq_false hu3.symm)
    clear hu3
    refine tkP 14 (.bool true) 18 rfl rfl hS5 ?_
    go_frame
    refine tkP 15 (.bool true) 19 rfl rfl hS5 ?_
    go_frame
    refine tkP 16 (.bool true) 20 rfl rfl hS5 ?_
    go_frame
    refine tkN 17 21 rfl rfl hS5 ?_
    go_frame
    refine tkN 18 22 rfl rfl hS5 ?_
    go_frame
    refine tkN 19 23 rfl rfl hS5 ?_
    go_frame
    refine tkN 20 24 rfl rfl hS5 ?_
    go_frame
    refine tkP 21 (.bool true) 25 rfl rfl hS5 ?_
    go_frame
    refine tkP 22 (.bool true) 26 rfl rfl hS5 ?_
    go_frame
    refine tkN 23 27 rfl rfl hS5 ?_
    go_frame
    refine tkN 24 28 rfl rfl hS5 ?_
    go_frame
    refine tkN 25 29 rfl rfl hS5 ?_
    go_frame
    refine tkN 26 30 rfl rfl hS5 ?_
    go_frame
    refine tkN 27 31 rfl rfl hS5 ?_
    go_frame
    refine tkN 28 32 rfl rfl hS5 ?_
    go_frame
    refine tkN 29 33 rfl rfl hS5 ?_
    go_frame
    refine tkN 30 34 rfl rfl hS5 ?_
    go_frame
    refine tkP 31 (.bool true) 35 rfl rfl hS5 ?_
    go_frame
    refine tkP 32 (.bool true) 36 rfl rfl hS5 ?_
    go_frame
    refine tkN 33 37 rfl rfl hS5 ?_
    go_frame
    refine tkN 34 38 rfl rfl hS5 ?_
    go_frame
    refine tkN 35 39 rfl rfl hS5 ?_
    go_frame
    refine tkN 36 40 rfl rfl hS5 ?_
    go_frame
    refine tkN 37 41 rfl rfl hS5 ?_
    go_frame
    refine tkN 38 42 rfl rfl hS5 ?_
    go_frame
    refine tkN 39 43 rfl rfl hS5 ?_
    go_frame
    refine tkP 40 (.bool true) 44 rfl rfl hS5 ?_
    go_frame
    clear hS5
    refine wpAnyH_done (by kernel_rfl) ?_ _
    go_wp2_with fail
    go_ret
    exact BoolIs.no HF.out hb5
   | true =>
    have HT : Hid (0 ≤ t ∧ t ≤ 1000000) := (show 0 ≤ t ∧ t ≤ 1000000 from of_decide_eq_true hu3.symm)
    clear hu3
    refine tkP 14 (.bool false) 18 rfl rfl hS5 ?_
    go_frame
    refine tkP 15 (.bool false) 19 rfl rfl hS5 ?_
    go_frame
    refine tkP 16 (.bool false) 20 rfl rfl hS5 ?_
    go_frame
    refine tkP 17 (.pointer (some ⟨qv1, 1, none⟩)) 21 rfl rfl hS5 ?_
    go_frame
    refine tkL 18 (.slice o1 n1 c1) 22 rfl rfl (Or.inl ⟨by rfl, by intro W hW; have hhv1 := hW; have y1 := (cell_of hhv1 1).trans rfl; go_simp⟩) hS5 ?_
    go_frame
    refine rd1 19 rfl (fun K hK => ?_)
    go_simp
    refine (l9Names_any _ _ _ xs _ (HV1.out _ hb5) (by omega) HS1.out).mono ?_
    rintro e w6 ⟨u4, rfl, htu4, bw⟩
    have hb6 := hbt hb5 bw
    have HBv1_6 := hblk HBv1_5 bw
    clear hb5 HBv1_5 bw
    have hS6 := HBv1_6.out
    refine hK.out _ _ hS6 (fun _ => ?_)
    clear hK K hS5
    cases u4 with
    | false =>
     have HF : Hid (¬ ObjP p xs ys st fs b t) := fun h => nomatch htu4.2 h.2.2.2.1
     clear htu4
     refine tkP 20 (.bool true) 24 rfl rfl hS6 ?_
     go_frame
     refine tkP 21 (.bool true) 25 rfl rfl hS6 ?_
     go_frame
     refine tkP 22 (.bool true) 26 rfl rfl hS6 ?_
     go_frame
     refine tkN 23 27 rfl rfl hS6 ?_
     go_frame
     refine tkN 24 28 rfl rfl hS6 ?_
     go_frame
     refine tkN 25 29 rfl rfl hS6 ?_
     go_frame
     refine tkN 26 30 rfl rfl hS6 ?_
     go_frame
     refine tkN 27 31 rfl rfl hS6 ?_
     go_frame
     refine tkN 28 32 rfl rfl hS6 ?_
     go_frame
     refine tkN 29 33 rfl rfl hS6 ?_
     go_frame
     refine tkN 30 34 rfl rfl hS6 ?_
     go_frame
     refine tkP 31 (.bool true) 35 rfl rfl hS6 ?_
     go_frame
     refine tkP 32 (.bool true) 36 rfl rfl hS6 ?_
     go_frame
     refine tkN 33 37 rfl rfl hS6 ?_
     go_frame
     refine tkN 34 38 rfl rfl hS6 ?_
     go_frame
     refine tkN 35 39 rfl rfl hS6 ?_
     go_frame
     refine tkN 36 40 rfl rfl hS6 ?_
     go_frame
     refine tkN 37 41 rfl rfl hS6 ?_
     go_frame
     refine tkN 38 42 rfl rfl hS6 ?_
     go_frame
     refine tkN 39 43 rfl rfl hS6 ?_
     go_frame
     refine tkP 40 (.bool true) 44 rfl rfl hS6 ?_
     go_frame
     clear hS6
     refine wpAnyH_done (by kernel_rfl) ?_ _
     go_wp2_with fail
     go_ret
     exact BoolIs.no HF.out hb6
    | true =>
     have HNM : Hid (NamesP xs) := htu4.1 rfl
     clear htu4
     refine tkP 20 (.bool false) 24 rfl rfl hS6 ?_
     go_frame
     refine tkP 21 (.bool false) 25 rfl rfl hS6 ?_
     go_frame
     refine tkP 22 (.bool false) 26 rfl rfl hS6 ?_
     go_frame
     refine tkP 23 (.pointer (some ⟨qv1, 1, none⟩)) 27 rfl rfl hS6 ?_
     go_frame
     refine tkL 24 (.slice o1 n1 c1) 28 rfl rfl (Or.inl ⟨by rfl, by intro W hW; have hhv1 := hW; have y1 := (cell_of hhv1 1).trans rfl; go_simp⟩) hS6 ?_
     go_frame
     refine tkP 25 (.pointer (some ⟨qv1, 3, none⟩)) 29 rfl rfl hS6 ?_
     go_frame
     refine tkP 26 (.pointer (some ⟨qv1, 4, none⟩)) 30 rfl rfl hS6 ?_
     go_frame
     refine tkL 27 (.slice o3 n3 c3) 31 rfl rfl (Or.inl ⟨by rfl, by intro W hW; have hhv1 := hW; have y4 := (cell_of hhv1 4).trans rfl; go_simp⟩) hS6 ?_
     go_frame
     refine rd1 28 rfl (fun K hK => ?_)
     go_simp
     refine (specVaryOf_any _ n3 base fs _ (HV3.out _ hb6) (by omega) HG.out).mono ?_
     rintro e w7 ⟨vv, rfl, ownY, bw⟩
     obtain ⟨oY, pY, rfl⟩ := slice_of_owns ownY
     rw [HVL.out] at ownY ⊢
     have hb7 := hbt hb6 bw
     have HBv1_7 := hblk HBv1_6 bw
     have HOY_7 := hwd ownY hb6.size
     clear ownY
     clear hb6 HBv1_6 bw
     have hS7 := HBv1_7.out
     refine hK.out _ _ hS7 (fun _ => ?_)
     clear hK K hS6
     refine rd1 29 rfl (fun K hK => ?_)
     go_simp
     refine (l8Texts_any _ _ _ _ _ _ xs vl _ (HV1.out _ hb7) (texts_view HOY_7.out) (by omega)).mono ?_
     rintro e w8 ⟨rfl, bw⟩
     obtain ⟨u5, hu5⟩ := exq (decide (xs = vl))
     rw [← hu5]
     have hb8 := hbt hb7 bw
     have HOY_8 := hown HOY_7 bw
     have HBv1_8 := hblk HBv1_7 bw
     clear hb7 HOY_7 HBv1_7 bw
     have hS8 := HBv1_8.out
     refine hK.out _ _ hS8 (fun _ => ?_)
     clear hK K hS7
     cases u5 with
     | false =>
      have HF : Hid (¬ ObjP p xs ys st fs b t) := fun h => absurd (h.2.2.2.2.1.trans HVL.out) (of_decide_eq_false hu5.symm)
      clear hu5
      refine tkP 30 (.bool true) 34 rfl rfl hS8 ?_
      go_frame
      refine tkP 31 (.bool true) 35 rfl rfl hS8 ?_
      go_frame
      refine tkP 32 (.bool true) 36 rfl rfl hS8 ?_
      go_frame
      refine tkN 33 37 rfl rfl hS8 ?_
      go_frame
      refine tkN 34 38 rfl rfl hS8 ?_
      go_frame
      refine tkN 35 39 rfl rfl hS8 ?_
      go_frame
      refine tkN 36 40 rfl rfl hS8 ?_
      go_frame
      refine tkN 37 41 rfl rfl hS8 ?_
      go_frame
      refine tkN 38 42 rfl rfl hS8 ?_
      go_frame
      refine tkN 39 43 rfl rfl hS8 ?_
      go_frame
      refine tkP 40 (.bool true) 44 rfl rfl hS8 ?_
      go_frame
      clear hS8
      refine wpAnyH_done (by kernel_rfl) ?_ _
      go_wp2_with fail
      go_ret
      exact BoolIs.no HF.out hb8
     | true =>
      have HE : Hid (xs = vl) := (show xs = vl from of_decide_eq_true hu5.symm)
      clear hu5
      refine tkP 30 (.bool false) 34 rfl rfl hS8 ?_
      go_frame
      refine tkP 31 (.bool false) 35 rfl rfl hS8 ?_
      go_frame
      refine tkP 32 (.bool false) 36 rfl rfl hS8 ?_
      go_frame
      refine tkP 33 (.pointer (some ⟨qv1, 2, none⟩)) 37 rfl rfl hS8 ?_
      go_frame
      refine tkL 34 (.slice o2 n2 c2) 38 rfl rfl (Or.inl ⟨by rfl, by intro W hW; have hhv1 := hW; have y2 := (cell_of hhv1 2).trans rfl; go_simp⟩) hS8 ?_
      go_frame
      refine tkP 35 (.int .i64 (n2 : Int)) 39 rfl rfl hS8 ?_
      go_frame
      refine tkP 36 (.pointer (some ⟨qv1, 1, none⟩)) 40 rfl rfl hS8 ?_
      go_frame
      refine tkL 37 (.slice o1 n1 c1) 41 rfl rfl (Or.inl ⟨by rfl, by intro W hW; have hhv1 := hW; have y1 := (cell_of hhv1 1).trans rfl; go_simp⟩) hS8 ?_
      go_frame
      refine tkP 38 (.int .i64 (n1 : Int)) 42 rfl rfl hS8 ?_
      go_frame
      by_cases hc1 : (n2 : Int) = (n1 : Int)
      ·
       have hc1b : (((n2 : Int) : Int) == ((n1 : Int) : Int)) = true := by simpa using hc1
       have hc1n : (((n2 : Int) : Int) != ((n1 : Int) : Int)) = false := by simpa using hc1
       have hc1H : Hid ((n2 : Int) = (n1 : Int)) := hc1
       clear hc1
       refine tkP 39 (.bool false) 43 rfl rfl hS8 ?_
       go_frame
       refine tkP 40 (.bool false) 44 rfl rfl hS8 ?_
       go_frame
       clear hS8
       refine wpAnyH_done (by kernel_rfl) ?_ _
       clear hc1b hc1n
       have HEQ := hc1H
       clear hc1H
       have HQ : Hid ((∀ y ∈ ys, ValOk y) ↔ ObjP p xs ys st fs b t) := ⟨fun h => ⟨HR.out, HP.out, HT.out, HNM.out, HE.out.trans HVL.out.symm, by have h1 := HL1.out; have h2 := HL2.out; have h3 := HEQ.out; omega, h⟩, fun h => h.2.2.2.2.2.2⟩
       go_wp2_with fail
       go_loopw [3] (fun i wr => ∃ j : Nat, j ≤ n2 ∧ i = .int .i64 (j : Int) ∧ Hid (Below w.heap.size w wr ∧ (wr).heap[qv1]? = some (.cells #[.string p, .slice o1 n1 c1, .slice o2 n2 c2, .int .i64 st, .slice o3 n3 c3, .string b, .int .i64 t] 65)) ∧ Hid (∀ x ∈ ys.take j, ValOk x)) (fun i _ => n2 - (intOf i).toNat)
       case atStart => exact ⟨0, Nat.zero_le _, rfl, ⟨hb8, HBv1_8.out⟩, fun x hx => by simp at hx⟩
       case round =>
        obtain ⟨j, hj, rfl, HW, HN⟩ := hrel
        have cc2 : wr.cell? ⟨qv1, 2, none⟩ = some (.slice o2 n2 c2) := (cell_of HW.out.2 2).trans rfl
        by_cases hlt : (j : Int) < (n2 : Int)
        ·
         have hjx : j < ys.length := by rw [HL2.out]; omega
         obtain ⟨g, hog, hg, hc⟩ := (HV2.out wr HW.out.1).2 j (by omega)
         subst hog
         have hs := HS2.out j (by omega)
         obtain ⟨x, hxx⟩ := exq (textAt ys j)
         rw [← hxx] at hc hs
         have HM : Hid (x ∈ ys) := by show _ ∈ _; rw [hxx]; exact textAt_mem ys j hjx
         have HTK : Hid (ys.take (j + 1) = ys.take j ++ [x]) := by show _ = _; rw [take_textAt ys j hjx, hxx]
         clear hxx hjx
         go_wp2_with fail
         refine (specValueOk_any x _ hs).mono ?_
         rintro e w90 ⟨tx, rfl, htx, bw⟩
         have HW2 : Hid (Below w.heap.size w w90 ∧ (w90).heap[qv1]? = some (.cells #[.string p, .slice o1 n1 c1, .slice (some ⟨g, 0, none⟩) n2 c2, .int .i64 st, .slice o3 n3 c3, .string b, .int .i64 t] 65)) := ⟨HW.out.1.trans (bw.mono HW.out.1.size), blk_below HW.out.2 bw⟩
         clear bw cc2 hc HW
         cases tx with
         | false =>
          have HF : Hid (¬ ObjP p xs ys st fs b t) := fun h => nomatch htx.2 (HQ.out.2 h x HM.out)
          clear htx HN
          go_wp2_with fail
          go_ret
          exact BoolIs.no HF.out HW2.out.1
         | true =>
          have HN2 : Hid (∀ y ∈ ys.take (j + 1), ValOk y) := by
           intro y hy
           rw [HTK.out] at hy
           rcases List.mem_append.1 hy with hy | hy
           · exact HN.out y hy
           · rw [List.mem_singleton.1 hy]; exact htx.1 rfl
          clear htx HN
          go_wp2_with fail
          go_roundw
          case rel => exact ⟨j + 1, by omega, by go_num, HW2, HN2⟩
          case measure => simp [intOf]; omega
        ·
         have HA : Hid (ObjP p xs ys st fs b t) := HQ.out.1 (by
          have h := HN.out
          rw [List.take_of_length_le (by rw [HL2.out]; omega)] at h
          exact h)
         clear HN
         go_wp2_with fail
         go_ret
         exact ⟨true, rfl, ⟨fun _ => HA.out, fun _ => rfl⟩, HW.out.1⟩
      ·
       have hc1b : (((n2 : Int) : Int) == ((n1 : Int) : Int)) = false := by simpa using hc1
       have hc1n : (((n2 : Int) : Int) != ((n1 : Int) : Int)) = true := by simpa using hc1
       have HF : Hid (¬ ObjP p xs ys st fs b t) := fun h => by have h1 := h.2.2.2.2.2.1; have h2 := HL1.out; have h3 := HL2.out; omega
       have hc1H : Hid (¬ ((n2 : Int) = (n1 : Int))) := hc1
       clear hc1
       refine tkP 39 (.bool true) 43 rfl rfl hS8 ?_
       go_frame
       refine tkP 40 (.bool true) 44 rfl rfl hS8 ?_
       go_frame
       clear hS8
       refine wpAnyH_done (by kernel_rfl) ?_ _
       go_wp2_with fail
       go_ret
       exact BoolIs.no HF.out hb8
end Go.Proofs.YtanpngnpolhgbaaGreat
