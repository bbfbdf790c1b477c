/- What the proof of FnExactJudgeBans leans on: contracts of the program's and the specification's functions, and plain facts (part 7 of 12). -/
import Derived.Test.YtbmhonfgffjpcaaGreatFnExactJudgeBansF
set_option maxHeartbeats 16000000
set_option maxRecDepth 100000
namespace Go.Proofs.YtbmhonfgffjpcaaGreat
open Go.RowKit
open Go.Lib hiding intOf
/-- One of a list that came in: its cells, and its lists. -/
def RpArg (w : World) (B b off i : Nat) (d : RpD) : Prop :=
 ∃ (a3 : Option Addr) (c3 : Nat) (a6 : Option Addr) (c6 : Nat) (a11 : Option Addr) (c11 : Nat) (a12 : Option Addr) (c12 : Nat) (a14 : Option Addr) (c14 : Nat), (w.cell? ⟨b, off + i * 18, none⟩ = some (.int .i64 d.cli) ∧ w.cell? ⟨b, off + i * 18 + 1, none⟩ = some (.int .i64 d.qmt) ∧ w.cell? ⟨b, off + i * 18 + 2, none⟩ = some (.string d.qpa) ∧ w.cell? ⟨b, off + i * 18 + 3, none⟩ = some (.slice a3 d.qfs.length c3) ∧ w.cell? ⟨b, off + i * 18 + 4, none⟩ = some (.string d.qbd) ∧ w.cell? ⟨b, off + i * 18 + 5, none⟩ = some (.int .i64 d.rst) ∧ w.cell? ⟨b, off + i * 18 + 6, none⟩ = some (.slice a6 d.rfs.length c6) ∧ w.cell? ⟨b, off + i * 18 + 7, none⟩ = some (.string d.rbd) ∧ w.cell? ⟨b, off + i * 18 + 8, none⟩ = some (.int .i64 d.knd) ∧ w.cell? ⟨b, off + i * 18 + 9, none⟩ = some (.int .i64 d.tim) ∧ w.cell? ⟨b, off + i * 18 + 10, none⟩ = some (.string d.opa) ∧ w.cell? ⟨b, off + i * 18 + 11, none⟩ = some (.slice a11 d.oxs.length c11) ∧ w.cell? ⟨b, off + i * 18 + 12, none⟩ = some (.slice a12 d.oys.length c12) ∧ w.cell? ⟨b, off + i * 18 + 13, none⟩ = some (.int .i64 d.ost) ∧ w.cell? ⟨b, off + i * 18 + 14, none⟩ = some (.slice a14 d.ofs.length c14) ∧ w.cell? ⟨b, off + i * 18 + 15, none⟩ = some (.string d.obd) ∧ w.cell? ⟨b, off + i * 18 + 16, none⟩ = some (.int .i64 d.otm) ∧ w.cell? ⟨b, off + i * 18 + 17, none⟩ = some (.int .i64 d.bns)) ∧ ArgF w B a3 d.qfs.length d.qfs ∧ ArgF w B a6 d.rfs.length d.rfs ∧ ArgT w B a11 d.oxs.length d.oxs ∧ ArgT w B a12 d.oys.length d.oys ∧ ArgF w B a14 d.ofs.length d.ofs
/-- A list that came in, in blocks below B. -/
def ArgReply (w : World) (B : Nat) (a : Option Addr) (n : Nat) (ks : List RpD) : Prop :=
 ks.length = n ∧ ∀ i, i < n → ∃ b off, a = some ⟨b, off, none⟩ ∧ b < B ∧ RpArg w B b off i (rpAt ks i)
theorem ArgReply.below {w w' : World} {B : Nat} {a : Option Addr} {n : Nat} {ks : List RpD} (h : ArgReply w B a n ks) (hb : Below B w w') : ArgReply w' B a n ks :=
 ⟨h.1, fun i hi => by
  obtain ⟨b, off, h1, h2, a3, c3, a6, c6, a11, c11, a12, c12, a14, c14, ⟨r0, r1, r2, r3, r4, r5, r6, r7, r8, r9, r10, r11, r12, r13, r14, r15, r16, r17⟩, g3, g6, g11, g12, g14⟩ := h.2 i hi
  exact ⟨b, off, h1, h2, a3, c3, a6, c6, a11, c11, a12, c12, a14, c14, ⟨by rw [hb.cell (p := ⟨b, off + i * 18, none⟩) h2]; exact r0, by rw [hb.cell (p := ⟨b, off + i * 18 + 1, none⟩) h2]; exact r1, by rw [hb.cell (p := ⟨b, off + i * 18 + 2, none⟩) h2]; exact r2, by rw [hb.cell (p := ⟨b, off + i * 18 + 3, none⟩) h2]; exact r3, by rw [hb.cell (p := ⟨b, off + i * 18 + 4, none⟩) h2]; exact r4, by rw [hb.cell (p := ⟨b, off + i * 18 + 5, none⟩) h2]; exact r5, by rw [hb.cell (p := ⟨b, off + i * 18 + 6, none⟩) h2]; exact r6, by rw [hb.cell (p := ⟨b, off + i * 18 + 7, none⟩) h2]; exact r7, by rw [hb.cell (p := ⟨b, off + i * 18 + 8, none⟩) h2]; exact r8, by rw [hb.cell (p := ⟨b, off + i * 18 + 9, none⟩) h2]; exact r9, by rw [hb.cell (p := ⟨b, off + i * 18 + 10, none⟩) h2]; exact r10, by rw [hb.cell (p := ⟨b, off + i * 18 + 11, none⟩) h2]; exact r11, by rw [hb.cell (p := ⟨b, off + i * 18 + 12, none⟩) h2]; exact r12, by rw [hb.cell (p := ⟨b, off + i * 18 + 13, none⟩) h2]; exact r13, by rw [hb.cell (p := ⟨b, off + i * 18 + 14, none⟩) h2]; exact r14, by rw [hb.cell (p := ⟨b, off + i * 18 + 15, none⟩) h2]; exact r15, by rw [hb.cell (p := ⟨b, off + i * 18 + 16, none⟩) h2]; exact r16, by rw [hb.cell (p := ⟨b, off + i * 18 + 17, none⟩) h2]; exact r17⟩, g3.below hb, g6.below hb, g11.below hb, g12.below hb, g14.below hb⟩⟩
/-- The measure is negative, or what is left of L. -/
def SzReplyS (L : Int) (ks : List RpD) (w : World) (e : Ending) (w' : World) : Prop :=
 ∃ r : Int, e = .returned (.int .i64 r) ∧ r ≤ L ∧ (0 ≤ r → r + (wtRp ks : Int) ≤ L ∧ ∀ k ∈ ks, RpSmall k) ∧ Below w.heap.size w w'
theorem szReplyS_any (L : Int) (hL0 : 0 ≤ L) (hL1 : L ≤ 1048576) (B : Nat) (a : Option Addr) (n cap : Nat) (ks : List RpD) (w : World) (harg : ArgReply w B a n ks) (hB : B ≤ w.heap.size) (hn : n ≤ maxLen) (hsz : ∀ k ∈ ks, RpMax k) :
  Calls Tryz.prog 21 #[.slice a n cap, .int .i64 L] w fun e w' => SzReplyS L ks w e w' := by
 unfold maxLen at hn
 have HS : Hid (∀ k ∈ ks, RpMax k) := hsz
 have HLN : Hid (ks.length = n) := harg.1
 have HA : Hid (∀ W, Below w.heap.size w W → ArgReply W B a n ks) := fun W h => harg.below (h.mono hB)
 have HBB : Hid (∀ W, Below w.heap.size w W → B ≤ W.heap.size) := fun W h => Nat.le_trans hB h.size
 clear hsz harg hB
 by_cases c1 : L - (n : Int) < 0
 ·
  go_enter Tryz.func21, Tryz.ntmps21
  go_wp2
  go_ret
  exact ⟨-1, rfl, by omega, fun h => absurd h (by omega), Below.refl _ _⟩
 ·
  go_enter Tryz.func21, Tryz.ntmps21
  go_wp2
  go_loopw [1, 5] (fun lf i wr => ∃ (k : Nat) (x : Int), k ≤ n ∧ i = .int .i64 (k : Int) ∧ lf = .int .i64 x ∧ 0 ≤ x ∧ x ≤ L ∧ Hid (x + (wtRp (ks.take k) : Int) + ((n : Int) - (k : Int)) ≤ L ∧ ∀ y ∈ ks.take k, RpSmall y) ∧ Hid (Below w.heap.size w wr)) (fun _ i _ => n - (intOf i).toNat)
  case atStart => exact ⟨0, _, Nat.zero_le _, rfl, rfl, by omega, by omega, ⟨by simp [wtRp], fun x hx => by simp at hx⟩, Below.refl _ _⟩
  case round =>
   obtain ⟨k, x, hk, rfl, rfl, hx0, hx1, HX, HBW⟩ := hrel
   by_cases hlt : k < n
   ·
    have hlt2 : (k : Int) < (n : Int) := by omega
    obtain ⟨b, off, rfl, hbB, a3, c3, a6, c6, a11, c11, a12, c12, a14, c14, ⟨r0, r1, r2, r3, r4, r5, r6, r7, r8, r9, r10, r11, r12, r13, r14, r15, r16, r17⟩, g3, g6, g11, g12, g14⟩ := (HA.out wr HBW.out).2 k hlt
    obtain ⟨y, hy⟩ := exq (rpAt ks k)
    have HM : Hid (y ∈ ks) := by show _ ∈ _; rw [hy]; exact getD_mem0 _ ks k (by rw [HLN.out]; exact hlt)
    have HTK : Hid (ks.take (k + 1) = ks.take k ++ [y]) := by show _ = _; rw [hy]; exact getD_take0 _ ks k (by rw [HLN.out]; exact hlt)
    rw [← hy] at r0 r1 r2 r3 r4 r5 r6 r7 r8 r9 r10 r11 r12 r13 r14 r15 r16 r17 g3 g6 g11 g12 g14
    have HG3 : Hid (ArgF wr B a3 y.qfs.length y.qfs) := g3
    have HG6 : Hid (ArgF wr B a6 y.rfs.length y.rfs) := g6
    have HG11 : Hid (ArgT wr B a11 y.oxs.length y.oxs) := g11
    have HG12 : Hid (ArgT wr B a12 y.oys.length y.oys) := g12
    have HG14 : Hid (ArgF wr B a14 y.ofs.length y.ofs) := g14
    clear hy g3 g6 g11 g12 g14
    have HIF : (Tryz.prog.info? 43).map (·.size) = some 18 := by kernel_rfl
    have HRG : World.rangeAt wr b (off + k * 18) [.int .i64 y.cli, .int .i64 y.qmt, .string y.qpa, .slice a3 y.qfs.length c3, .string y.qbd, .int .i64 y.rst, .slice a6 y.rfs.length c6, .string y.rbd, .int .i64 y.knd, .int .i64 y.tim, .string y.opa, .slice a11 y.oxs.length c11, .slice a12 y.oys.length c12, .int .i64 y.ost, .slice a14 y.ofs.length c14, .string y.obd, .int .i64 y.otm, .int .i64 y.bns] := range_cons r0 (range_cons r1 (range_cons r2 (range_cons r3 (range_cons r4 (range_cons r5 (range_cons r6 (range_cons r7 (range_cons r8 (range_cons r9 (range_cons r10 (range_cons r11 (range_cons r12 (range_cons r13 (range_cons r14 (range_cons r15 (range_cons r16 (range_cons r17 (range_nil _ _ _))))))))))))))))))
    go_wp2_with (first | (refine wpList_load_mid rfl 43 _ rfl b (off + k * 18) rfl [.int .i64 y.cli, .int .i64 y.qmt, .string y.qpa, .slice a3 y.qfs.length c3, .string y.qbd, .int .i64 y.rst, .slice a6 y.rfs.length c6, .string y.rbd, .int .i64 y.knd, .int .i64 y.tim, .string y.opa, .slice a11 y.oxs.length c11, .slice a12 y.oys.length c12, .int .i64 y.ost, .slice a14 y.ofs.length c14, .string y.obd, .int .i64 y.otm, .int .i64 y.bns] _ HRG Tryz.underlying43 rfl HIF ?_) | fail)
    clear HRG HIF
    refine (szReply_any x hx0 (by omega) y a3 c3 a6 c6 a11 c11 a12 c12 a14 c14 B _ HG3.out HG6.out HG11.out HG12.out HG14.out (HBB.out _ HBW.out) (HS.out y HM.out)).mono ?_
    rintro e w1 ⟨r, rfl, hr1, hr2, bw⟩
    have HB2 : Hid (Below w.heap.size w w1) := HBW.out.trans (bw.mono HBW.out.size)
    clear r0 r1 r2 r3 r4 r5 r6 r7 r8 r9 r10 r11 r12 r13 r14 r15 r16 r17 bw
    by_cases d1 : r < 0
    ·
     clear hr2
     go_wp2
     go_ret
     exact ⟨-1, rfl, by omega, fun h => absurd h (by omega), HB2.out⟩
    ·
     have HX2 : Hid (r + (wtRp (ks.take (k + 1)) : Int) + ((n : Int) - ((k + 1 : Nat) : Int)) ≤ L ∧ ∀ y ∈ ks.take (k + 1), RpSmall y) := by
      obtain ⟨q1, q2⟩ := hr2 (by omega)
      obtain ⟨m1, m2⟩ := HX.out
      refine ⟨?_, fun z hz => ?_⟩
      ·
       rw [HTK.out, wtRp_snoc]
       omega
      ·
       rw [HTK.out] at hz
       rcases List.mem_append.1 hz with hz | hz
       · exact m2 z hz
       · rw [List.mem_singleton.1 hz]; exact q2
     clear hr2
     go_wp2
     go_roundw
     case rel => exact ⟨k + 1, r, by omega, by go_num, rfl, by omega, by omega, HX2, HB2⟩
     case measure => simp [intOf]; omega
   ·
    have HF : Hid (x + (wtRp ks : Int) ≤ L ∧ ∀ k ∈ ks, RpSmall k) := by
     obtain ⟨m1, m2⟩ := HX.out
     rw [List.take_of_length_le (by rw [HLN.out]; omega)] at m1 m2
     exact ⟨by omega, m2⟩
    go_wp2
    go_ret
    exact ⟨x, rfl, by omega, fun _ => HF.out, HBW.out⟩
theorem infoReply : (Tryz.prog.info? 68).map (fun i => (i.zero, i.size, i.bytes)) = some (some (.agg #[.int .i64 0, .int .i64 0, .string ⟨#[]⟩, .slice none 0 0, .string ⟨#[]⟩, .int .i64 0, .slice none 0 0, .string ⟨#[]⟩, .int .i64 0, .int .i64 0, .string ⟨#[]⟩, .slice none 0 0, .slice none 0 0, .int .i64 0, .slice none 0 0, .string ⟨#[]⟩, .int .i64 0, .int .i64 0]), 18, 264) := by kernel_rfl
/-- A call answers a list of these, of its own. -/
def ReplyIs (ks : List RpD) (w : World) (e : Ending) (w' : World) : Prop := ∃ (V : Value) (kv : List RpV), e = .returned V ∧ kv.map (·.d) = ks ∧ RpsO w' w.heap.size V kv ∧ Below w.heap.size w w'
/-- Told item by item, and the items' own lists behind the row: a list of one's own. -/
theorem parts_Reply {w : World} {g n base : Nat} {kv : List RpV} (hp : PartO rpC 18 68 w g n kv) (hl : kv.length = n) (hm : n ≤ maxLen) (hb : base ≤ g) (hr : RowsO w (g + 1) (kv.flatMap rpR)) : RpsO w base (.slice (some ⟨g, 0, none⟩) n n) kv := by
 have hrow : (rpRow (.slice (some ⟨g, 0, none⟩) n n) kv).own w base := by
  have h := hp.owns rpC_len (by decide) hl hm hb
  unfold Rw.own rpRow
  rw [hl]
  exact h
 refine ⟨fun r h => ?_, List.pairwise_cons.2 ⟨fun r h g' h1 h2 => ?_, hr.apart⟩⟩
 ·
  rcases List.mem_cons.1 h with h | h
  · rw [h]; exact hrow
  · exact owns_wide (hr.own r h) (by omega)
 ·
  have e1 : some g = some g' := h1
  have e2 := hr.ge h h2
  have e3 := Option.some.inj e1
  omega
theorem toReplyS_any (B : Nat) (a : Option Addr) (n cap : Nat) (ks : List RpD) (w : World) (harg : ArgReply w B a n ks) (hB : B ≤ w.heap.size) (hn : n ≤ 1048576) (hsm : ∀ k ∈ ks, RpLen k) :
  Calls Tryz.prog 29 #[.slice a n cap] w fun e w' => ReplyIs ks w e w' := by
 obtain ⟨i0, hi, hz0, hz1, hz2⟩ := info_parts infoReply
 obtain ⟨M, hM⟩ : ∃ M, M = madeCells (Value.agg #[.int .i64 0, .int .i64 0, .string ⟨#[]⟩, .slice none 0 0, .string ⟨#[]⟩, .int .i64 0, .slice none 0 0, .string ⟨#[]⟩, .int .i64 0, .int .i64 0, .string ⟨#[]⟩, .slice none 0 0, .slice none 0 0, .int .i64 0, .slice none 0 0, .string ⟨#[]⟩, .int .i64 0, .int .i64 0]).cells (((n : Nat) : Int).toNat * i0.size) := ⟨_, rfl⟩
 have hmk : ∀ W : World, (Instr.makeSlice 56 (.int .i64 (n : Int)) (.int .i64 (n : Int))).run Tryz.prog W = .ok (.slice (some ⟨W.heap.size, 0, none⟩) n n) (W.alloc (.cells M 68)) := fun W => by
  have h := run_make (P := Tryz.prog) W 56 68 i0 (.agg #[.int .i64 0, .int .i64 0, .string ⟨#[]⟩, .slice none 0 0, .string ⟨#[]⟩, .int .i64 0, .slice none 0 0, .string ⟨#[]⟩, .int .i64 0, .int .i64 0, .string ⟨#[]⟩, .slice none 0 0, .slice none 0 0, .int .i64 0, .slice none 0 0, .string ⟨#[]⟩, .int .i64 0, .int .i64 0]) Tryz.underlying56 hi hz0 .i64 .i64 (n : Int) (n : Int) (by omega) (by omega) (by rw [hz2]; omega) (by omega)
  rw [← hM] at h
  simpa using h
 have hMs : M.size = n * 18 := by rw [hM, size_madeCells, hz1]; simp
 have HLN : Hid (ks.length = n) := harg.1
 have HSM : Hid (∀ k ∈ ks, RpLen k) := hsm
 have HA : Hid (∀ W, Below w.heap.size w W → ArgReply W B a n ks) := fun W h => harg.below (h.mono hB)
 have HBB : Hid (∀ W, Below w.heap.size w W → B ≤ W.heap.size) := fun W h => Nat.le_trans hB h.size
 clear hM harg hsm hB
 obtain ⟨g, hg⟩ := exq (w.heap.size)
 have HG : Hid (w.heap.size = g) := hg.symm
 have HP : Hid (([] : List RpV).length = 0 ∧ ([] : List RpV).map (·.d) = ks.take 0 ∧ PartO rpC 18 68 (w.alloc (.cells M 68)) g n [] ∧ RowsO (w.alloc (.cells M 68)) (g + 1) (([] : List RpV).flatMap rpR)) := ⟨rfl, by simp, ⟨M, by rw [hg]; exact heap_alloc_new w _, hMs, fun i h => absurd h (by simp)⟩, RowsO.nil _ _⟩
 have HPB : Hid (Below w.heap.size w (w.alloc (.cells M 68))) := (Below.refl _ _).alloc (Nat.le_refl _) _
 go_enter Tryz.func29, Tryz.ntmps29
 go_wp2
 rw [HG.out]
 clear hg hMs
 go_loopw [4] (fun i wr => ∃ (k : Nat) (kv : List RpV), k ≤ n ∧ i = .int .i64 (k : Int) ∧ Hid (kv.length = k ∧ kv.map (·.d) = ks.take k ∧ PartO rpC 18 68 wr g n kv ∧ RowsO wr (g + 1) (kv.flatMap rpR)) ∧ Hid (Below w.heap.size w wr)) (fun i _ => n - (intOf i).toNat)
 case atStart => exact ⟨0, [], Nat.zero_le _, rfl, HP, HPB⟩
 case round =>
  obtain ⟨k, kv, hk, rfl, hpr, HBW⟩ := hrel
  by_cases hlt : k < n
  ·
   have hlt2 : (k : Int) < (n : Int) := by omega
   obtain ⟨b, off, rfl, hbB, a3, c3, a6, c6, a11, c11, a12, c12, a14, c14, ⟨r0, r1, r2, r3, r4, r5, r6, r7, r8, r9, r10, r11, r12, r13, r14, r15, r16, r17⟩, g3, g6, g11, g12, g14⟩ := (HA.out wr HBW.out).2 k hlt
   obtain ⟨y, hy⟩ := exq (rpAt ks k)
   have HM : Hid (y ∈ ks) := by show _ ∈ _; rw [hy]; exact getD_mem0 _ ks k (by rw [HLN.out]; exact hlt)
   have HTK : Hid (ks.take (k + 1) = ks.take k ++ [y]) := by show _ = _; rw [hy]; exact getD_take0 _ ks k (by rw [HLN.out]; exact hlt)
   rw [← hy] at r0 r1 r2 r3 r4 r5 r6 r7 r8 r9 r10 r11 r12 r13 r14 r15 r16 r17 g3 g6 g11 g12 g14
   have HG3 : Hid (ArgF wr B a3 y.qfs.length y.qfs) := g3
   have HG6 : Hid (ArgF wr B a6 y.rfs.length y.rfs) := g6
   have HG11 : Hid (ArgT wr B a11 y.oxs.length y.oxs) := g11
   have HG12 : Hid (ArgT wr B a12 y.oys.length y.oys) := g12
   have HG14 : Hid (ArgF wr B a14 y.ofs.length y.ofs) := g14
   clear hy g3 g6 g11 g12 g14
   have HIF : (Tryz.prog.info? 43).map (·.size) = some 18 := by kernel_rfl
   have HRG : World.rangeAt wr b (off + k * 18) [.int .i64 y.cli, .int .i64 y.qmt, .string y.qpa, .slice a3 y.qfs.length c3, .string y.qbd, .int .i64 y.rst, .slice a6 y.rfs.length c6, .string y.rbd, .int .i64 y.knd, .int .i64 y.tim, .string y.opa, .slice a11 y.oxs.length c11, .slice a12 y.oys.length c12, .int .i64 y.ost, .slice a14 y.ofs.length c14, .string y.obd, .int .i64 y.otm, .int .i64 y.bns] := range_cons r0 (range_cons r1 (range_cons r2 (range_cons r3 (range_cons r4 (range_cons r5 (range_cons r6 (range_cons r7 (range_cons r8 (range_cons r9 (range_cons r10 (range_cons r11 (range_cons r12 (range_cons r13 (range_cons r14 (range_cons r15 (range_cons r16 (range_cons r17 (range_nil _ _ _))))))))))))))))))
   go_wp2_with (first | (refine wpList_load_mid rfl 43 _ rfl b (off + k * 18) rfl [.int .i64 y.cli, .int .i64 y.qmt, .string y.qpa, .slice a3 y.qfs.length c3, .string y.qbd, .int .i64 y.rst, .slice a6 y.rfs.length c6, .string y.rbd, .int .i64 y.knd, .int .i64 y.tim, .string y.opa, .slice a11 y.oxs.length c11, .slice a12 y.oys.length c12, .int .i64 y.ost, .slice a14 y.ofs.length c14, .string y.obd, .int .i64 y.otm, .int .i64 y.bns] _ HRG Tryz.underlying43 rfl HIF ?_) | fail)
   clear HRG HIF
   refine (toReply_any y a3 c3 a6 c6 a11 c11 a12 c12 a14 c14 B _ HG3.out HG6.out HG11.out HG12.out HG14.out (HBB.out _ HBW.out) (HSM.out y HM.out)).mono ?_
   rintro e w1 ⟨⟨xd, v3, v6, v11, v12, v14⟩, rfl, hxd, hrows, bw⟩
   clear r0 r1 r2 r3 r4 r5 r6 r7 r8 r9 r10 r11 r12 r13 r14 r15 r16 r17
   obtain rfl : xd = y := hxd
   obtain ⟨o3, p3, hv⟩ := slice_of_owns (hrows.own (⟨171, 2, v3, xd.qfs.length, flatF xd.qfs⟩ : Rw) (by simp [rpR]))
   obtain rfl : v3 = .slice o3 xd.qfs.length p3 := hv
   obtain ⟨o6, p6, hv⟩ := slice_of_owns (hrows.own (⟨171, 2, v6, xd.rfs.length, flatF xd.rfs⟩ : Rw) (by simp [rpR]))
   obtain rfl : v6 = .slice o6 xd.rfs.length p6 := hv
   obtain ⟨o11, p11, hv⟩ := slice_of_owns (hrows.own (⟨9, 1, v11, xd.oxs.length, xd.oxs.map Value.string⟩ : Rw) (by simp [rpR]))
   obtain rfl : v11 = .slice o11 xd.oxs.length p11 := hv
   obtain ⟨o12, p12, hv⟩ := slice_of_owns (hrows.own (⟨9, 1, v12, xd.oys.length, xd.oys.map Value.string⟩ : Rw) (by simp [rpR]))
   obtain rfl : v12 = .slice o12 xd.oys.length p12 := hv
   obtain ⟨o14, p14, hv⟩ := slice_of_owns (hrows.own (⟨171, 2, v14, xd.ofs.length, flatF xd.ofs⟩ : Rw) (by simp [rpR]))
   obtain rfl : v14 = .slice o14 xd.ofs.length p14 := hv
   obtain ⟨x, hx⟩ : ∃ x : RpV, x = ⟨xd, .slice o3 xd.qfs.length p3, .slice o6 xd.rfs.length p6, .slice o11 xd.oxs.length p11, .slice o12 xd.oys.length p12, .slice o14 xd.ofs.length p14⟩ := ⟨_, rfl⟩
   rw [← hx] at hrows
   obtain ⟨q1, q2, q3, q4⟩ := hpr.out
   have hgl : g < wr.heap.size := q3.lt
   have HB2 : Hid (Below w.heap.size w w1) := HBW.out.trans (bw.mono HBW.out.size)
   have hpr1 := q3.below bw
   have hall : RowsO w1 (g + 1) (kv.flatMap rpR ++ rpR x) := q4.more bw hrows (Nat.le_refl _) hgl
   have HALL : Hid ((kv ++ [x]).length = k + 1 ∧ (kv ++ [x]).map (·.d) = ks.take (k + 1) ∧ PartO rpC 18 68 (setW w1 g (k * 18) (rpC x)) g n (kv ++ [x]) ∧ RowsO (setW w1 g (k * 18) (rpC x)) (g + 1) ((kv ++ [x]).flatMap rpR)) := by
    refine ⟨by rw [List.length_append, q1]; rfl, by rw [List.map_append, q2, HTK.out, hx]; rfl, ?_, ?_⟩
    ·
     have h := hpr1.put rpC_len x (by omega)
     rw [q1] at h
     exact h
    ·
     rw [List.flatMap_append]
     have h2 : RowsO (setW w1 g (k * 18) (rpC x)) (g + 1) (kv.flatMap rpR ++ rpR x) := hall.same (fun r hr j hj => setW_other g j (by have := hall.ge hr hj; omega) _ _ _)
     simpa using h2
   have HBE : Hid (Below w.heap.size w (setW w1 g (k * 18) (rpC x))) := setW_below (by rw [HG.out]; exact Nat.le_refl _) _ _ _ _ HB2.out
   rw [hx] at HALL HBE
   have HTH : World.there w1 g (k * 18) 18 := there_part hpr1 hlt
   have HIF : (Tryz.prog.info? 68).map (·.size) = some 18 := by kernel_rfl
   obtain ⟨W1, hW1⟩ := exq (setW w1 g (k * 18) (rpC ⟨xd, .slice o3 xd.qfs.length p3, .slice o6 xd.rfs.length p6, .slice o11 xd.oxs.length p11, .slice o12 xd.oys.length p12, .slice o14 xd.ofs.length p14⟩))
   rw [← hW1] at HALL HBE
   have HWE : Hid (w1.setCells g (k * 18) (#[.int .i64 xd.cli, .int .i64 xd.qmt, .string xd.qpa, .slice o3 xd.qfs.length p3, .string xd.qbd, .int .i64 xd.rst, .slice o6 xd.rfs.length p6, .string xd.rbd, .int .i64 xd.knd, .int .i64 xd.tim, .string xd.opa, .slice o11 xd.oxs.length p11, .slice o12 xd.oys.length p12, .int .i64 xd.ost, .slice o14 xd.ofs.length p14, .string xd.obd, .int .i64 xd.otm, .int .i64 xd.bns] : Array Value).toList = W1) := by show _ = _; rw [hW1, setCells_eq]; rfl
   clear hW1
   clear hpr1 hall hrows hx q1 q2 q3 q4 bw hpr
   go_wp2_with (first | (refine wpList_store_mid rfl 68 _ _ rfl g (k * 18) #[.int .i64 xd.cli, .int .i64 xd.qmt, .string xd.qpa, .slice o3 xd.qfs.length p3, .string xd.qbd, .int .i64 xd.rst, .slice o6 xd.rfs.length p6, .string xd.rbd, .int .i64 xd.knd, .int .i64 xd.tim, .string xd.opa, .slice o11 xd.oxs.length p11, .slice o12 xd.oys.length p12, .int .i64 xd.ost, .slice o14 xd.ofs.length p14, .string xd.obd, .int .i64 xd.otm, .int .i64 xd.bns] rfl rfl HTH HIF (by simp [Value.oneCell']) ?_; rw [HWE.out]) | fail)
   clear HTH HIF
   go_roundw
   case rel => exact ⟨k + 1, _, by omega, by go_num, HALL, HBE⟩
   case measure => simp [intOf]; omega
  ·
   obtain rfl : k = n := by omega
   obtain ⟨q1, q2, q3, q4⟩ := hpr.out
   have HF : Hid (kv.map (·.d) = ks ∧ RpsO wr w.heap.size (.slice (some ⟨g, 0, none⟩) k k) kv) := by
    refine ⟨?_, parts_Reply q3 q1 (by unfold maxLen; omega) (by rw [HG.out]; exact Nat.le_refl _) q4⟩
    rw [q2, List.take_of_length_le (by rw [HLN.out]; exact Nat.le_refl _)]
   clear q1 q2 q3 q4
   go_wp2
   go_ret
   exact ⟨_, kv, rfl, HF.out.1, HF.out.2, HBW.out⟩
end Go.Proofs.YtbmhonfgffjpcaaGreat
namespace Go.Proofs.YtbmhonfgffjpcaaGreat
open Go.RowKit
open Go.Lib hiding intOf
theorem eqReplyS_any (V1 V2 : Value) (kv1 kv2 : List RpV) (B1 B2 : Nat) (w : World) (he : kv1.map (·.d) = kv2.map (·.d)) (h1 : RpsO w B1 V1 kv1) (h2 : RpsO w B2 V2 kv2) (hn : kv1.length ≤ 2000000) (hs : ∀ x ∈ kv1, RpLim x.d) :
  Calls Tryz.prog 38 #[V1, V2] w fun e w' => e = .returned (.bool true) ∧ Below w.heap.size w w' := by
 have hlen : kv2.length = kv1.length := by have := congrArg List.length he; simpa using this.symm
 obtain ⟨n, hnn⟩ := exq kv1.length
 obtain ⟨o1, c1, e1⟩ := h1.len
 obtain ⟨o2, c2, e2⟩ := h2.len
 rw [← hnn] at e1 hn
 rw [hlen, ← hnn] at e2
 subst e1 e2
 have HL1 : Hid (kv1.length = n) := hnn.symm
 have HL2 : Hid (kv2.length = n) := hlen.trans hnn.symm
 have HE : Hid (kv1.map (·.d) = kv2.map (·.d)) := he
 have HS : Hid (∀ x ∈ kv1, RpLim x.d) := hs
 have H1 : Hid (∀ W, Below w.heap.size w W → RpsO W B1 (.slice o1 n c1) kv1) := fun W h => h1.below h
 have H2 : Hid (∀ W, Below w.heap.size w W → RpsO W B2 (.slice o2 n c2) kv2) := fun W h => h2.below h
 clear h1 h2 hlen hnn he hs
 go_enter Tryz.func38, Tryz.ntmps38
 go_wp2
 go_loopw [5] (fun i wr => ∃ k : Nat, k ≤ n ∧ i = .int .i64 (k : Int) ∧ Hid (Below w.heap.size w wr)) (fun i _ => n - (intOf i).toNat)
 case atStart => exact ⟨0, Nat.zero_le _, rfl, Below.refl _ _⟩
 case round =>
  obtain ⟨k, hk, rfl, HBW⟩ := hrel
  by_cases hlt : k < n
  ·
   have hlt2 : (k : Int) < (n : Int) := by omega
   obtain ⟨g1, cp1, ev1, hg1, at1⟩ := (H1.out wr HBW.out).at k (by rw [HL1.out]; exact hlt)
   obtain ⟨g2, cp2, ev2, hg2, at2⟩ := (H2.out wr HBW.out).at k (by rw [HL2.out]; exact hlt)
   obtain rfl : o1 = some ⟨g1, 0, none⟩ := (Value.slice.inj ev1).1
   obtain rfl : o2 = some ⟨g2, 0, none⟩ := (Value.slice.inj ev2).1
   have exy : (kv1[k]'(by rw [HL1.out]; exact hlt)).d = (kv2[k]'(by rw [HL2.out]; exact hlt)).d := by
    have h := congrArg (fun l : List RpD => l[k]?) HE.out
    simpa [List.getElem?_map, List.getElem?_eq_getElem (show k < kv1.length by rw [HL1.out]; exact hlt), List.getElem?_eq_getElem (show k < kv2.length by rw [HL2.out]; exact hlt)] using h
   have m1 : kv1[k]'(by rw [HL1.out]; exact hlt) ∈ kv1 := List.getElem_mem _
   have m2 : kv2[k]'(by rw [HL2.out]; exact hlt) ∈ kv2 := List.getElem_mem _
   generalize kv1[k]'(by rw [HL1.out]; exact hlt) = x at at1 exy m1
   generalize kv2[k]'(by rw [HL2.out]; exact hlt) = y at at2 exy m2
   have HXY : Hid (x.d = y.d) := exy
   have HO1 : Hid (∀ W, Below wr.heap.size wr W → RowsO W B1 (rpR x)) := fun W h => ((H1.out wr HBW.out).below h).item m1
   have HO2 : Hid (∀ W, Below wr.heap.size wr W → RowsO W B2 (rpR y)) := fun W h => ((H2.out wr HBW.out).below h).item m2
   have HSZ : Hid (RpLim x.d) := HS.out _ m1
   have a0 : wr.cell? ⟨g1, k * 18, none⟩ = some (.int .i64 x.d.cli) := at1.c0
   have a1 : wr.cell? ⟨g1, k * 18 + 1, none⟩ = some (.int .i64 x.d.qmt) := at1.c1
   have a2 : wr.cell? ⟨g1, k * 18 + 2, none⟩ = some (.string x.d.qpa) := at1.c2
   have a3 : wr.cell? ⟨g1, k * 18 + 3, none⟩ = some (x.v3) := at1.c3
   have a4 : wr.cell? ⟨g1, k * 18 + 4, none⟩ = some (.string x.d.qbd) := at1.c4
   have a5 : wr.cell? ⟨g1, k * 18 + 5, none⟩ = some (.int .i64 x.d.rst) := at1.c5
   have a6 : wr.cell? ⟨g1, k * 18 + 6, none⟩ = some (x.v6) := at1.c6
   have a7 : wr.cell? ⟨g1, k * 18 + 7, none⟩ = some (.string x.d.rbd) := at1.c7
   have a8 : wr.cell? ⟨g1, k * 18 + 8, none⟩ = some (.int .i64 x.d.knd) := at1.c8
   have a9 : wr.cell? ⟨g1, k * 18 + 9, none⟩ = some (.int .i64 x.d.tim) := at1.c9
   have a10 : wr.cell? ⟨g1, k * 18 + 10, none⟩ = some (.string x.d.opa) := at1.c10
   have a11 : wr.cell? ⟨g1, k * 18 + 11, none⟩ = some (x.v11) := at1.c11
   have a12 : wr.cell? ⟨g1, k * 18 + 12, none⟩ = some (x.v12) := at1.c12
   have a13 : wr.cell? ⟨g1, k * 18 + 13, none⟩ = some (.int .i64 x.d.ost) := at1.c13
   have a14 : wr.cell? ⟨g1, k * 18 + 14, none⟩ = some (x.v14) := at1.c14
   have a15 : wr.cell? ⟨g1, k * 18 + 15, none⟩ = some (.string x.d.obd) := at1.c15
   have a16 : wr.cell? ⟨g1, k * 18 + 16, none⟩ = some (.int .i64 x.d.otm) := at1.c16
   have a17 : wr.cell? ⟨g1, k * 18 + 17, none⟩ = some (.int .i64 x.d.bns) := at1.c17
   have b0 : wr.cell? ⟨g2, k * 18, none⟩ = some (.int .i64 y.d.cli) := at2.c0
   have b1 : wr.cell? ⟨g2, k * 18 + 1, none⟩ = some (.int .i64 y.d.qmt) := at2.c1
   have b2 : wr.cell? ⟨g2, k * 18 + 2, none⟩ = some (.string y.d.qpa) := at2.c2
   have b3 : wr.cell? ⟨g2, k * 18 + 3, none⟩ = some (y.v3) := at2.c3
   have b4 : wr.cell? ⟨g2, k * 18 + 4, none⟩ = some (.string y.d.qbd) := at2.c4
   have b5 : wr.cell? ⟨g2, k * 18 + 5, none⟩ = some (.int .i64 y.d.rst) := at2.c5
   have b6 : wr.cell? ⟨g2, k * 18 + 6, none⟩ = some (y.v6) := at2.c6
   have b7 : wr.cell? ⟨g2, k * 18 + 7, none⟩ = some (.string y.d.rbd) := at2.c7
   have b8 : wr.cell? ⟨g2, k * 18 + 8, none⟩ = some (.int .i64 y.d.knd) := at2.c8
   have b9 : wr.cell? ⟨g2, k * 18 + 9, none⟩ = some (.int .i64 y.d.tim) := at2.c9
   have b10 : wr.cell? ⟨g2, k * 18 + 10, none⟩ = some (.string y.d.opa) := at2.c10
   have b11 : wr.cell? ⟨g2, k * 18 + 11, none⟩ = some (y.v11) := at2.c11
   have b12 : wr.cell? ⟨g2, k * 18 + 12, none⟩ = some (y.v12) := at2.c12
   have b13 : wr.cell? ⟨g2, k * 18 + 13, none⟩ = some (.int .i64 y.d.ost) := at2.c13
   have b14 : wr.cell? ⟨g2, k * 18 + 14, none⟩ = some (y.v14) := at2.c14
   have b15 : wr.cell? ⟨g2, k * 18 + 15, none⟩ = some (.string y.d.obd) := at2.c15
   have b16 : wr.cell? ⟨g2, k * 18 + 16, none⟩ = some (.int .i64 y.d.otm) := at2.c16
   have b17 : wr.cell? ⟨g2, k * 18 + 17, none⟩ = some (.int .i64 y.d.bns) := at2.c17
   have R1 : World.rangeAt wr g1 (k * 18) [.int .i64 x.d.cli, .int .i64 x.d.qmt, .string x.d.qpa, x.v3, .string x.d.qbd, .int .i64 x.d.rst, x.v6, .string x.d.rbd, .int .i64 x.d.knd, .int .i64 x.d.tim, .string x.d.opa, x.v11, x.v12, .int .i64 x.d.ost, x.v14, .string x.d.obd, .int .i64 x.d.otm, .int .i64 x.d.bns] := range_cons a0 (range_cons a1 (range_cons a2 (range_cons a3 (range_cons a4 (range_cons a5 (range_cons a6 (range_cons a7 (range_cons a8 (range_cons a9 (range_cons a10 (range_cons a11 (range_cons a12 (range_cons a13 (range_cons a14 (range_cons a15 (range_cons a16 (range_cons a17 (range_nil _ _ _))))))))))))))))))
   have R2 : World.rangeAt wr g2 (k * 18) [.int .i64 y.d.cli, .int .i64 y.d.qmt, .string y.d.qpa, y.v3, .string y.d.qbd, .int .i64 y.d.rst, y.v6, .string y.d.rbd, .int .i64 y.d.knd, .int .i64 y.d.tim, .string y.d.opa, y.v11, y.v12, .int .i64 y.d.ost, y.v14, .string y.d.obd, .int .i64 y.d.otm, .int .i64 y.d.bns] := range_cons b0 (range_cons b1 (range_cons b2 (range_cons b3 (range_cons b4 (range_cons b5 (range_cons b6 (range_cons b7 (range_cons b8 (range_cons b9 (range_cons b10 (range_cons b11 (range_cons b12 (range_cons b13 (range_cons b14 (range_cons b15 (range_cons b16 (range_cons b17 (range_nil _ _ _))))))))))))))))))
   clear at1 at2 m1 m2 ev1 ev2 exy a0 b0 a1 b1 a2 b2 a3 b3 a4 b4 a5 b5 a6 b6 a7 b7 a8 b8 a9 b9 a10 b10 a11 b11 a12 b12 a13 b13 a14 b14 a15 b15 a16 b16 a17 b17
   have HIF : (Tryz.prog.info? 68).map (·.size) = some 18 := by kernel_rfl
   have HA : Hid (∀ w0 w1, Below wr.heap.size wr w0 → Below w0.heap.size w0 w1 → (World.rangeAt w1 g1 (k * 18) [.int .i64 x.d.cli, .int .i64 x.d.qmt, .string x.d.qpa, x.v3, .string x.d.qbd, .int .i64 x.d.rst, x.v6, .string x.d.rbd, .int .i64 x.d.knd, .int .i64 x.d.tim, .string x.d.opa, x.v11, x.v12, .int .i64 x.d.ost, x.v14, .string x.d.obd, .int .i64 x.d.otm, .int .i64 x.d.bns] ∧ World.rangeAt w1 g2 (k * 18) [.int .i64 y.d.cli, .int .i64 y.d.qmt, .string y.d.qpa, y.v3, .string y.d.qbd, .int .i64 y.d.rst, y.v6, .string y.d.rbd, .int .i64 y.d.knd, .int .i64 y.d.tim, .string y.d.opa, y.v11, y.v12, .int .i64 y.d.ost, y.v14, .string y.d.obd, .int .i64 y.d.otm, .int .i64 y.d.bns]) ∧ Below wr.heap.size wr w1) := fun w0 w1 h h' => by
    have hx := h.trans (h'.mono h.size)
    exact ⟨⟨fun j v hv => by rw [hx.cell (p := ⟨g1, k * 18 + j, none⟩) hg1]; exact R1 j v hv, fun j v hv => by rw [hx.cell (p := ⟨g2, k * 18 + j, none⟩) hg2]; exact R2 j v hv⟩, hx⟩
   go_wp2_with fail
   refine wp_region_held_drew (S := fun w' => World.rangeAt w' g1 (k * 18) [.int .i64 x.d.cli, .int .i64 x.d.qmt, .string x.d.qpa, x.v3, .string x.d.qbd, .int .i64 x.d.rst, x.v6, .string x.d.rbd, .int .i64 x.d.knd, .int .i64 x.d.tim, .string x.d.opa, x.v11, x.v12, .int .i64 x.d.ost, x.v14, .string x.d.obd, .int .i64 x.d.otm, .int .i64 x.d.bns] ∧ World.rangeAt w' g2 (k * 18) [.int .i64 y.d.cli, .int .i64 y.d.qmt, .string y.d.qpa, y.v3, .string y.d.qbd, .int .i64 y.d.rst, y.v6, .string y.d.rbd, .int .i64 y.d.knd, .int .i64 y.d.tim, .string y.d.opa, y.v11, y.v12, .int .i64 y.d.ost, y.v14, .string y.d.obd, .int .i64 y.d.otm, .int .i64 y.d.bns]) (by kernel_rfl) ⟨R1, R2⟩ (fun hHeld => ?_)
   refine wpAnyH_take (i := 0) (v := .slice (some ⟨g1, 0, none⟩) n c1) rfl (by kernel_rfl) (by kernel_rfl) (by kernel_rfl) (fun _ _ _ h => h) (Or.inl ⟨by rfl, by intro W hSW; go_simp⟩) (by assumption) ?_
   refine wpAnyH_take (i := 1) (v := .int .i64 (k : Int)) rfl (by kernel_rfl) (by kernel_rfl) (by kernel_rfl) (fun _ _ _ h => h) (Or.inl ⟨by rfl, by intro W hSW; go_simp⟩) (by assumption) ?_
   refine wpAnyH_take (i := 2) (v := .pointer (some ⟨g1, k * 18, none⟩)) rfl (by kernel_rfl) (by kernel_rfl) (by kernel_rfl) (fun _ _ _ h => h) (Or.inl ⟨by rfl, by intro W hSW; go_simp⟩) (by assumption) ?_
   refine wpAnyH_take (i := 3) (v := .agg #[.int .i64 x.d.cli, .int .i64 x.d.qmt, .string x.d.qpa, x.v3, .string x.d.qbd, .int .i64 x.d.rst, x.v6, .string x.d.rbd, .int .i64 x.d.knd, .int .i64 x.d.tim, .string x.d.opa, x.v11, x.v12, .int .i64 x.d.ost, x.v14, .string x.d.obd, .int .i64 x.d.otm, .int .i64 x.d.bns]) rfl (by kernel_rfl) (by kernel_rfl) (by kernel_rfl) (fun _ _ _ h => h) (yieldsIf_load_mid (by rfl) 68 _ rfl g1 (k * 18) rfl [.int .i64 x.d.cli, .int .i64 x.d.qmt, .string x.d.qpa, x.v3, .string x.d.qbd, .int .i64 x.d.rst, x.v6, .string x.d.rbd, .int .i64 x.d.knd, .int .i64 x.d.tim, .string x.d.opa, x.v11, x.v12, .int .i64 x.d.ost, x.v14, .string x.d.obd, .int .i64 x.d.otm, .int .i64 x.d.bns] _ (fun W h => h.1) Tryz.underlying68 rfl HIF) (by assumption) ?_
   refine wpAnyH_take (i := 4) (v := .slice (some ⟨g2, 0, none⟩) n c2) rfl (by kernel_rfl) (by kernel_rfl) (by kernel_rfl) (fun _ _ _ h => h) (Or.inl ⟨by rfl, by intro W hSW; go_simp⟩) (by assumption) ?_
   refine wpAnyH_take (i := 5) (v := .int .i64 (k : Int)) rfl (by kernel_rfl) (by kernel_rfl) (by kernel_rfl) (fun _ _ _ h => h) (Or.inl ⟨by rfl, by intro W hSW; go_simp⟩) (by assumption) ?_
   refine wpAnyH_take (i := 6) (v := .pointer (some ⟨g2, k * 18, none⟩)) rfl (by kernel_rfl) (by kernel_rfl) (by kernel_rfl) (fun _ _ _ h => h) (Or.inl ⟨by rfl, by intro W hSW; go_simp⟩) (by assumption) ?_
   refine wpAnyH_take (i := 7) (v := .agg #[.int .i64 y.d.cli, .int .i64 y.d.qmt, .string y.d.qpa, y.v3, .string y.d.qbd, .int .i64 y.d.rst, y.v6, .string y.d.rbd, .int .i64 y.d.knd, .int .i64 y.d.tim, .string y.d.opa, y.v11, y.v12, .int .i64 y.d.ost, y.v14, .string y.d.obd, .int .i64 y.d.otm, .int .i64 y.d.bns]) rfl (by kernel_rfl) (by kernel_rfl) (by kernel_rfl) (fun _ _ _ h => h) (yieldsIf_load_mid (by rfl) 68 _ rfl g2 (k * 18) rfl [.int .i64 y.d.cli, .int .i64 y.d.qmt, .string y.d.qpa, y.v3, .string y.d.qbd, .int .i64 y.d.rst, y.v6, .string y.d.rbd, .int .i64 y.d.knd, .int .i64 y.d.tim, .string y.d.opa, y.v11, y.v12, .int .i64 y.d.ost, y.v14, .string y.d.obd, .int .i64 y.d.otm, .int .i64 y.d.bns] _ (fun W h => h.2) Tryz.underlying68 rfl HIF) (by assumption) ?_
   refine rd1 8 rfl (fun K hK => ?_)
   go_simp
   refine (eqReply_any x.d x y B1 B2 _ rfl HXY.out.symm (HO1.out _ ((Below.refl _ wr).drew)) (HO2.out _ ((Below.refl _ wr).drew)) HSZ.out).mono ?_
   rintro e w1 ⟨rfl, hb1⟩
   obtain ⟨hcc, hbx⟩ := HA.out _ w1 ((Below.refl _ wr).drew) hb1
   clear hHeld
   refine hK.out _ _ hcc (fun hHeld => ?_)
   clear hK K
   refine wpAnyH_take (i := 9) (v := .bool false) rfl (by kernel_rfl) (by kernel_rfl) (by kernel_rfl) (fun _ _ _ h => h) (Or.inl ⟨by rfl, by intro W hSW; go_simp⟩) (by assumption) ?_
   refine wpAnyH_done (by kernel_rfl) ?_ _
   clear hHeld hcc R1 R2 HIF
   go_wp2
   go_roundw
   case rel => exact ⟨k + 1, by omega, by go_num, HBW.out.trans (hbx.mono HBW.out.size)⟩
   case measure => simp [intOf]; omega
  ·
   go_wp2
   go_ret
   exact ⟨rfl, HBW.out⟩
end Go.Proofs.YtbmhonfgffjpcaaGreat
namespace Go.Proofs.YtbmhonfgffjpcaaGreat
open Go.RowKit
open Go.Lib hiding intOf
theorem eqShelf_go (s : ShD) (n1 n2 n3 n4 : Nat) (oCx oPx oKx oBx oCy oPy oKy oBy : Option Addr) (pCx pPx pKx pBx pCy pPy pKy pBy : Nat) (kvx kvy : List (KpD × Value × Value × Value)) (Bx By : Nat) (w : World) (HL : Hid (s.cs.length = n1 ∧ s.ws.length = n2 ∧ s.bl.length = n4)) (HN : Hid (n1 ≤ 2000000 ∧ n2 ≤ 2000000 ∧ kvx.length ≤ 2000000 ∧ n4 ≤ 2000000)) (HSZ : Hid (∀ x ∈ kvx, x.1.xs.length ≤ 2000000 ∧ x.1.ys.length ≤ 2000000 ∧ x.1.fs.length ≤ 2000000)) (HKE : Hid (kvx.map (·.1) = kvy.map (·.1))) (Ex_0 : Hid (ShelfO (w) Bx (.slice oCx n1 pCx) (.slice oPx n2 pPx) (.slice oKx n3 pKx) (.slice oBx n4 pBx) kvx s)) (Ey_0 : Hid (ShelfO (w) By (.slice oCy n1 pCy) (.slice oPy n2 pPy) (.slice oKy n3 pKy) (.slice oBy n4 pBy) kvy s)) :
  Calls Tryz.prog 35 #[.agg #[.slice oCx n1 pCx, .slice oPx n2 pPx, .slice oKx n3 pKx, .slice oBx n4 pBx, .int .i64 s.nx, .int .i64 s.sq], .agg #[.slice oCy n1 pCy, .slice oPy n2 pPy, .slice oKy n3 pKy, .slice oBy n4 pBy, .int .i64 s.nx, .int .i64 s.sq]] w fun e w' => e = .returned (.bool true) ∧ Below w.heap.size w w' := by
 have hnx : (s.nx != s.nx) = false := by simp
 have hsq : (s.sq != s.sq) = false := by simp
 have hb0 : Below w.heap.size w w := Below.refl _ _
 go_enter Tryz.func35, Tryz.ntmps35
 go_upto_region 1 with fail
 obtain ⟨qv1, hqv1⟩ := exq ((w).heap.size)
 obtain ⟨w1, hW1⟩ := exq ((w).alloc (.cells #[.slice oCx n1 pCx, .slice oPx n2 pPx, .slice oKx n3 pKx, .slice oBx n4 pBx, .int .i64 s.nx, .int .i64 s.sq] 53))
 have hz1 : (w).heap.size = qv1 := hqv1.symm
 first | rw [← hW1, ← hqv1] | rw [← hW1]
 have hs1 := hsa hW1 hz1
 have bw := bal hW1
 have hb1 := hbt hb0 bw
 have Ex_1 : Hid (ShelfO (w1) Bx (.slice oCx n1 pCx) (.slice oPx n2 pPx) (.slice oKx n3 pKx) (.slice oBx n4 pBx) kvx s) := Ex_0.out.below bw
 have Ey_1 : Hid (ShelfO (w1) By (.slice oCy n1 pCy) (.slice oPy n2 pPy) (.slice oKy n3 pKy) (.slice oBy n4 pBy) kvy s) := Ey_0.out.below bw
 have HBv1_1 := hnew hW1 hz1
 clear hb0 Ex_0 Ey_0 bw hW1 hz1
 obtain ⟨qv2, hqv2⟩ := exq (qv1 + 1)
 obtain ⟨w2, hW2⟩ := exq ((w1).alloc (.cells #[.slice oCy n1 pCy, .slice oPy n2 pPy, .slice oKy n3 pKy, .slice oBy n4 pBy, .int .i64 s.nx, .int .i64 s.sq] 53))
 have hz2 : (w1).heap.size = qv2 := by rw [hqv2]; exact hs1
 first | rw [← hW2, ← hqv2] | rw [← hW2]
 have hs2 := hsa hW2 hz2
 have bw := bal hW2
 have hb2 := hbt hb1 bw
 have HBv1_2 := hblk HBv1_1 bw
 have Ex_2 : Hid (ShelfO (w2) Bx (.slice oCx n1 pCx) (.slice oPx n2 pPx) (.slice oKx n3 pKx) (.slice oBx n4 pBx) kvx s) := Ex_1.out.below bw
 have Ey_2 : Hid (ShelfO (w2) By (.slice oCy n1 pCy) (.slice oPy n2 pPy) (.slice oKy n3 pKy) (.slice oBy n4 pBy) kvy s) := Ey_1.out.below bw
 have HBv2_2 := hnew hW2 hz2
 clear hb1 HBv1_1 Ex_1 Ey_1 bw hW2 hz2
 clear hs2 hqv2 hs1 hqv1
 have cv1_0 := (k6c HBv1_2).1
 have cv1_1 := (k6c HBv1_2).2.1
 have cv2_0 := (k6c HBv2_2).1
 have cv2_1 := (k6c HBv2_2).2.1
 go_wp2_with fail
 refine (eqDisk_any n1 s.cs n2 s.ws _ _ _ _ Bx By _ (show DiskO _ Bx _ n1 s.cs _ n2 s.ws from by have h := Ex_2.out.disk; rw [HL.out.1, HL.out.2.1] at h; exact h) (show DiskO _ By _ n1 s.cs _ n2 s.ws from by have h := Ey_2.out.disk; rw [HL.out.1, HL.out.2.1] at h; exact h) HN.out.1 HN.out.2.1).mono ?_
 rintro e w3 ⟨rfl, bw⟩
 have hb3 := hbt hb2 bw
 have HBv1_3 := hblk HBv1_2 bw
 have HBv2_3 := hblk HBv2_2 bw
 have Ex_3 : Hid (ShelfO (w3) Bx (.slice oCx n1 pCx) (.slice oPx n2 pPx) (.slice oKx n3 pKx) (.slice oBx n4 pBx) kvx s) := Ex_2.out.below bw
 have Ey_3 : Hid (ShelfO (w3) By (.slice oCy n1 pCy) (.slice oPy n2 pPy) (.slice oKy n3 pKy) (.slice oBy n4 pBy) kvy s) := Ey_2.out.below bw
 clear hb2 HBv1_2 HBv2_2 Ex_2 Ey_2 bw
 clear cv1_0 cv1_1 cv2_0 cv2_1
 have cv1_2 := (k6c HBv1_3).2.2.1
 have cv2_2 := (k6c HBv2_3).2.2.1
 go_wp2_with fail
 refine (eqKeptS_any _ _ kvx kvy Bx By _ HKE.out Ex_3.out.kept Ey_3.out.kept HN.out.2.2.1 HSZ.out).mono ?_
 rintro e w4 ⟨rfl, bw⟩
 have hb4 := hbt hb3 bw
 have HBv1_4 := hblk HBv1_3 bw
 have HBv2_4 := hblk HBv2_3 bw
 have Ex_4 : Hid (ShelfO (w4) Bx (.slice oCx n1 pCx) (.slice oPx n2 pPx) (.slice oKx n3 pKx) (.slice oBx n4 pBx) kvx s) := Ex_3.out.below bw
 have Ey_4 : Hid (ShelfO (w4) By (.slice oCy n1 pCy) (.slice oPy n2 pPy) (.slice oKy n3 pKy) (.slice oBy n4 pBy) kvy s) := Ey_3.out.below bw
 clear hb3 HBv1_3 HBv2_3 Ex_3 Ey_3 bw
 clear cv1_2 cv2_2
 have cv1_3 := (k6c HBv1_4).2.2.2.1
 have cv2_3 := (k6c HBv2_4).2.2.2.1
 go_wp2_with fail
 refine (eqBanS_any _ _ n4 _ _ s.bl _ (ban_view (show World.ownsRow _ Bx 152 4 _ n4 (flatBan s.bl) from by have h := Ex_4.out.bans; rw [HL.out.2.2] at h; exact h)) (ban_view (show World.ownsRow _ By 152 4 _ n4 (flatBan s.bl) from by have h := Ey_4.out.bans; rw [HL.out.2.2] at h; exact h)) HN.out.2.2.2).mono ?_
 rintro e w5 ⟨rfl, bw⟩
 have hb5 := hbt hb4 bw
 have HBv1_5 := hblk HBv1_4 bw
 have HBv2_5 := hblk HBv2_4 bw
 have Ex_5 : Hid (ShelfO (w5) Bx (.slice oCx n1 pCx) (.slice oPx n2 pPx) (.slice oKx n3 pKx) (.slice oBx n4 pBx) kvx s) := Ex_4.out.below bw
 have Ey_5 : Hid (ShelfO (w5) By (.slice oCy n1 pCy) (.slice oPy n2 pPy) (.slice oKy n3 pKy) (.slice oBy n4 pBy) kvy s) := Ey_4.out.below bw
 clear hb4 HBv1_4 HBv2_4 Ex_4 Ey_4 bw
 clear cv1_3 cv2_3
 have cv1_4 := (k6c HBv1_5).2.2.2.2.1
 have cv2_4 := (k6c HBv2_5).2.2.2.2.1
 have cv1_5 := (k6c HBv1_5).2.2.2.2.2
 have cv2_5 := (k6c HBv2_5).2.2.2.2.2
 go_wp2_with fail
 go_ret
 exact ⟨rfl, hb5⟩
theorem eqShelf_any (s : ShD) (v1 v2 V VB u1 u2 U UB : Value) (kvx kvy : List (KpD × Value × Value × Value)) (Bx By : Nat) (w : World) (hx : ShelfO w Bx v1 v2 V VB kvx s) (hy : ShelfO w By u1 u2 U UB kvy s) (h1 : s.cs.length ≤ 2000000) (h2 : s.ws.length ≤ 2000000) (h3 : s.ks.length ≤ 2000000) (h4 : s.bl.length ≤ 2000000) (hs : ∀ k ∈ s.ks, k.xs.length ≤ 2000000 ∧ k.ys.length ≤ 2000000 ∧ k.fs.length ≤ 2000000) :
  Calls Tryz.prog 35 #[.agg #[v1, v2, V, VB, .int .i64 s.nx, .int .i64 s.sq], .agg #[u1, u2, U, UB, .int .i64 s.nx, .int .i64 s.sq]] w fun e w' => e = .returned (.bool true) ∧ Below w.heap.size w w' := by
 obtain ⟨oCx, pCx, rfl⟩ := slice_of_owns hx.disk.cells
 obtain ⟨oPx, pPx, rfl⟩ := slice_of_owns hx.disk.pend
 obtain ⟨oBx, pBx, rfl⟩ := slice_of_owns hx.bans
 obtain ⟨oKx, pKx, rfl⟩ := hx.kept.len
 obtain ⟨oCy, pCy, rfl⟩ := slice_of_owns hy.disk.cells
 obtain ⟨oPy, pPy, rfl⟩ := slice_of_owns hy.disk.pend
 obtain ⟨oBy, pBy, rfl⟩ := slice_of_owns hy.bans
 obtain ⟨oKy, pKy, rfl⟩ := hy.kept.len
 have e1 : kvx.length = s.ks.length := by rw [← hx.2, List.length_map]
 have e2 : kvy.length = s.ks.length := by rw [← hy.2, List.length_map]
 rw [e1] at hx ⊢
 rw [e2] at hy ⊢
 exact eqShelf_go s _ _ _ _ oCx oPx oKx oBx oCy oPy oKy oBy pCx pPx pKx pBx pCy pPy pKy pBy kvx kvy Bx By w ⟨rfl, rfl, rfl⟩ ⟨h1, h2, by rw [e1]; exact h3, h4⟩ (fun x hxm => hs x.1 (by rw [← hx.2]; exact List.mem_map.2 ⟨x, hxm, rfl⟩)) (hx.2.trans hy.2.symm) hx hy
end Go.Proofs.YtbmhonfgffjpcaaGreat
namespace Go.Proofs.YtbmhonfgffjpcaaGreat
open Go.RowKit
open Go.Lib hiding intOf
/-- A store's measure: negative, or what is left of L. -/
def SzShelf (L : Int) (n1 : Nat) (cs : List ByteArray) (n2 : Nat) (ws : List (Int × ByteArray)) (ks : List KpD) (n4 : Nat) (bl : List (Int × ByteArray × ByteArray × Int)) (w : World) (e : Ending) (w' : World) : Prop :=
 ∃ r : Int, e = .returned (.int .i64 r) ∧ r ≤ L ∧ (0 ≤ r → r + (n1 : Int) + (n2 : Int) + (wtK ks : Int) + (n4 : Int) ≤ L ∧ (n1 ≤ 1048576 ∧ ∀ i, i < n1 → (textAt cs i).size ≤ 1048576) ∧ (n2 ≤ 1048576 ∧ ∀ x ∈ ws, (x.2).size ≤ 1048576) ∧ (∀ k ∈ ks, KpSmall k) ∧ (n4 ≤ 1048576 ∧ ∀ x ∈ bl, (x.2.1).size ≤ 1048576 ∧ (x.2.2.1).size ≤ 1048576)) ∧ Below w.heap.size w w'
theorem szShelf_any (L : Int) (hL0 : 0 ≤ L) (hL1 : L ≤ 1048576) (a1 : Option Addr) (n1 c1 : Nat) (cs : List ByteArray) (a2 : Option Addr) (n2 c2 : Nat) (ws : List (Int × ByteArray)) (a3 : Option Addr) (n3 c3 : Nat) (ks : List KpD) (a4 : Option Addr) (n4 c4 : Nat) (bl : List (Int × ByteArray × ByteArray × Int)) (nx sq : Int) (B : Nat) (w : World) (h1 : ArgT w B a1 n1 cs) (h2 : ArgWrite w B a2 n2 ws) (h3 : ArgKept w B a3 n3 ks) (h4 : ArgBan w B a4 n4 bl) (hB : B ≤ w.heap.size) (hm : n1 ≤ maxLen ∧ n2 ≤ maxLen ∧ n3 ≤ maxLen ∧ n4 ≤ maxLen ∧ (∀ i, i < n1 → (textAt cs i).size ≤ maxLen) ∧ (∀ x ∈ ws, (x.2).size ≤ maxLen) ∧ (∀ k ∈ ks, KpMax k) ∧ ∀ x ∈ bl, (x.2.1).size ≤ maxLen ∧ (x.2.2.1).size ≤ maxLen) :
  Calls Tryz.prog 18 #[.agg #[.slice a1 n1 c1, .slice a2 n2 c2, .slice a3 n3 c3, .slice a4 n4 c4, .int .i64 nx, .int .i64 sq], .int .i64 L] w fun e w' => SzShelf L n1 cs n2 ws ks n4 bl w e w' := by
 have HA1 : Hid (∀ W, Below w.heap.size w W → ArgT W B a1 n1 cs) := fun W h => h1.below (h.mono hB)
 have HA2 : Hid (∀ W, Below w.heap.size w W → ArgWrite W B a2 n2 ws) := fun W h => h2.below (h.mono hB)
 have HA3 : Hid (∀ W, Below w.heap.size w W → ArgKept W B a3 n3 ks) := fun W h => h3.below (h.mono hB)
 have HA4 : Hid (∀ W, Below w.heap.size w W → ArgBan W B a4 n4 bl) := fun W h => h4.below (h.mono hB)
 have HBB : Hid (∀ W, Below w.heap.size w W → B ≤ W.heap.size) := fun W h => Nat.le_trans hB h.size
 have HM : Hid (n1 ≤ maxLen ∧ n2 ≤ maxLen ∧ n3 ≤ maxLen ∧ n4 ≤ maxLen ∧ (∀ i, i < n1 → (textAt cs i).size ≤ maxLen) ∧ (∀ x ∈ ws, (x.2).size ≤ maxLen) ∧ (∀ k ∈ ks, KpMax k) ∧ ∀ x ∈ bl, (x.2.1).size ≤ maxLen ∧ (x.2.2.1).size ≤ maxLen) := hm
 clear h1 h2 h3 h4 hm hB
 have hb0 : Below w.heap.size w w := Below.refl _ _
 go_enter Tryz.func18, Tryz.ntmps18
 go_upto_region 1 with fail
 obtain ⟨qv1, hqv1⟩ := exq ((w).heap.size)
 obtain ⟨w1, hW1⟩ := exq ((w).alloc (.cells #[.slice a1 n1 c1, .slice a2 n2 c2, .slice a3 n3 c3, .slice a4 n4 c4, .int .i64 nx, .int .i64 sq] 29))
 have hz1 : (w).heap.size = qv1 := hqv1.symm
 first | rw [← hW1, ← hqv1] | rw [← hW1]
 have hs1 := hsa hW1 hz1
 have bw := bal hW1
 have hb1 := hbt hb0 bw
 have HBv1_1 := hnew hW1 hz1
 clear hb0 bw hW1 hz1
 clear hs1 hqv1
 have cv1_0 := (k6c HBv1_1).1
 have cv1_1 := (k6c HBv1_1).2.1
 go_wp2_with fail
 refine (szDisk_room L (by omega) (by omega) a1 n1 c1 cs a2 n2 c2 ws B _ (HA1.out _ hb1) (HA2.out _ hb1) (HBB.out _ hb1) HM.out.1 HM.out.2.1 HM.out.2.2.2.2.1 HM.out.2.2.2.2.2.1).mono ?_
 rintro e w2 ⟨r1, rfl, hl1, hr1, bw⟩
 have hb2 := hbt hb1 bw
 have HBv1_2 := hblk HBv1_1 bw
 clear hb1 HBv1_1 bw
 clear cv1_0 cv1_1
 by_cases hc1 : r1 < 0
 ·
  clear hr1
  go_wp2_with fail
  go_ret
  exact ⟨-1, rfl, by omega, fun h => absurd h (by omega), hb2⟩
 ·
  have HR1 : Hid _ := hr1 (by omega)
  clear hr1
  have m1 := HR1.out.1
  have cv1_2 := (k6c HBv1_2).2.2.1
  go_wp2_with fail
  refine (szKeptS_any r1 (by omega) (by omega) B a3 n3 c3 ks _ (HA3.out _ hb2) (HBB.out _ hb2) HM.out.2.2.1 HM.out.2.2.2.2.2.2.1).mono ?_
  rintro e w3 ⟨r2, rfl, hl2, hr2, bw⟩
  have hb3 := hbt hb2 bw
  have HBv1_3 := hblk HBv1_2 bw
  clear hb2 HBv1_2 bw
  clear cv1_2
  by_cases hc2 : r2 < 0
  ·
   clear hr2
   go_wp2_with fail
   go_ret
   exact ⟨-1, rfl, by omega, fun h => absurd h (by omega), hb3⟩
  ·
   have HR2 : Hid _ := hr2 (by omega)
   clear hr2
   have m2 := HR2.out.1
   have cv1_3 := (k6c HBv1_3).2.2.2.1
   go_wp2_with fail
   refine (szBanS_room r2 (by omega) (by omega) B a4 n4 c4 bl _ (HA4.out _ hb3) (HBB.out _ hb3) HM.out.2.2.2.1 HM.out.2.2.2.2.2.2.2).mono ?_
   rintro e w4 ⟨r3, rfl, hl3, hr3, bw⟩
   have hb4 := hbt hb3 bw
   have HBv1_4 := hblk HBv1_3 bw
   clear hb3 HBv1_3 bw
   clear cv1_3
   by_cases hc3 : r3 < 0
   ·
    clear hr3
    go_wp2_with fail
    go_ret
    exact ⟨-1, rfl, by omega, fun h => absurd h (by omega), hb4⟩
   ·
    have HR3 : Hid _ := hr3 (by omega)
    clear hr3
    have m3 := HR3.out.1
    go_wp2_with fail
    go_ret
    exact ⟨r3, rfl, by omega, fun _ => ⟨by omega, HR1.out.2.1, HR1.out.2.2, HR2.out.2, HR3.out.2⟩, hb4⟩
end Go.Proofs.YtbmhonfgffjpcaaGreat
namespace Go.Proofs.YtbmhonfgffjpcaaGreat
open Go.RowKit Go.WideShapes
open Go.Lib hiding intOf
/-- What a cache tells. -/
structure CaD where
 s : ShD
 fl : List FlD
 now : Int
 se : List SeD
 sn : List RpD
/-- All rows of a cache. -/
def caAll (v1 v2 V VB F E R : Value) (kv : List (KpD × Value × Value × Value)) (fv : List FlV) (ev : List SeV) (rv : List RpV) (cs : List ByteArray) (ws : List (Int × ByteArray)) (bl : List (Int × ByteArray × ByteArray × Int)) : List Rw := ((shAll v1 v2 V VB kv cs ws bl ++ flAll F fv) ++ seAll E ev) ++ rpAll R rv
/-- A cache of one's own. -/
structure CacheO (w : World) (base : Nat) (v1 v2 V VB F E R : Value) (kv : List (KpD × Value × Value × Value)) (fv : List FlV) (ev : List SeV) (rv : List RpV) (c : CaD) : Prop where
 rows : RowsO w base (caAll v1 v2 V VB F E R kv fv ev rv c.s.cs c.s.ws c.s.bl)
 hk : kv.map (·.1) = c.s.ks
 hf : fv.map (·.d) = c.fl
 he : ev.map (·.d) = c.se
 hr : rv.map (·.d) = c.sn
theorem CacheO.shelf {w : World} {base : Nat} {v1 v2 V VB F E R : Value} {kv : List (KpD × Value × Value × Value)} {fv : List FlV} {ev : List SeV} {rv : List RpV} {c : CaD} (h : CacheO w base v1 v2 V VB F E R kv fv ev rv c) : ShelfO w base v1 v2 V VB kv c.s := ⟨RowsO.sub h.rows ((List.sublist_append_left _ _).trans ((List.sublist_append_left _ _).trans (List.sublist_append_left _ _))), h.hk⟩
theorem CacheO.fls {w : World} {base : Nat} {v1 v2 V VB F E R : Value} {kv : List (KpD × Value × Value × Value)} {fv : List FlV} {ev : List SeV} {rv : List RpV} {c : CaD} (h : CacheO w base v1 v2 V VB F E R kv fv ev rv c) : FlsO w base F fv := RowsO.sub h.rows ((List.sublist_append_right _ _).trans ((List.sublist_append_left _ _).trans (List.sublist_append_left _ _)))
theorem CacheO.ses {w : World} {base : Nat} {v1 v2 V VB F E R : Value} {kv : List (KpD × Value × Value × Value)} {fv : List FlV} {ev : List SeV} {rv : List RpV} {c : CaD} (h : CacheO w base v1 v2 V VB F E R kv fv ev rv c) : SesO w base E ev := RowsO.sub h.rows ((List.sublist_append_right _ _).trans (List.sublist_append_left _ _))
theorem CacheO.rps {w : World} {base : Nat} {v1 v2 V VB F E R : Value} {kv : List (KpD × Value × Value × Value)} {fv : List FlV} {ev : List SeV} {rv : List RpV} {c : CaD} (h : CacheO w base v1 v2 V VB F E R kv fv ev rv c) : RpsO w base R rv := RowsO.sub h.rows (List.sublist_append_right _ _)
theorem CacheO.below {w : World} {base : Nat} {v1 v2 V VB F E R : Value} {kv : List (KpD × Value × Value × Value)} {fv : List FlV} {ev : List SeV} {rv : List RpV} {c : CaD} {w' : World} (h : CacheO w base v1 v2 V VB F E R kv fv ev rv c) (hb : Below w.heap.size w w') : CacheO w' base v1 v2 V VB F E R kv fv ev rv c := ⟨h.rows.below hb, h.hk, h.hf, h.he, h.hr⟩
theorem flAll_T {V : Value} {kv : List FlV} {r : Rw} (h : r ∈ flAll V kv) : r.T = 129 ∨ r.T = 171 ∨ r.T = 3 ∨ r.T = 9 := by
 rcases List.mem_cons.1 h with h | h
 · exact .inl (by rw [h]; rfl)
 ·
  obtain ⟨x, _, hx⟩ := List.mem_flatMap.1 h
  exact .inr (flR_T hx)
theorem seAll_T {V : Value} {kv : List SeV} {r : Rw} (h : r ∈ seAll V kv) : r.T = 83 ∨ r.T = 171 := by
 rcases List.mem_cons.1 h with h | h
 · exact .inl (by rw [h]; rfl)
 ·
  obtain ⟨x, _, hx⟩ := List.mem_flatMap.1 h
  exact .inr (seR_T hx)
theorem rpAll_T {V : Value} {kv : List RpV} {r : Rw} (h : r ∈ rpAll V kv) : r.T = 68 ∨ r.T = 171 ∨ r.T = 9 := by
 rcases List.mem_cons.1 h with h | h
 · exact .inl (by rw [h]; rfl)
 ·
  obtain ⟨x, _, hx⟩ := List.mem_flatMap.1 h
  exact .inr (rpR_T hx)
theorem shAll_noC (T : TypeId) (hT : T ≠ 9 ∧ T ≠ 199 ∧ T ≠ 103 ∧ T ≠ 152 ∧ T ≠ 171 ∧ T ≠ 3 ∧ T ≠ 129 ∧ T ≠ 83 ∧ T ≠ 68) {v1 v2 V VB : Value} {kv : List (KpD × Value × Value × Value)} {cs : List ByteArray} {ws : List (Int × ByteArray)} {bl : List (Int × ByteArray × ByteArray × Int)} : ∀ r ∈ shAll v1 v2 V VB kv cs ws bl, T ≠ r.T := by
 intro r hr
 unfold shAll at hr
 rcases List.mem_append.1 hr with hr | hr
 ·
  rcases List.mem_append.1 hr with hr | hr
  ·
   simp only [List.mem_cons, List.not_mem_nil, or_false] at hr
   rcases hr with rfl | rfl
   · exact hT.1
   · exact hT.2.1
  ·
   rcases kpAll_T hr with e | e | e
   · rw [e]; exact hT.2.2.1
   · rw [e]; exact hT.1
   · rw [e]; exact hT.2.2.2.2.1
 · rw [List.mem_singleton.1 hr]; exact hT.2.2.2.1
/-- A call answers a cache of its own. -/
def CacheIs (c : CaD) (w : World) (e : Ending) (w' : World) : Prop := ∃ (v1 v2 V VB F E R : Value) (kv : List (KpD × Value × Value × Value)) (fv : List FlV) (ev : List SeV) (rv : List RpV), e = .returned (.agg #[v1, v2, V, VB, .int .i64 c.s.nx, .int .i64 c.s.sq, F, .int .i64 c.now, E, R]) ∧ CacheO w' w.heap.size v1 v2 V VB F E R kv fv ev rv c ∧ Below w.heap.size w w'
/-- Short enough to be copied. -/
structure CaLen (n1 n2 n3 n4 n5 n6 n7 : Nat) (ks : List KpD) (fl : List FlD) (se : List SeD) (sn : List RpD) : Prop where
 a : n1 ≤ 1048576
 b : n2 ≤ 1048576
 c : n3 ≤ 1048576
 d : n4 ≤ 1048576
 e : n5 ≤ 1048576
 f : n6 ≤ 1048576
 g : n7 ≤ 1048576
 ks : ∀ k ∈ ks, k.xs.length ≤ 1048576 ∧ k.ys.length ≤ 1048576 ∧ k.fs.length ≤ 1048576
 fl : ∀ k ∈ fl, FlLen k
 se : ∀ k ∈ se, SeLen k
 sn : ∀ k ∈ sn, RpLen k
theorem toCache_any (a1 : Option Addr) (n1 c1 : Nat) (cs : List ByteArray) (a2 : Option Addr) (n2 c2 : Nat) (ws : List (Int × ByteArray)) (a3 : Option Addr) (n3 c3 : Nat) (ks : List KpD) (a4 : Option Addr) (n4 c4 : Nat) (bl : List (Int × ByteArray × ByteArray × Int)) (nx sq : Int) (a5 : Option Addr) (n5 c5 : Nat) (fl : List FlD) (now : Int) (a6 : Option Addr) (n6 c6 : Nat) (se : List SeD) (a7 : Option Addr) (n7 c7 : Nat) (sn : List RpD) (B : Nat) (w : World) (h1 : ArgT w B a1 n1 cs) (h2 : ArgWrite w B a2 n2 ws) (h3 : ArgKept w B a3 n3 ks) (h4 : ArgBan w B a4 n4 bl) (h5 : ArgFlight w B a5 n5 fl) (h6 : ArgSeen w B a6 n6 se) (h7 : ArgReply w B a7 n7 sn) (hB : B ≤ w.heap.size) (hn : CaLen n1 n2 n3 n4 n5 n6 n7 ks fl se sn) :
  Calls Tryz.prog 9 #[.agg #[.slice a1 n1 c1, .slice a2 n2 c2, .slice a3 n3 c3, .slice a4 n4 c4, .int .i64 nx, .int .i64 sq, .slice a5 n5 c5, .int .i64 now, .slice a6 n6 c6, .slice a7 n7 c7]] w fun e w' => CacheIs ⟨⟨cs, ws, ks, bl, nx, sq⟩, fl, now, se, sn⟩ w e w' := by
 have HA1 : Hid (∀ W, Below w.heap.size w W → ArgT W B a1 n1 cs) := fun W h => h1.below (h.mono hB)
 have HA2 : Hid (∀ W, Below w.heap.size w W → ArgWrite W B a2 n2 ws) := fun W h => h2.below (h.mono hB)
 have HA3 : Hid (∀ W, Below w.heap.size w W → ArgKept W B a3 n3 ks) := fun W h => h3.below (h.mono hB)
 have HA4 : Hid (∀ W, Below w.heap.size w W → ArgBan W B a4 n4 bl) := fun W h => h4.below (h.mono hB)
 have HA5 : Hid (∀ W, Below w.heap.size w W → ArgFlight W B a5 n5 fl) := fun W h => h5.below (h.mono hB)
 have HA6 : Hid (∀ W, Below w.heap.size w W → ArgSeen W B a6 n6 se) := fun W h => h6.below (h.mono hB)
 have HA7 : Hid (∀ W, Below w.heap.size w W → ArgReply W B a7 n7 sn) := fun W h => h7.below (h.mono hB)
 have HBB : Hid (∀ W, Below w.heap.size w W → B ≤ W.heap.size) := fun W h => Nat.le_trans hB h.size
 have HN : Hid (CaLen n1 n2 n3 n4 n5 n6 n7 ks fl se sn) := hn
 clear h1 h2 h3 h4 h5 h6 h7 hn hB
 have hb0 : Below w.heap.size w w := Below.refl _ _
 go_enter Tryz.func9, Tryz.ntmps9
 go_upto_region 1 with fail
 obtain ⟨qv1, hqv1⟩ := exq ((w).heap.size)
 obtain ⟨w1, hW1⟩ := exq ((w).alloc (.cells #[.slice a1 n1 c1, .slice a2 n2 c2, .slice a3 n3 c3, .slice a4 n4 c4, .int .i64 nx, .int .i64 sq, .slice a5 n5 c5, .int .i64 now, .slice a6 n6 c6, .slice a7 n7 c7] 34))
 have hz1 : (w).heap.size = qv1 := hqv1.symm
 first | rw [← hW1, ← hqv1] | rw [← hW1]
 have hs1 := hsa hW1 hz1
 have bw := bal hW1
 have hb1 := hbt hb0 bw
 have HBv1_1 := hnew hW1 hz1
 clear hb0 bw hW1 hz1
 obtain ⟨qv2, hqv2⟩ := exq (qv1 + 1)
 obtain ⟨w2, hW2⟩ := exq ((w1).alloc (.cells #[.slice none 0 0, .slice none 0 0, .slice none 0 0, .slice none 0 0, .int .i64 0, .int .i64 0, .slice none 0 0, .int .i64 0, .slice none 0 0, .slice none 0 0] 58))
 have hz2 : (w1).heap.size = qv2 := by rw [hqv2]; exact hs1
 first | rw [← hW2, ← hqv2] | rw [← hW2]
 have hs2 := hsa hW2 hz2
 have bw := bal hW2
 have hb2 := hbt hb1 bw
 have HBv1_2 := hblk HBv1_1 bw
 have HNv1v2 : Hid (qv1 ≠ qv2) := fun e => by have h1 := (Array.getElem?_eq_some_iff.1 HBv1_1.out).1; omega
 have HBv2_2 := hnew hW2 hz2
 have HGv2 := hge hz2 hb1
 clear hb1 HBv1_1 bw hW2 hz2
 clear hs2 hqv2 hs1 hqv1
 go_upto_region 2 with fail
 obtain ⟨qv3, hqv3⟩ := exq ((w2).heap.size)
 obtain ⟨w3, hW3⟩ := exq ((w2).alloc (.cells #[.slice none 0 0, .slice none 0 0, .slice none 0 0, .slice none 0 0, .int .i64 0, .int .i64 0, .slice none 0 0, .int .i64 0, .slice none 0 0, .slice none 0 0] 58))
 have hz3 : (w2).heap.size = qv3 := hqv3.symm
 first | rw [← hW3, ← hqv3] | rw [← hW3]
 have hs3 := hsa hW3 hz3
 have bw := bal hW3
 have hb3 := hbt hb2 bw
 have HBv1_3 := hblk HBv1_2 bw
 have HBv2_3 := hblk HBv2_2 bw
 have HNv1v3 : Hid (qv1 ≠ qv3) := fun e => by have h1 := (Array.getElem?_eq_some_iff.1 HBv1_2.out).1; omega
 have HNv2v3 : Hid (qv2 ≠ qv3) := fun e => by have h1 := (Array.getElem?_eq_some_iff.1 HBv2_2.out).1; omega
 have HBv3_3 := hnew hW3 hz3
 have HGv3 := hge hz3 hb2
 clear hb2 HBv1_2 HBv2_2 bw hW3 hz3
 clear hs3 hqv3
 have cv1_0 := (k10c HBv1_3).1
 have cv1_1 := (k10c HBv1_3).2.1
 have cv1_2 := (k10c HBv1_3).2.2.1
 have cv1_3 := (k10c HBv1_3).2.2.2.1
 have cv1_4 := (k10c HBv1_3).2.2.2.2.1
 have cv1_5 := (k10c HBv1_3).2.2.2.2.2.1
 go_wp2_with fail
 refine (toShelf_any a1 n1 c1 cs a2 n2 c2 ws a3 n3 c3 ks a4 n4 c4 bl nx sq B _ (HA1.out _ hb3) (HA2.out _ hb3) (HA3.out _ hb3) (HA4.out _ hb3) (HBB.out _ hb3) HN.out.a HN.out.b HN.out.c HN.out.d HN.out.ks).mono ?_
 rintro e w4 ⟨va, vb, vc, vd, kv, rfl, hso, bw⟩
 have HKM : Hid (kv.map (·.1) = ks) := hso.2
 obtain ⟨oC, pC, rfl⟩ := slice_of_owns hso.disk.cells
 obtain ⟨oP, pP, rfl⟩ := slice_of_owns hso.disk.pend
 obtain ⟨oK, pK, rfl⟩ := hso.kept.len
 obtain ⟨oB, pB, rfl⟩ := slice_of_owns hso.bans
 dsimp only at hso ⊢
 have HRN : Hid (RowsO w4 w.heap.size (shAll (.slice oC cs.length pC) (.slice oP ws.length pP) (.slice oK kv.length pK) (.slice oB bl.length pB) kv cs ws bl)) := RowsO.wide hso.1 hb3.size
 have HT0 : Hid (∀ r ∈ (shAll (.slice oC cs.length pC) (.slice oP ws.length pP) (.slice oK kv.length pK) (.slice oB bl.length pB) kv cs ws bl), 58 ≠ r.T) := shAll_noC 58 ⟨by decide, by decide, by decide, by decide, by decide, by decide, by decide, by decide, by decide⟩
 have hb4 := hbt hb3 bw
 have HBv1_4 := hblk HBv1_3 bw
 have HBv2_4 := hblk HBv2_3 bw
 have HBv3_4 := hblk HBv3_3 bw
 clear hb3 HBv1_3 HBv2_3 HBv3_3 bw
 have ER_4 : Hid (RowsO (w4) w.heap.size (shAll (.slice oC cs.length pC) (.slice oP ws.length pP) (.slice oK kv.length pK) (.slice oB bl.length pB) kv cs ws bl)) := HRN.out
 clear HRN
 clear cv1_0 cv1_1 cv1_2 cv1_3 cv1_4 cv1_5
 have cv3_0 := (k10c HBv3_4).1
 have fcv3_0 := hfz HBv3_4 0
 have cv3_1 := (k10c HBv3_4).2.1
 have fcv3_1 := hfz HBv3_4 1
 have cv3_2 := (k10c HBv3_4).2.2.1
 have fcv3_2 := hfz HBv3_4 2
 have cv3_3 := (k10c HBv3_4).2.2.2.1
 have fcv3_3 := hfz HBv3_4 3
 have cv3_4 := (k10c HBv3_4).2.2.2.2.1
 have fcv3_4 := hfz HBv3_4 4
 have cv3_5 := (k10c HBv3_4).2.2.2.2.2.1
 have fcv3_5 := hfz HBv3_4 5
 go_upto_region 3 with fail
 obtain ⟨w5, hW5⟩ := exq ((w4).setCell ⟨qv3, 0, none⟩ (.slice oC cs.length pC))
 rw [← hW5]
 have hb5 : Below w.heap.size w (w5) := by rw [hW5]; exact (hb4.setCell (p := ⟨qv3, 0, none⟩) HGv3.out _)
 have HBv1_5 := hset hW5 HNv1v3.out HBv1_4
 have HBv2_5 := hset hW5 HNv2v3.out HBv2_4
 have ER_5 : Hid (RowsO (w5) w.heap.size (shAll (.slice oC cs.length pC) (.slice oP ws.length pP) (.slice oK kv.length pK) (.slice oB bl.length pB) kv cs ws bl)) := by show RowsO _ _ _; rw [hW5]; exact RowsO.other ER_4.out HBv3_4.out HT0.out
 have HBv3_5 : Hid ((w5).heap[qv3]? = some (.cells #[.slice oC cs.length pC, .slice none 0 0, .slice none 0 0, .slice none 0 0, .int .i64 0, .int .i64 0, .slice none 0 0, .int .i64 0, .slice none 0 0, .slice none 0 0] 58)) := by show _ = _; rw [hW5]; have h := heap_set _ _ 0 _ _ _ (.slice oC cs.length pC) HBv3_4.out; simpa using h
 clear hb4 HBv1_4 HBv2_4 HBv3_4 ER_4 hW5
 obtain ⟨w6, hW6⟩ := exq ((w5).setCell ⟨qv3, 1, none⟩ (.slice oP ws.length pP))
 rw [← hW6]
 have hb6 : Below w.heap.size w (w6) := by rw [hW6]; exact (hb5.setCell (p := ⟨qv3, 1, none⟩) HGv3.out _)
 have HBv1_6 := hset hW6 HNv1v3.out HBv1_5
 have HBv2_6 := hset hW6 HNv2v3.out HBv2_5
 have ER_6 : Hid (RowsO (w6) w.heap.size (shAll (.slice oC cs.length pC) (.slice oP ws.length pP) (.slice oK kv.length pK) (.slice oB bl.length pB) kv cs ws bl)) := by show RowsO _ _ _; rw [hW6]; exact RowsO.other ER_5.out HBv3_5.out HT0.out
 have HBv3_6 : Hid ((w6).heap[qv3]? = some (.cells #[.slice oC cs.length pC, .slice oP ws.length pP, .slice none 0 0, .slice none 0 0, .int .i64 0, .int .i64 0, .slice none 0 0, .int .i64 0, .slice none 0 0, .slice none 0 0] 58)) := by show _ = _; rw [hW6]; have h := heap_set _ _ 1 _ _ _ (.slice oP ws.length pP) HBv3_5.out; simpa using h
 clear hb5 HBv1_5 HBv2_5 HBv3_5 ER_5 hW6
 obtain ⟨w7, hW7⟩ := exq ((w6).setCell ⟨qv3, 2, none⟩ (.slice oK kv.length pK))
 rw [← hW7]
 have hb7 : Below w.heap.size w (w7) := by rw [hW7]; exact (hb6.setCell (p := ⟨qv3, 2, none⟩) HGv3.out _)
 have HBv1_7 := hset hW7 HNv1v3.out HBv1_6
 have HBv2_7 := hset hW7 HNv2v3.out HBv2_6
 have ER_7 : Hid (RowsO (w7) w.heap.size (shAll (.slice oC cs.length pC) (.slice oP ws.length pP) (.slice oK kv.length pK) (.slice oB bl.length pB) kv cs ws bl)) := by show RowsO _ _ _; rw [hW7]; exact RowsO.other ER_6.out HBv3_6.out HT0.out
 have HBv3_7 : Hid ((w7).heap[qv3]? = some (.cells #[.slice oC cs.length pC, .slice oP ws.length pP, .slice oK kv.length pK, .slice none 0 0, .int .i64 0, .int .i64 0, .slice none 0 0, .int .i64 0, .slice none 0 0, .slice none 0 0] 58)) := by show _ = _; rw [hW7]; have h := heap_set _ _ 2 _ _ _ (.slice oK kv.length pK) HBv3_6.out; simpa using h
 clear hb6 HBv1_6 HBv2_6 HBv3_6 ER_6 hW7
 obtain ⟨w8, hW8⟩ := exq ((w7).setCell ⟨qv3, 3, none⟩ (.slice oB bl.length pB))
 rw [← hW8]
 have hb8 : Below w.heap.size w (w8) := by rw [hW8]; exact (hb7.setCell (p := ⟨qv3, 3, none⟩) HGv3.out _)
 have HBv1_8 := hset hW8 HNv1v3.out HBv1_7
 have HBv2_8 := hset hW8 HNv2v3.out HBv2_7
 have ER_8 : Hid (RowsO (w8) w.heap.size (shAll (.slice oC cs.length pC) (.slice oP ws.length pP) (.slice oK kv.length pK) (.slice oB bl.length pB) kv cs ws bl)) := by show RowsO _ _ _; rw [hW8]; exact RowsO.other ER_7.out HBv3_7.out HT0.out
 have HBv3_8 : Hid ((w8).heap[qv3]? = some (.cells #[.slice oC cs.length pC, .slice oP ws.length pP, .slice oK kv.length pK, .slice oB bl.length pB, .int .i64 0, .int .i64 0, .slice none 0 0, .int .i64 0, .slice none 0 0, .slice none 0 0] 58)) := by show _ = _; rw [hW8]; have h := heap_set _ _ 3 _ _ _ (.slice oB bl.length pB) HBv3_7.out; simpa using h
 clear hb7 HBv1_7 HBv2_7 HBv3_7 ER_7 hW8
 obtain ⟨w9, hW9⟩ := exq ((w8).setCell ⟨qv3, 4, none⟩ (.int .i64 nx))
 rw [← hW9]
 have hb9 : Below w.heap.size w (w9) := by rw [hW9]; exact (hb8.setCell (p := ⟨qv3, 4, none⟩) HGv3.out _)
 have HBv1_9 := hset hW9 HNv1v3.out HBv1_8
 have HBv2_9 := hset hW9 HNv2v3.out HBv2_8
 have ER_9 : Hid (RowsO (w9) w.heap.size (shAll (.slice oC cs.length pC) (.slice oP ws.length pP) (.slice oK kv.length pK) (.slice oB bl.length pB) kv cs ws bl)) := by show RowsO _ _ _; rw [hW9]; exact RowsO.other ER_8.out HBv3_8.out HT0.out
 have HBv3_9 : Hid ((w9).heap[qv3]? = some (.cells #[.slice oC cs.length pC, .slice oP ws.length pP, .slice oK kv.length pK, .slice oB bl.length pB, .int .i64 nx, .int .i64 0, .slice none 0 0, .int .i64 0, .slice none 0 0, .slice none 0 0] 58)) := by show _ = _; rw [hW9]; have h := heap_set _ _ 4 _ _ _ (.int .i64 nx) HBv3_8.out; simpa using h
 clear hb8 HBv1_8 HBv2_8 HBv3_8 ER_8 hW9
 obtain ⟨w10, hW10⟩ := exq ((w9).setCell ⟨qv3, 5, none⟩ (.int .i64 sq))
 rw [← hW10]
 have hb10 : Below w.heap.size w (w10) := by rw [hW10]; exact (hb9.setCell (p := ⟨qv3, 5, none⟩) HGv3.out _)
 have HBv1_10 := hset hW10 HNv1v3.out HBv1_9
 have HBv2_10 := hset hW10 HNv2v3.out HBv2_9
 have ER_10 : Hid (RowsO (w10) w.heap.size (shAll (.slice oC cs.length pC) (.slice oP ws.length pP) (.slice oK kv.length pK) (.slice oB bl.length pB) kv cs ws bl)) := by show RowsO _ _ _; rw [hW10]; exact RowsO.other ER_9.out HBv3_9.out HT0.out
 have HBv3_10 : Hid ((w10).heap[qv3]? = some (.cells #[.slice oC cs.length pC, .slice oP ws.length pP, .slice oK kv.length pK, .slice oB bl.length pB, .int .i64 nx, .int .i64 sq, .slice none 0 0, .int .i64 0, .slice none 0 0, .slice none 0 0] 58)) := by show _ = _; rw [hW10]; have h := heap_set _ _ 5 _ _ _ (.int .i64 sq) HBv3_9.out; simpa using h
 clear hb9 HBv1_9 HBv2_9 HBv3_9 ER_9 hW10
 clear cv3_0 fcv3_0 cv3_1 fcv3_1 cv3_2 fcv3_2 cv3_3 fcv3_3 cv3_4 fcv3_4 cv3_5 fcv3_5
 have cv1_6 := (k10c HBv1_10).2.2.2.2.2.2.1
 go_wp2_with fail
 refine (toFlightS_any B a5 n5 c5 fl _ (HA5.out _ hb10) (HBB.out _ hb10) HN.out.e HN.out.fl).mono ?_
 rintro e w11 ⟨VF, fv, rfl, hfm, hfo, bw⟩
 have HFM : Hid (fv.map (·.d) = fl) := hfm
 obtain ⟨oF, pF, rfl⟩ := hfo.len
 have HRN : Hid (RowsO w11 w.heap.size (shAll (.slice oC cs.length pC) (.slice oP ws.length pP) (.slice oK kv.length pK) (.slice oB bl.length pB) kv cs ws bl ++ flAll (.slice oF fv.length pF) fv)) := ER_10.out.more bw hfo (Nat.le_refl _) hb10.size
 have HT1 : Hid (∀ r ∈ (shAll (.slice oC cs.length pC) (.slice oP ws.length pP) (.slice oK kv.length pK) (.slice oB bl.length pB) kv cs ws bl ++ flAll (.slice oF fv.length pF) fv), 58 ≠ r.T) := by
  intro r hr
  rcases List.mem_append.1 hr with hr | hr
  · exact HT0.out r hr
  · rcases flAll_T hr with e | e | e | e <;> rw [e] <;> decide
 have hb11 := hbt hb10 bw
 have HBv1_11 := hblk HBv1_10 bw
 have HBv2_11 := hblk HBv2_10 bw
 have HBv3_11 := hblk HBv3_10 bw
 have ER_11 : Hid (RowsO (w11) w.heap.size (shAll (.slice oC cs.length pC) (.slice oP ws.length pP) (.slice oK kv.length pK) (.slice oB bl.length pB) kv cs ws bl)) := ER_10.out.below bw
 clear hb10 HBv1_10 HBv2_10 HBv3_10 ER_10 bw
 clear ER_11
 have ER_11 : Hid (RowsO (w11) w.heap.size (shAll (.slice oC cs.length pC) (.slice oP ws.length pP) (.slice oK kv.length pK) (.slice oB bl.length pB) kv cs ws bl ++ flAll (.slice oF fv.length pF) fv)) := HRN.out
 clear HRN
 clear cv1_6
 have cv3_6 := (k10c HBv3_11).2.2.2.2.2.2.1
 have fcv3_6 := hfz HBv3_11 6
 go_upto_region 4 with fail
 obtain ⟨w12, hW12⟩ := exq ((w11).setCell ⟨qv3, 6, none⟩ (.slice oF fv.length pF))
 rw [← hW12]
 have hb12 : Below w.heap.size w (w12) := by rw [hW12]; exact (hb11.setCell (p := ⟨qv3, 6, none⟩) HGv3.out _)
 have HBv1_12 := hset hW12 HNv1v3.out HBv1_11
 have HBv2_12 := hset hW12 HNv2v3.out HBv2_11
 have ER_12 : Hid (RowsO (w12) w.heap.size (shAll (.slice oC cs.length pC) (.slice oP ws.length pP) (.slice oK kv.length pK) (.slice oB bl.length pB) kv cs ws bl ++ flAll (.slice oF fv.length pF) fv)) := by show RowsO _ _ _; rw [hW12]; exact RowsO.other ER_11.out HBv3_11.out HT1.out
 have HBv3_12 : Hid ((w12).heap[qv3]? = some (.cells #[.slice oC cs.length pC, .slice oP ws.length pP, .slice oK kv.length pK, .slice oB bl.length pB, .int .i64 nx, .int .i64 sq, .slice oF fv.length pF, .int .i64 0, .slice none 0 0, .slice none 0 0] 58)) := by show _ = _; rw [hW12]; have h := heap_set _ _ 6 _ _ _ (.slice oF fv.length pF) HBv3_11.out; simpa using h
 clear hb11 HBv1_11 HBv2_11 HBv3_11 ER_11 hW12
 clear cv3_6 fcv3_6
 have cv1_7 := (k10c HBv1_12).2.2.2.2.2.2.2.1
 have cv3_7 := (k10c HBv3_12).2.2.2.2.2.2.2.1
 have fcv3_7 := hfz HBv3_12 7
 go_upto_region 5 with fail
 obtain ⟨w13, hW13⟩ := exq ((w12).setCell ⟨qv3, 7, none⟩ (.int .i64 now))
 rw [← hW13]
 have hb13 : Below w.heap.size w (w13) := by rw [hW13]; exact (hb12.setCell (p := ⟨qv3, 7, none⟩) HGv3.out _)
 have HBv1_13 := hset hW13 HNv1v3.out HBv1_12
 have HBv2_13 := hset hW13 HNv2v3.out HBv2_12
 have ER_13 : Hid (RowsO (w13) w.heap.size (shAll (.slice oC cs.length pC) (.slice oP ws.length pP) (.slice oK kv.length pK) (.slice oB bl.length pB) kv cs ws bl ++ flAll (.slice oF fv.length pF) fv)) := by show RowsO _ _ _; rw [hW13]; exact RowsO.other ER_12.out HBv3_12.out HT1.out
 have HBv3_13 : Hid ((w13).heap[qv3]? = some (.cells #[.slice oC cs.length pC, .slice oP ws.length pP, .slice oK kv.length pK, .slice oB bl.length pB, .int .i64 nx, .int .i64 sq, .slice oF fv.length pF, .int .i64 now, .slice none 0 0, .slice none 0 0] 58)) := by show _ = _; rw [hW13]; have h := heap_set _ _ 7 _ _ _ (.int .i64 now) HBv3_12.out; simpa using h
 clear hb12 HBv1_12 HBv2_12 HBv3_12 ER_12 hW13
 clear cv1_7 cv3_7 fcv3_7
 have cv1_8 := (k10c HBv1_13).2.2.2.2.2.2.2.2.1
 go_wp2_with fail
 refine (toSeenS_any B a6 n6 c6 se _ (HA6.out _ hb13) (HBB.out _ hb13) HN.out.f HN.out.se).mono ?_
 rintro e w14 ⟨VE, ev, rfl, hem, heo, bw⟩
 have HEM : Hid (ev.map (·.d) = se) := hem
 obtain ⟨oE, pE, rfl⟩ := heo.len
 have HRN : Hid (RowsO w14 w.heap.size ((shAll (.slice oC cs.length pC) (.slice oP ws.length pP) (.slice oK kv.length pK) (.slice oB bl.length pB) kv cs ws bl ++ flAll (.slice oF fv.length pF) fv) ++ seAll (.slice oE ev.length pE) ev)) := ER_13.out.more bw heo (Nat.le_refl _) hb13.size
 have HT2 : Hid (∀ r ∈ ((shAll (.slice oC cs.length pC) (.slice oP ws.length pP) (.slice oK kv.length pK) (.slice oB bl.length pB) kv cs ws bl ++ flAll (.slice oF fv.length pF) fv) ++ seAll (.slice oE ev.length pE) ev), 58 ≠ r.T) := by
  intro r hr
  rcases List.mem_append.1 hr with hr | hr
  · exact HT1.out r hr
  · rcases seAll_T hr with e | e <;> rw [e] <;> decide
 have hb14 := hbt hb13 bw
 have HBv1_14 := hblk HBv1_13 bw
 have HBv2_14 := hblk HBv2_13 bw
 have HBv3_14 := hblk HBv3_13 bw
 have ER_14 : Hid (RowsO (w14) w.heap.size (shAll (.slice oC cs.length pC) (.slice oP ws.length pP) (.slice oK kv.length pK) (.slice oB bl.length pB) kv cs ws bl ++ flAll (.slice oF fv.length pF) fv)) := ER_13.out.below bw
 clear hb13 HBv1_13 HBv2_13 HBv3_13 ER_13 bw
 clear ER_14
 have ER_14 : Hid (RowsO (w14) w.heap.size ((shAll (.slice oC cs.length pC) (.slice oP ws.length pP) (.slice oK kv.length pK) (.slice oB bl.length pB) kv cs ws bl ++ flAll (.slice oF fv.length pF) fv) ++ seAll (.slice oE ev.length pE) ev)) := HRN.out
 clear HRN
 clear cv1_8
 have cv3_8 := (k10c HBv3_14).2.2.2.2.2.2.2.2.1
 have fcv3_8 := hfz HBv3_14 8
 go_upto_region 6 with fail
 obtain ⟨w15, hW15⟩ := exq ((w14).setCell ⟨qv3, 8, none⟩ (.slice oE ev.length pE))
 rw [← hW15]
 have hb15 : Below w.heap.size w (w15) := by rw [hW15]; exact (hb14.setCell (p := ⟨qv3, 8, none⟩) HGv3.out _)
 have HBv1_15 := hset hW15 HNv1v3.out HBv1_14
 have HBv2_15 := hset hW15 HNv2v3.out HBv2_14
 have ER_15 : Hid (RowsO (w15) w.heap.size ((shAll (.slice oC cs.length pC) (.slice oP ws.length pP) (.slice oK kv.length pK) (.slice oB bl.length pB) kv cs ws bl ++ flAll (.slice oF fv.length pF) fv) ++ seAll (.slice oE ev.length pE) ev)) := by show RowsO _ _ _; rw [hW15]; exact RowsO.other ER_14.out HBv3_14.out HT2.out
 have HBv3_15 : Hid ((w15).heap[qv3]? = some (.cells #[.slice oC cs.length pC, .slice oP ws.length pP, .slice oK kv.length pK, .slice oB bl.length pB, .int .i64 nx, .int .i64 sq, .slice oF fv.length pF, .int .i64 now, .slice oE ev.length pE, .slice none 0 0] 58)) := by show _ = _; rw [hW15]; have h := heap_set _ _ 8 _ _ _ (.slice oE ev.length pE) HBv3_14.out; simpa using h
 clear hb14 HBv1_14 HBv2_14 HBv3_14 ER_14 hW15
 clear cv3_8 fcv3_8
 have cv1_9 := (k10c HBv1_15).2.2.2.2.2.2.2.2.2
 go_wp2_with fail
 refine (toReplyS_any B a7 n7 c7 sn _ (HA7.out _ hb15) (HBB.out _ hb15) HN.out.g HN.out.sn).mono ?_
 rintro e w16 ⟨VR, rv, rfl, hrm, hro, bw⟩
 have HRM : Hid (rv.map (·.d) = sn) := hrm
 obtain ⟨oR, pR, rfl⟩ := hro.len
 have HRN : Hid (RowsO w16 w.heap.size (((shAll (.slice oC cs.length pC) (.slice oP ws.length pP) (.slice oK kv.length pK) (.slice oB bl.length pB) kv cs ws bl ++ flAll (.slice oF fv.length pF) fv) ++ seAll (.slice oE ev.length pE) ev) ++ rpAll (.slice oR rv.length pR) rv)) := ER_15.out.more bw hro (Nat.le_refl _) hb15.size
 have HT3 : Hid (∀ r ∈ (((shAll (.slice oC cs.length pC) (.slice oP ws.length pP) (.slice oK kv.length pK) (.slice oB bl.length pB) kv cs ws bl ++ flAll (.slice oF fv.length pF) fv) ++ seAll (.slice oE ev.length pE) ev) ++ rpAll (.slice oR rv.length pR) rv), 58 ≠ r.T) := by
  intro r hr
  rcases List.mem_append.1 hr with hr | hr
  · exact HT2.out r hr
  · rcases rpAll_T hr with e | e | e <;> rw [e] <;> decide
 have hb16 := hbt hb15 bw
 have HBv1_16 := hblk HBv1_15 bw
 have HBv2_16 := hblk HBv2_15 bw
 have HBv3_16 := hblk HBv3_15 bw
 have ER_16 : Hid (RowsO (w16) w.heap.size ((shAll (.slice oC cs.length pC) (.slice oP ws.length pP) (.slice oK kv.length pK) (.slice oB bl.length pB) kv cs ws bl ++ flAll (.slice oF fv.length pF) fv) ++ seAll (.slice oE ev.length pE) ev)) := ER_15.out.below bw
 clear hb15 HBv1_15 HBv2_15 HBv3_15 ER_15 bw
 clear ER_16
 have ER_16 : Hid (RowsO (w16) w.heap.size (((shAll (.slice oC cs.length pC) (.slice oP ws.length pP) (.slice oK kv.length pK) (.slice oB bl.length pB) kv cs ws bl ++ flAll (.slice oF fv.length pF) fv) ++ seAll (.slice oE ev.length pE) ev) ++ rpAll (.slice oR rv.length pR) rv)) := HRN.out
 clear HRN
 clear cv1_9
 have cv3_9 := (k10c HBv3_16).2.2.2.2.2.2.2.2.2
 have fcv3_9 := hfz HBv3_16 9
 go_upto_region 7 with fail
 obtain ⟨w17, hW17⟩ := exq ((w16).setCell ⟨qv3, 9, none⟩ (.slice oR rv.length pR))
 rw [← hW17]
 have hb17 : Below w.heap.size w (w17) := by rw [hW17]; exact (hb16.setCell (p := ⟨qv3, 9, none⟩) HGv3.out _)
 have HBv1_17 := hset hW17 HNv1v3.out HBv1_16
 have HBv2_17 := hset hW17 HNv2v3.out HBv2_16
 have ER_17 : Hid (RowsO (w17) w.heap.size (((shAll (.slice oC cs.length pC) (.slice oP ws.length pP) (.slice oK kv.length pK) (.slice oB bl.length pB) kv cs ws bl ++ flAll (.slice oF fv.length pF) fv) ++ seAll (.slice oE ev.length pE) ev) ++ rpAll (.slice oR rv.length pR) rv)) := by show RowsO _ _ _; rw [hW17]; exact RowsO.other ER_16.out HBv3_16.out HT3.out
 have HBv3_17 : Hid ((w17).heap[qv3]? = some (.cells #[.slice oC cs.length pC, .slice oP ws.length pP, .slice oK kv.length pK, .slice oB bl.length pB, .int .i64 nx, .int .i64 sq, .slice oF fv.length pF, .int .i64 now, .slice oE ev.length pE, .slice oR rv.length pR] 58)) := by show _ = _; rw [hW17]; have h := heap_set _ _ 9 _ _ _ (.slice oR rv.length pR) HBv3_16.out; simpa using h
 clear hb16 HBv1_16 HBv2_16 HBv3_16 ER_16 hW17
 clear cv3_9 fcv3_9
 have cv2_0 := (k10c HBv2_17).1
 have fcv2_0 := hfz HBv2_17 0
 have cv2_1 := (k10c HBv2_17).2.1
 have fcv2_1 := hfz HBv2_17 1
 have cv2_2 := (k10c HBv2_17).2.2.1
 have fcv2_2 := hfz HBv2_17 2
 have cv2_3 := (k10c HBv2_17).2.2.2.1
 have fcv2_3 := hfz HBv2_17 3
 have cv2_4 := (k10c HBv2_17).2.2.2.2.1
 have fcv2_4 := hfz HBv2_17 4
 have cv2_5 := (k10c HBv2_17).2.2.2.2.2.1
 have fcv2_5 := hfz HBv2_17 5
 have cv2_6 := (k10c HBv2_17).2.2.2.2.2.2.1
 have fcv2_6 := hfz HBv2_17 6
 have cv2_7 := (k10c HBv2_17).2.2.2.2.2.2.2.1
 have fcv2_7 := hfz HBv2_17 7
 have cv2_8 := (k10c HBv2_17).2.2.2.2.2.2.2.2.1
 have fcv2_8 := hfz HBv2_17 8
 have cv2_9 := (k10c HBv2_17).2.2.2.2.2.2.2.2.2
 have fcv2_9 := hfz HBv2_17 9
 have cv3_0 := (k10c HBv3_17).1
 have cv3_1 := (k10c HBv3_17).2.1
 have cv3_2 := (k10c HBv3_17).2.2.1
 have cv3_3 := (k10c HBv3_17).2.2.2.1
 have cv3_4 := (k10c HBv3_17).2.2.2.2.1
 have cv3_5 := (k10c HBv3_17).2.2.2.2.2.1
 have cv3_6 := (k10c HBv3_17).2.2.2.2.2.2.1
 have cv3_7 := (k10c HBv3_17).2.2.2.2.2.2.2.1
 have cv3_8 := (k10c HBv3_17).2.2.2.2.2.2.2.2.1
 have cv3_9 := (k10c HBv3_17).2.2.2.2.2.2.2.2.2
 go_wp2_with fail
 obtain ⟨w18, hW18⟩ := exq ((w17).setCell ⟨qv2, 0, none⟩ (.slice oC cs.length pC))
 rw [← hW18]
 have hb18 : Below w.heap.size w (w18) := by rw [hW18]; exact (hb17.setCell (p := ⟨qv2, 0, none⟩) HGv2.out _)
 have HBv1_18 := hset hW18 HNv1v2.out HBv1_17
 have HBv3_18 := hset hW18 HNv2v3.out.symm HBv3_17
 have ER_18 : Hid (RowsO (w18) w.heap.size (((shAll (.slice oC cs.length pC) (.slice oP ws.length pP) (.slice oK kv.length pK) (.slice oB bl.length pB) kv cs ws bl ++ flAll (.slice oF fv.length pF) fv) ++ seAll (.slice oE ev.length pE) ev) ++ rpAll (.slice oR rv.length pR) rv)) := by show RowsO _ _ _; rw [hW18]; exact RowsO.other ER_17.out HBv2_17.out HT3.out
 have HBv2_18 : Hid ((w18).heap[qv2]? = some (.cells #[.slice oC cs.length pC, .slice none 0 0, .slice none 0 0, .slice none 0 0, .int .i64 0, .int .i64 0, .slice none 0 0, .int .i64 0, .slice none 0 0, .slice none 0 0] 58)) := by show _ = _; rw [hW18]; have h := heap_set _ _ 0 _ _ _ (.slice oC cs.length pC) HBv2_17.out; simpa using h
 clear hb17 HBv1_17 HBv2_17 HBv3_17 ER_17 hW18
 obtain ⟨w19, hW19⟩ := exq ((w18).setCell ⟨qv2, 1, none⟩ (.slice oP ws.length pP))
 rw [← hW19]
 have hb19 : Below w.heap.size w (w19) := by rw [hW19]; exact (hb18.setCell (p := ⟨qv2, 1, none⟩) HGv2.out _)
 have HBv1_19 := hset hW19 HNv1v2.out HBv1_18
 have HBv3_19 := hset hW19 HNv2v3.out.symm HBv3_18
 have ER_19 : Hid (RowsO (w19) w.heap.size (((shAll (.slice oC cs.length pC) (.slice oP ws.length pP) (.slice oK kv.length pK) (.slice oB bl.length pB) kv cs ws bl ++ flAll (.slice oF fv.length pF) fv) ++ seAll (.slice oE ev.length pE) ev) ++ rpAll (.slice oR rv.length pR) rv)) := by show RowsO _ _ _; rw [hW19]; exact RowsO.other ER_18.out HBv2_18.out HT3.out
 have HBv2_19 : Hid ((w19).heap[qv2]? = some (.cells #[.slice oC cs.length pC, .slice oP ws.length pP, .slice none 0 0, .slice none 0 0, .int .i64 0, .int .i64 0, .slice none 0 0, .int .i64 0, .slice none 0 0, .slice none 0 0] 58)) := by show _ = _; rw [hW19]; have h := heap_set _ _ 1 _ _ _ (.slice oP ws.length pP) HBv2_18.out; simpa using h
 clear hb18 HBv1_18 HBv2_18 HBv3_18 ER_18 hW19
 obtain ⟨w20, hW20⟩ := exq ((w19).setCell ⟨qv2, 2, none⟩ (.slice oK kv.length pK))
 rw [← hW20]
 have hb20 : Below w.heap.size w (w20) := by rw [hW20]; exact (hb19.setCell (p := ⟨qv2, 2, none⟩) HGv2.out _)
 have HBv1_20 := hset hW20 HNv1v2.out HBv1_19
 have HBv3_20 := hset hW20 HNv2v3.out.symm HBv3_19
 have ER_20 : Hid (RowsO (w20) w.heap.size (((shAll (.slice oC cs.length pC) (.slice oP ws.length pP) (.slice oK kv.length pK) (.slice oB bl.length pB) kv cs ws bl ++ flAll (.slice oF fv.length pF) fv) ++ seAll (.slice oE ev.length pE) ev) ++ rpAll (.slice oR rv.length pR) rv)) := by show RowsO _ _ _; rw [hW20]; exact RowsO.other ER_19.out HBv2_19.out HT3.out
 have HBv2_20 : Hid ((w20).heap[qv2]? = some (.cells #[.slice oC cs.length pC, .slice oP ws.length pP, .slice oK kv.length pK, .slice none 0 0, .int .i64 0, .int .i64 0, .slice none 0 0, .int .i64 0, .slice none 0 0, .slice none 0 0] 58)) := by show _ = _; rw [hW20]; have h := heap_set _ _ 2 _ _ _ (.slice oK kv.length pK) HBv2_19.out; simpa using h
 clear hb19 HBv1_19 HBv2_19 HBv3_19 ER_19 hW20
 obtain ⟨w21, hW21⟩ := exq ((w20).setCell ⟨qv2, 3, none⟩ (.slice oB bl.length pB))
 rw [← hW21]
 have hb21 : Below w.heap.size w (w21) := by rw [hW21]; exact (hb20.setCell (p := ⟨qv2, 3, none⟩) HGv2.out _)
 have HBv1_21 := hset hW21 HNv1v2.out HBv1_20
 have HBv3_21 := hset hW21 HNv2v3.out.symm HBv3_20
 have ER_21 : Hid (RowsO (w21) w.heap.size (((shAll (.slice oC cs.length pC) (.slice oP ws.length pP) (.slice oK kv.length pK) (.slice oB bl.length pB) kv cs ws bl ++ flAll (.slice oF fv.length pF) fv) ++ seAll (.slice oE ev.length pE) ev) ++ rpAll (.slice oR rv.length pR) rv)) := by show RowsO _ _ _; rw [hW21]; exact RowsO.other ER_20.out HBv2_20.out HT3.out
 have HBv2_21 : Hid ((w21).heap[qv2]? = some (.cells #[.slice oC cs.length pC, .slice oP ws.length pP, .slice oK kv.length pK, .slice oB bl.length pB, .int .i64 0, .int .i64 0, .slice none 0 0, .int .i64 0, .slice none 0 0, .slice none 0 0] 58)) := by show _ = _; rw [hW21]; have h := heap_set _ _ 3 _ _ _ (.slice oB bl.length pB) HBv2_20.out; simpa using h
 clear hb20 HBv1_20 HBv2_20 HBv3_20 ER_20 hW21
 obtain ⟨w22, hW22⟩ := exq ((w21).setCell ⟨qv2, 4, none⟩ (.int .i64 nx))
 rw [← hW22]
 have hb22 : Below w.heap.size w (w22) := by rw [hW22]; exact (hb21.setCell (p := ⟨qv2, 4, none⟩) HGv2.out _)
 have HBv1_22 := hset hW22 HNv1v2.out HBv1_21
 have HBv3_22 := hset hW22 HNv2v3.out.symm HBv3_21
 have ER_22 : Hid (RowsO (w22) w.heap.size (((shAll (.slice oC cs.length pC) (.slice oP ws.length pP) (.slice oK kv.length pK) (.slice oB bl.length pB) kv cs ws bl ++ flAll (.slice oF fv.length pF) fv) ++ seAll (.slice oE ev.length pE) ev) ++ rpAll (.slice oR rv.length pR) rv)) := by show RowsO _ _ _; rw [hW22]; exact RowsO.other ER_21.out HBv2_21.out HT3.out
 have HBv2_22 : Hid ((w22).heap[qv2]? = some (.cells #[.slice oC cs.length pC, .slice oP ws.length pP, .slice oK kv.length pK, .slice oB bl.length pB, .int .i64 nx, .int .i64 0, .slice none 0 0, .int .i64 0, .slice none 0 0, .slice none 0 0] 58)) := by show _ = _; rw [hW22]; have h := heap_set _ _ 4 _ _ _ (.int .i64 nx) HBv2_21.out; simpa using h
 clear hb21 HBv1_21 HBv2_21 HBv3_21 ER_21 hW22
 obtain ⟨w23, hW23⟩ := exq ((w22).setCell ⟨qv2, 5, none⟩ (.int .i64 sq))
 rw [← hW23]
 have hb23 : Below w.heap.size w (w23) := by rw [hW23]; exact (hb22.setCell (p := ⟨qv2, 5, none⟩) HGv2.out _)
 have HBv1_23 := hset hW23 HNv1v2.out HBv1_22
 have HBv3_23 := hset hW23 HNv2v3.out.symm HBv3_22
 have ER_23 : Hid (RowsO (w23) w.heap.size (((shAll (.slice oC cs.length pC) (.slice oP ws.length pP) (.slice oK kv.length pK) (.slice oB bl.length pB) kv cs ws bl ++ flAll (.slice oF fv.length pF) fv) ++ seAll (.slice oE ev.length pE) ev) ++ rpAll (.slice oR rv.length pR) rv)) := by show RowsO _ _ _; rw [hW23]; exact RowsO.other ER_22.out HBv2_22.out HT3.out
 have HBv2_23 : Hid ((w23).heap[qv2]? = some (.cells #[.slice oC cs.length pC, .slice oP ws.length pP, .slice oK kv.length pK, .slice oB bl.length pB, .int .i64 nx, .int .i64 sq, .slice none 0 0, .int .i64 0, .slice none 0 0, .slice none 0 0] 58)) := by show _ = _; rw [hW23]; have h := heap_set _ _ 5 _ _ _ (.int .i64 sq) HBv2_22.out; simpa using h
 clear hb22 HBv1_22 HBv2_22 HBv3_22 ER_22 hW23
 obtain ⟨w24, hW24⟩ := exq ((w23).setCell ⟨qv2, 6, none⟩ (.slice oF fv.length pF))
 rw [← hW24]
 have hb24 : Below w.heap.size w (w24) := by rw [hW24]; exact (hb23.setCell (p := ⟨qv2, 6, none⟩) HGv2.out _)
 have HBv1_24 := hset hW24 HNv1v2.out HBv1_23
 have HBv3_24 := hset hW24 HNv2v3.out.symm HBv3_23
 have ER_24 : Hid (RowsO (w24) w.heap.size (((shAll (.slice oC cs.length pC) (.slice oP ws.length pP) (.slice oK kv.length pK) (.slice oB bl.length pB) kv cs ws bl ++ flAll (.slice oF fv.length pF) fv) ++ seAll (.slice oE ev.length pE) ev) ++ rpAll (.slice oR rv.length pR) rv)) := by show RowsO _ _ _; rw [hW24]; exact RowsO.other ER_23.out HBv2_23.out HT3.out
 have HBv2_24 : Hid ((w24).heap[qv2]? = some (.cells #[.slice oC cs.length pC, .slice oP ws.length pP, .slice oK kv.length pK, .slice oB bl.length pB, .int .i64 nx, .int .i64 sq, .slice oF fv.length pF, .int .i64 0, .slice none 0 0, .slice none 0 0] 58)) := by show _ = _; rw [hW24]; have h := heap_set _ _ 6 _ _ _ (.slice oF fv.length pF) HBv2_23.out; simpa using h
 clear hb23 HBv1_23 HBv2_23 HBv3_23 ER_23 hW24
 obtain ⟨w25, hW25⟩ := exq ((w24).setCell ⟨qv2, 7, none⟩ (.int .i64 now))
 rw [← hW25]
 have hb25 : Below w.heap.size w (w25) := by rw [hW25]; exact (hb24.setCell (p := ⟨qv2, 7, none⟩) HGv2.out _)
 have HBv1_25 := hset hW25 HNv1v2.out HBv1_24
 have HBv3_25 := hset hW25 HNv2v3.out.symm HBv3_24
 have ER_25 : Hid (RowsO (w25) w.heap.size (((shAll (.slice oC cs.length pC) (.slice oP ws.length pP) (.slice oK kv.length pK) (.slice oB bl.length pB) kv cs ws bl ++ flAll (.slice oF fv.length pF) fv) ++ seAll (.slice oE ev.length pE) ev) ++ rpAll (.slice oR rv.length pR) rv)) := by show RowsO _ _ _; rw [hW25]; exact RowsO.other ER_24.out HBv2_24.out HT3.out
 have HBv2_25 : Hid ((w25).heap[qv2]? = some (.cells #[.slice oC cs.length pC, .slice oP ws.length pP, .slice oK kv.length pK, .slice oB bl.length pB, .int .i64 nx, .int .i64 sq, .slice oF fv.length pF, .int .i64 now, .slice none 0 0, .slice none 0 0] 58)) := by show _ = _; rw [hW25]; have h := heap_set _ _ 7 _ _ _ (.int .i64 now) HBv2_24.out; simpa using h
 clear hb24 HBv1_24 HBv2_24 HBv3_24 ER_24 hW25
 obtain ⟨w26, hW26⟩ := exq ((w25).setCell ⟨qv2, 8, none⟩ (.slice oE ev.length pE))
 rw [← hW26]
 have hb26 : Below w.heap.size w (w26) := by rw [hW26]; exact (hb25.setCell (p := ⟨qv2, 8, none⟩) HGv2.out _)
 have HBv1_26 := hset hW26 HNv1v2.out HBv1_25
 have HBv3_26 := hset hW26 HNv2v3.out.symm HBv3_25
 have ER_26 : Hid (RowsO (w26) w.heap.size (((shAll (.slice oC cs.length pC) (.slice oP ws.length pP) (.slice oK kv.length pK) (.slice oB bl.length pB) kv cs ws bl ++ flAll (.slice oF fv.length pF) fv) ++ seAll (.slice oE ev.length pE) ev) ++ rpAll (.slice oR rv.length pR) rv)) := by show RowsO _ _ _; rw [hW26]; exact RowsO.other ER_25.out HBv2_25.out HT3.out
 have HBv2_26 : Hid ((w26).heap[qv2]? = some (.cells #[.slice oC cs.length pC, .slice oP ws.length pP, .slice oK kv.length pK, .slice oB bl.length pB, .int .i64 nx, .int .i64 sq, .slice oF fv.length pF, .int .i64 now, .slice oE ev.length pE, .slice none 0 0] 58)) := by show _ = _; rw [hW26]; have h := heap_set _ _ 8 _ _ _ (.slice oE ev.length pE) HBv2_25.out; simpa using h
 clear hb25 HBv1_25 HBv2_25 HBv3_25 ER_25 hW26
 obtain ⟨w27, hW27⟩ := exq ((w26).setCell ⟨qv2, 9, none⟩ (.slice oR rv.length pR))
 rw [← hW27]
 have hb27 : Below w.heap.size w (w27) := by rw [hW27]; exact (hb26.setCell (p := ⟨qv2, 9, none⟩) HGv2.out _)
 have HBv1_27 := hset hW27 HNv1v2.out HBv1_26
 have HBv3_27 := hset hW27 HNv2v3.out.symm HBv3_26
 have ER_27 : Hid (RowsO (w27) w.heap.size (((shAll (.slice oC cs.length pC) (.slice oP ws.length pP) (.slice oK kv.length pK) (.slice oB bl.length pB) kv cs ws bl ++ flAll (.slice oF fv.length pF) fv) ++ seAll (.slice oE ev.length pE) ev) ++ rpAll (.slice oR rv.length pR) rv)) := by show RowsO _ _ _; rw [hW27]; exact RowsO.other ER_26.out HBv2_26.out HT3.out
 have HBv2_27 : Hid ((w27).heap[qv2]? = some (.cells #[.slice oC cs.length pC, .slice oP ws.length pP, .slice oK kv.length pK, .slice oB bl.length pB, .int .i64 nx, .int .i64 sq, .slice oF fv.length pF, .int .i64 now, .slice oE ev.length pE, .slice oR rv.length pR] 58)) := by show _ = _; rw [hW27]; have h := heap_set _ _ 9 _ _ _ (.slice oR rv.length pR) HBv2_26.out; simpa using h
 clear hb26 HBv1_26 HBv2_26 HBv3_26 ER_26 hW27
 have kv2_0 := (k10c HBv2_27).1
 have kv2_1 := (k10c HBv2_27).2.1
 have kv2_2 := (k10c HBv2_27).2.2.1
 have kv2_3 := (k10c HBv2_27).2.2.2.1
 have kv2_4 := (k10c HBv2_27).2.2.2.2.1
 have kv2_5 := (k10c HBv2_27).2.2.2.2.2.1
 have kv2_6 := (k10c HBv2_27).2.2.2.2.2.2.1
 have kv2_7 := (k10c HBv2_27).2.2.2.2.2.2.2.1
 have kv2_8 := (k10c HBv2_27).2.2.2.2.2.2.2.2.1
 have kv2_9 := (k10c HBv2_27).2.2.2.2.2.2.2.2.2
 refine bodyPost_ret (v := .agg #[.slice oC cs.length pC, .slice oP ws.length pP, .slice oK kv.length pK, .slice oB bl.length pB, .int .i64 nx, .int .i64 sq, .slice oF fv.length pF, .int .i64 now, .slice oE ev.length pE, .slice oR rv.length pR]) (by simp [results, Tryz.results9, go_sem, kv2_0, kv2_1, kv2_2, kv2_3, kv2_4, kv2_5, kv2_6, kv2_7, kv2_8, kv2_9]) rfl ?_
 exact ⟨_, _, _, _, _, _, _, kv, fv, ev, rv, rfl, ⟨ER_27.out, HKM.out, HFM.out, HEM.out, HRM.out⟩, hb27⟩
/-- A cache's measure: negative, or what is left of L. -/
def SzCache (L : Int) (n1 : Nat) (cs : List ByteArray) (n2 : Nat) (ws : List (Int × ByteArray)) (ks : List KpD) (n4 : Nat) (bl : List (Int × ByteArray × ByteArray × Int)) (fl : List FlD) (se : List SeD) (sn : List RpD) (w : World) (e : Ending) (w' : World) : Prop :=
 ∃ r : Int, e = .returned (.int .i64 r) ∧ r ≤ L ∧ (0 ≤ r → r + (n1 : Int) + (n2 : Int) + (wtK ks : Int) + (n4 : Int) + (wtFl fl : Int) + (wtSe se : Int) + (wtRp sn : Int) ≤ L ∧ ((n1 ≤ 1048576 ∧ ∀ i, i < n1 → (textAt cs i).size ≤ 1048576) ∧ (n2 ≤ 1048576 ∧ ∀ x ∈ ws, (x.2).size ≤ 1048576) ∧ (∀ k ∈ ks, KpSmall k) ∧ (n4 ≤ 1048576 ∧ ∀ x ∈ bl, (x.2.1).size ≤ 1048576 ∧ (x.2.2.1).size ≤ 1048576)) ∧ (∀ k ∈ fl, FlSmall k) ∧ (∀ k ∈ se, SeSmall k) ∧ ∀ k ∈ sn, RpSmall k) ∧ Below w.heap.size w w'
theorem szCache_any (L : Int) (hL0 : 0 ≤ L) (hL1 : L ≤ 1048576) (a1 : Option Addr) (n1 c1 : Nat) (cs : List ByteArray) (a2 : Option Addr) (n2 c2 : Nat) (ws : List (Int × ByteArray)) (a3 : Option Addr) (n3 c3 : Nat) (ks : List KpD) (a4 : Option Addr) (n4 c4 : Nat) (bl : List (Int × ByteArray × ByteArray × Int)) (nx sq : Int) (a5 : Option Addr) (n5 c5 : Nat) (fl : List FlD) (now : Int) (a6 : Option Addr) (n6 c6 : Nat) (se : List SeD) (a7 : Option Addr) (n7 c7 : Nat) (sn : List RpD) (B : Nat) (w : World) (h1 : ArgT w B a1 n1 cs) (h2 : ArgWrite w B a2 n2 ws) (h3 : ArgKept w B a3 n3 ks) (h4 : ArgBan w B a4 n4 bl) (h5 : ArgFlight w B a5 n5 fl) (h6 : ArgSeen w B a6 n6 se) (h7 : ArgReply w B a7 n7 sn) (hB : B ≤ w.heap.size) (hm : (n1 ≤ maxLen ∧ n2 ≤ maxLen ∧ n3 ≤ maxLen ∧ n4 ≤ maxLen ∧ (∀ i, i < n1 → (textAt cs i).size ≤ maxLen) ∧ (∀ x ∈ ws, (x.2).size ≤ maxLen) ∧ (∀ k ∈ ks, KpMax k) ∧ ∀ x ∈ bl, (x.2.1).size ≤ maxLen ∧ (x.2.2.1).size ≤ maxLen) ∧ (n5 ≤ maxLen ∧ ∀ k ∈ fl, FlMax k) ∧ (n6 ≤ maxLen ∧ ∀ k ∈ se, SeMax k) ∧ n7 ≤ maxLen ∧ ∀ k ∈ sn, RpMax k) :
  Calls Tryz.prog 6 #[.agg #[.slice a1 n1 c1, .slice a2 n2 c2, .slice a3 n3 c3, .slice a4 n4 c4, .int .i64 nx, .int .i64 sq, .slice a5 n5 c5, .int .i64 now, .slice a6 n6 c6, .slice a7 n7 c7], .int .i64 L] w fun e w' => SzCache L n1 cs n2 ws ks n4 bl fl se sn w e w' := by
 have HA1 : Hid (∀ W, Below w.heap.size w W → ArgT W B a1 n1 cs) := fun W h => h1.below (h.mono hB)
 have HA2 : Hid (∀ W, Below w.heap.size w W → ArgWrite W B a2 n2 ws) := fun W h => h2.below (h.mono hB)
 have HA3 : Hid (∀ W, Below w.heap.size w W → ArgKept W B a3 n3 ks) := fun W h => h3.below (h.mono hB)
 have HA4 : Hid (∀ W, Below w.heap.size w W → ArgBan W B a4 n4 bl) := fun W h => h4.below (h.mono hB)
 have HA5 : Hid (∀ W, Below w.heap.size w W → ArgFlight W B a5 n5 fl) := fun W h => h5.below (h.mono hB)
 have HA6 : Hid (∀ W, Below w.heap.size w W → ArgSeen W B a6 n6 se) := fun W h => h6.below (h.mono hB)
 have HA7 : Hid (∀ W, Below w.heap.size w W → ArgReply W B a7 n7 sn) := fun W h => h7.below (h.mono hB)
 have HBB : Hid (∀ W, Below w.heap.size w W → B ≤ W.heap.size) := fun W h => Nat.le_trans hB h.size
 have HM : Hid ((n1 ≤ maxLen ∧ n2 ≤ maxLen ∧ n3 ≤ maxLen ∧ n4 ≤ maxLen ∧ (∀ i, i < n1 → (textAt cs i).size ≤ maxLen) ∧ (∀ x ∈ ws, (x.2).size ≤ maxLen) ∧ (∀ k ∈ ks, KpMax k) ∧ ∀ x ∈ bl, (x.2.1).size ≤ maxLen ∧ (x.2.2.1).size ≤ maxLen) ∧ (n5 ≤ maxLen ∧ ∀ k ∈ fl, FlMax k) ∧ (n6 ≤ maxLen ∧ ∀ k ∈ se, SeMax k) ∧ n7 ≤ maxLen ∧ ∀ k ∈ sn, RpMax k) := hm
 clear h1 h2 h3 h4 h5 h6 h7 hm hB
 have hb0 : Below w.heap.size w w := Below.refl _ _
 go_enter Tryz.func6, Tryz.ntmps6
 go_upto_region 1 with fail
 obtain ⟨qv1, hqv1⟩ := exq ((w).heap.size)
 obtain ⟨w1, hW1⟩ := exq ((w).alloc (.cells #[.slice a1 n1 c1, .slice a2 n2 c2, .slice a3 n3 c3, .slice a4 n4 c4, .int .i64 nx, .int .i64 sq, .slice a5 n5 c5, .int .i64 now, .slice a6 n6 c6, .slice a7 n7 c7] 34))
 have hz1 : (w).heap.size = qv1 := hqv1.symm
 first | rw [← hW1, ← hqv1] | rw [← hW1]
 have hs1 := hsa hW1 hz1
 have bw := bal hW1
 have hb1 := hbt hb0 bw
 have HBv1_1 := hnew hW1 hz1
 clear hb0 bw hW1 hz1
 clear hs1 hqv1
 have cv1_0 := (k10c HBv1_1).1
 have cv1_1 := (k10c HBv1_1).2.1
 have cv1_2 := (k10c HBv1_1).2.2.1
 have cv1_3 := (k10c HBv1_1).2.2.2.1
 have cv1_4 := (k10c HBv1_1).2.2.2.2.1
 have cv1_5 := (k10c HBv1_1).2.2.2.2.2.1
 go_wp2_with fail
 refine (szShelf_any L (by omega) (by omega) a1 n1 c1 cs a2 n2 c2 ws a3 n3 c3 ks a4 n4 c4 bl nx sq B _ (HA1.out _ hb1) (HA2.out _ hb1) (HA3.out _ hb1) (HA4.out _ hb1) (HBB.out _ hb1) HM.out.1).mono ?_
 rintro e w2 ⟨r1, rfl, hl1, hr1, bw⟩
 have hb2 := hbt hb1 bw
 have HBv1_2 := hblk HBv1_1 bw
 clear hb1 HBv1_1 bw
 clear cv1_0 cv1_1 cv1_2 cv1_3 cv1_4 cv1_5
 by_cases hc1 : r1 < 0
 ·
  clear hr1
  go_wp2_with fail
  go_ret
  exact ⟨-1, rfl, by omega, fun h => absurd h (by omega), hb2⟩
 ·
  have HR1 : Hid _ := hr1 (by omega)
  clear hr1
  have mr1 := HR1.out.1
  have cv1_6 := (k10c HBv1_2).2.2.2.2.2.2.1
  go_wp2_with fail
  refine (szFlightS_any r1 (by omega) (by omega) B a5 n5 c5 fl _ (HA5.out _ hb2) (HBB.out _ hb2) HM.out.2.1.1 HM.out.2.1.2).mono ?_
  rintro e w3 ⟨r2, rfl, hl2, hr2, bw⟩
  have hb3 := hbt hb2 bw
  have HBv1_3 := hblk HBv1_2 bw
  clear hb2 HBv1_2 bw
  clear cv1_6
  by_cases hc2 : r2 < 0
  ·
   clear hr2
   go_wp2_with fail
   go_ret
   exact ⟨-1, rfl, by omega, fun h => absurd h (by omega), hb3⟩
  ·
   have HR2 : Hid _ := hr2 (by omega)
   clear hr2
   have mr2 := HR2.out.1
   have cv1_8 := (k10c HBv1_3).2.2.2.2.2.2.2.2.1
   go_wp2_with fail
   refine (szSeenS_any r2 (by omega) (by omega) B a6 n6 c6 se _ (HA6.out _ hb3) (HBB.out _ hb3) HM.out.2.2.1.1 HM.out.2.2.1.2).mono ?_
   rintro e w4 ⟨r3, rfl, hl3, hr3, bw⟩
   have hb4 := hbt hb3 bw
   have HBv1_4 := hblk HBv1_3 bw
   clear hb3 HBv1_3 bw
   clear cv1_8
   by_cases hc3 : r3 < 0
   ·
    clear hr3
    go_wp2_with fail
    go_ret
    exact ⟨-1, rfl, by omega, fun h => absurd h (by omega), hb4⟩
   ·
    have HR3 : Hid _ := hr3 (by omega)
    clear hr3
    have mr3 := HR3.out.1
    have cv1_9 := (k10c HBv1_4).2.2.2.2.2.2.2.2.2
    go_wp2_with fail
    refine (szReplyS_any r3 (by omega) (by omega) B a7 n7 c7 sn _ (HA7.out _ hb4) (HBB.out _ hb4) HM.out.2.2.2.1 HM.out.2.2.2.2).mono ?_
    rintro e w5 ⟨r4, rfl, hl4, hr4, bw⟩
    have hb5 := hbt hb4 bw
    have HBv1_5 := hblk HBv1_4 bw
    clear hb4 HBv1_4 bw
    clear cv1_9
    by_cases hc4 : r4 < 0
    ·
     clear hr4
     go_wp2_with fail
     go_ret
     exact ⟨-1, rfl, by omega, fun h => absurd h (by omega), hb5⟩
    ·
     have HR4 : Hid _ := hr4 (by omega)
     clear hr4
     have mr4 := HR4.out.1
     go_wp2_with fail
     go_ret
     exact ⟨r4, rfl, by omega, fun _ => ⟨by omega, HR1.out.2, HR2.out.2, HR3.out.2, HR4.out.2⟩, hb5⟩
/-- A cache of bounded size. -/
structure CaLim (y : CaD) : Prop where
 c : y.s.cs.length ≤ 2000000
 w : y.s.ws.length ≤ 2000000
 k : y.s.ks.length ≤ 2000000
 b : y.s.bl.length ≤ 2000000
 ks : ∀ k ∈ y.s.ks, k.xs.length ≤ 2000000 ∧ k.ys.length ≤ 2000000 ∧ k.fs.length ≤ 2000000
 nfl : y.fl.length ≤ 2000000
 nse : y.se.length ≤ 2000000
 nsn : y.sn.length ≤ 2000000
 fl : ∀ k ∈ y.fl, FlLim k
 se : ∀ k ∈ y.se, SeLim k
 sn : ∀ k ∈ y.sn, RpLim k
theorem eqCache_any (c : CaD) (x1 x2 x3 x4 x5 x6 x7 y1 y2 y3 y4 y5 y6 y7 : Value) (kvx kvy : List (KpD × Value × Value × Value)) (fvx fvy : List FlV) (evx evy : List SeV) (rvx rvy : List RpV) (Bx By : Nat) (w : World) (hx : CacheO (w) Bx x1 x2 x3 x4 x5 x6 x7 kvx fvx evx rvx c) (hy : CacheO (w) By y1 y2 y3 y4 y5 y6 y7 kvy fvy evy rvy c) (hl : CaLim c) :
  Calls Tryz.prog 12 #[.agg #[x1, x2, x3, x4, .int .i64 c.s.nx, .int .i64 c.s.sq, x5, .int .i64 c.now, x6, x7], .agg #[y1, y2, y3, y4, .int .i64 c.s.nx, .int .i64 c.s.sq, y5, .int .i64 c.now, y6, y7]] w fun e w' => e = .returned (.bool true) ∧ Below w.heap.size w w' := by
 have HLM : Hid (CaLim c) := hl
 have Ex_0 : Hid (CacheO (w) Bx x1 x2 x3 x4 x5 x6 x7 kvx fvx evx rvx c) := hx
 have Ey_0 : Hid (CacheO (w) By y1 y2 y3 y4 y5 y6 y7 kvy fvy evy rvy c) := hy
 clear hx hy hl
 have hnw : (c.now != c.now) = false := by simp
 have hb0 : Below w.heap.size w w := Below.refl _ _
 go_enter Tryz.func12, Tryz.ntmps12
 go_upto_region 1 with fail
 obtain ⟨qv1, hqv1⟩ := exq ((w).heap.size)
 obtain ⟨w1, hW1⟩ := exq ((w).alloc (.cells #[x1, x2, x3, x4, .int .i64 c.s.nx, .int .i64 c.s.sq, x5, .int .i64 c.now, x6, x7] 58))
 have hz1 : (w).heap.size = qv1 := hqv1.symm
 first | rw [← hW1, ← hqv1] | rw [← hW1]
 have hs1 := hsa hW1 hz1
 have bw := bal hW1
 have hb1 := hbt hb0 bw
 have Ex_1 : Hid (CacheO (w1) Bx x1 x2 x3 x4 x5 x6 x7 kvx fvx evx rvx c) := Ex_0.out.below bw
 have Ey_1 : Hid (CacheO (w1) By y1 y2 y3 y4 y5 y6 y7 kvy fvy evy rvy c) := Ey_0.out.below bw
 have HBv1_1 := hnew hW1 hz1
 clear hb0 Ex_0 Ey_0 bw hW1 hz1
 obtain ⟨qv2, hqv2⟩ := exq (qv1 + 1)
 obtain ⟨w2, hW2⟩ := exq ((w1).alloc (.cells #[y1, y2, y3, y4, .int .i64 c.s.nx, .int .i64 c.s.sq, y5, .int .i64 c.now, y6, y7] 58))
 have hz2 : (w1).heap.size = qv2 := by rw [hqv2]; exact hs1
 first | rw [← hW2, ← hqv2] | rw [← hW2]
 have hs2 := hsa hW2 hz2
 have bw := bal hW2
 have hb2 := hbt hb1 bw
 have HBv1_2 := hblk HBv1_1 bw
 have Ex_2 : Hid (CacheO (w2) Bx x1 x2 x3 x4 x5 x6 x7 kvx fvx evx rvx c) := Ex_1.out.below bw
 have Ey_2 : Hid (CacheO (w2) By y1 y2 y3 y4 y5 y6 y7 kvy fvy evy rvy c) := Ey_1.out.below bw
 have HBv2_2 := hnew hW2 hz2
 clear hb1 HBv1_1 Ex_1 Ey_1 bw hW2 hz2
 clear hs2 hqv2 hs1 hqv1
 have cv1_0 := (k10c HBv1_2).1
 have cv1_1 := (k10c HBv1_2).2.1
 have cv1_2 := (k10c HBv1_2).2.2.1
 have cv1_3 := (k10c HBv1_2).2.2.2.1
 have cv1_4 := (k10c HBv1_2).2.2.2.2.1
 have cv1_5 := (k10c HBv1_2).2.2.2.2.2.1
 have cv2_0 := (k10c HBv2_2).1
 have cv2_1 := (k10c HBv2_2).2.1
 have cv2_2 := (k10c HBv2_2).2.2.1
 have cv2_3 := (k10c HBv2_2).2.2.2.1
 have cv2_4 := (k10c HBv2_2).2.2.2.2.1
 have cv2_5 := (k10c HBv2_2).2.2.2.2.2.1
 go_wp2_with fail
 refine (eqShelf_any c.s _ _ _ _ _ _ _ _ kvx kvy Bx By _ Ex_2.out.shelf Ey_2.out.shelf HLM.out.c HLM.out.w HLM.out.k HLM.out.b HLM.out.ks).mono ?_
 rintro e w3 ⟨rfl, bw⟩
 have hb3 := hbt hb2 bw
 have HBv1_3 := hblk HBv1_2 bw
 have HBv2_3 := hblk HBv2_2 bw
 have Ex_3 : Hid (CacheO (w3) Bx x1 x2 x3 x4 x5 x6 x7 kvx fvx evx rvx c) := Ex_2.out.below bw
 have Ey_3 : Hid (CacheO (w3) By y1 y2 y3 y4 y5 y6 y7 kvy fvy evy rvy c) := Ey_2.out.below bw
 clear hb2 HBv1_2 HBv2_2 Ex_2 Ey_2 bw
 clear cv1_0 cv1_1 cv1_2 cv1_3 cv1_4 cv1_5 cv2_0 cv2_1 cv2_2 cv2_3 cv2_4 cv2_5
 have cv1_6 := (k10c HBv1_3).2.2.2.2.2.2.1
 have cv2_6 := (k10c HBv2_3).2.2.2.2.2.2.1
 go_wp2_with fail
 refine (eqFlightS_any _ _ fvx fvy Bx By _ (Ex_3.out.hf.trans Ey_3.out.hf.symm) Ex_3.out.fls Ey_3.out.fls (by rw [← List.length_map (f := (·.d)), Ex_3.out.hf]; exact HLM.out.nfl) (fun x hx => HLM.out.fl x.d (by rw [← Ex_3.out.hf]; exact List.mem_map.2 ⟨x, hx, rfl⟩))).mono ?_
 rintro e w4 ⟨rfl, bw⟩
 have hb4 := hbt hb3 bw
 have HBv1_4 := hblk HBv1_3 bw
 have HBv2_4 := hblk HBv2_3 bw
 have Ex_4 : Hid (CacheO (w4) Bx x1 x2 x3 x4 x5 x6 x7 kvx fvx evx rvx c) := Ex_3.out.below bw
 have Ey_4 : Hid (CacheO (w4) By y1 y2 y3 y4 y5 y6 y7 kvy fvy evy rvy c) := Ey_3.out.below bw
 clear hb3 HBv1_3 HBv2_3 Ex_3 Ey_3 bw
 clear cv1_6 cv2_6
 have cv1_7 := (k10c HBv1_4).2.2.2.2.2.2.2.1
 have cv2_7 := (k10c HBv2_4).2.2.2.2.2.2.2.1
 have cv1_8 := (k10c HBv1_4).2.2.2.2.2.2.2.2.1
 have cv2_8 := (k10c HBv2_4).2.2.2.2.2.2.2.2.1
 go_wp2_with fail
 refine (eqSeenS_any _ _ evx evy Bx By _ (Ex_4.out.he.trans Ey_4.out.he.symm) Ex_4.out.ses Ey_4.out.ses (by rw [← List.length_map (f := (·.d)), Ex_4.out.he]; exact HLM.out.nse) (fun x hx => HLM.out.se x.d (by rw [← Ex_4.out.he]; exact List.mem_map.2 ⟨x, hx, rfl⟩))).mono ?_
 rintro e w5 ⟨rfl, bw⟩
 have hb5 := hbt hb4 bw
 have HBv1_5 := hblk HBv1_4 bw
 have HBv2_5 := hblk HBv2_4 bw
 have Ex_5 : Hid (CacheO (w5) Bx x1 x2 x3 x4 x5 x6 x7 kvx fvx evx rvx c) := Ex_4.out.below bw
 have Ey_5 : Hid (CacheO (w5) By y1 y2 y3 y4 y5 y6 y7 kvy fvy evy rvy c) := Ey_4.out.below bw
 clear hb4 HBv1_4 HBv2_4 Ex_4 Ey_4 bw
 clear cv1_7 cv2_7 cv1_8 cv2_8
 have cv1_9 := (k10c HBv1_5).2.2.2.2.2.2.2.2.2
 have cv2_9 := (k10c HBv2_5).2.2.2.2.2.2.2.2.2
 go_wp2_with fail
 refine (eqReplyS_any _ _ rvx rvy Bx By _ (Ex_5.out.hr.trans Ey_5.out.hr.symm) Ex_5.out.rps Ey_5.out.rps (by rw [← List.length_map (f := (·.d)), Ex_5.out.hr]; exact HLM.out.nsn) (fun x hx => HLM.out.sn x.d (by rw [← Ex_5.out.hr]; exact List.mem_map.2 ⟨x, hx, rfl⟩))).mono ?_
 rintro e w6 ⟨rfl, bw⟩
 have hb6 := hbt hb5 bw
 have HBv1_6 := hblk HBv1_5 bw
 have HBv2_6 := hblk HBv2_5 bw
 have Ex_6 : Hid (CacheO (w6) Bx x1 x2 x3 x4 x5 x6 x7 kvx fvx evx rvx c) := Ex_5.out.below bw
 have Ey_6 : Hid (CacheO (w6) By y1 y2 y3 y4 y5 y6 y7 kvy fvy evy rvy c) := Ey_5.out.below bw
 clear hb5 HBv1_5 HBv2_5 Ex_5 Ey_5 bw
 clear cv1_9 cv2_9
 go_wp2_with fail
 go_ret
 exact ⟨rfl, hb6⟩
end Go.Proofs.YtbmhonfgffjpcaaGreat
namespace Go.Proofs.YtbmhonfgffjpcaaGreat
open Go.RowKit
open Go.Lib hiding intOf
/-- One of a list, with its slices. -/
def kvAt (kv : List (KpD × Value × Value × Value)) (i : Nat) : KpD × Value × Value × Value := kv.getD i (zeroK, .slice none 0 0, .slice none 0 0, .slice none 0 0)
theorem kvAt_get (kv : List (KpD × Value × Value × Value)) (i : Nat) (h : i < kv.length) : kv[i]'h = kvAt kv i := by
 unfold kvAt
 rw [List.getD_eq_getElem?_getD, List.getElem?_eq_getElem h]
 rfl
theorem kvAt_mem (kv : List (KpD × Value × Value × Value)) (i : Nat) (h : i < kv.length) : kvAt kv i ∈ kv := by rw [← kvAt_get kv i h]; exact List.getElem_mem h
theorem kvAt_take (kv : List (KpD × Value × Value × Value)) (i : Nat) (h : i < kv.length) : kv.take (i + 1) = kv.take i ++ [kvAt kv i] := by rw [← kvAt_get kv i h, List.take_succ_eq_append_getElem h]
theorem kvAt_fst (kv : List (KpD × Value × Value × Value)) (i : Nat) (h : i < kv.length) : (kvAt kv i).1 = kpAt (kv.map (·.1)) i := by
 rw [← kvAt_get kv i h, ← kpAt_get _ i (by rw [List.length_map]; exact h)]
 simp
/-- One that is kept can be read. -/
def KpRead (w : World) (k : KpD) (v1 v2 v3 : Value) : Prop := ∃ B, RowsO w B (kpR (k, v1, v2, v3))
theorem KpRead.below {w w' : World} {k : KpD} {v1 v2 v3 : Value} (h : KpRead w k v1 v2 v3) (hb : Below w.heap.size w w') : KpRead w' k v1 v2 v3 := by
 obtain ⟨B, h⟩ := h
 exact ⟨B, h.below hb⟩
theorem KeptsO.read {w : World} {base : Nat} {V : Value} {kv : List (KpD × Value × Value × Value)} (h : KeptsO w base V kv) {k : KpD} {v1 v2 v3 : Value} (hx : (k, v1, v2, v3) ∈ kv) : KpRead w k v1 v2 v3 := ⟨base, h.obj hx⟩
theorem KeptsO.look {w : World} {base : Nat} {V : Value} {kv : List (KpD × Value × Value × Value)} (h : KeptsO w base V kv) (i : Nat) (hi : i < kv.length) : ∃ g cap, V = .slice (some ⟨g, 0, none⟩) kv.length cap ∧ g < w.heap.size ∧ KpAt w g i (kvAt kv i) := by
 rw [← kvAt_get kv i hi]
 exact h.at i hi
theorem small_get {k : KpD} (h : KpSmall k) (x : ByteArray) : (getV k.fs x).size ≤ 1048576 := by
 unfold getV
 split
 ·
  rename_i hx
  have := szTo_get k.fs k.fs.length (atF k.fs x) hx
  have := h.2.2.2.2
  omega
 · decide
theorem small_copy {k : KpD} (h : KpSmall k) : CopyF k.fs := fun i hi => by
 have := szTo_get k.fs k.fs.length i hi
 have := h.2.2.2.2
 omega
theorem small_walk {k : KpD} (h : KpSmall k) : WalkF k.fs.length k.fs := fun i hi => by
 have := szTo_get k.fs k.fs.length i hi
 have := h.2.2.2.2
 unfold maxLen
 omega
theorem small_text {xs : List ByteArray} (h : ∀ i, i < xs.length → (textAt xs i).size ≤ 1048576) : ∀ i, i < xs.length → (textAt xs i).size ≤ maxLen := fun i hi => Nat.le_trans (h i hi) (by decide)
/-- ObjOk of one that is kept. -/
theorem specObjOk_k (k : KpD) (v1 v2 v3 : Value) (w : World) (h : KpRead w k v1 v2 v3) (hs : KpSmall k) :
  Calls Tryz.prog 82 #[.agg #[.string k.p, v1, v2, .int .i64 k.st, v3, .string k.b, .int .i64 k.t]] w fun e w' => BoolIs (ObjK k) w e w' := by
 obtain ⟨B, h⟩ := h
 have ho : ObjO w B v1 k.xs.length k.xs v2 k.ys.length k.ys v3 k.fs.length k.fs := rows_objO h
 obtain ⟨o1, c1, rfl⟩ := slice_of_owns ho.names
 obtain ⟨o2, c2, rfl⟩ := slice_of_owns ho.vals
 exact specObjOk_any k.p o1 _ c1 k.xs o2 _ c2 k.ys k.st v3 _ B k.fs k.b k.t w (texts_view ho.names) (texts_view ho.vals) (FieldsV.of_owns ho.flds) (by have := hs.2.1.1; omega) (by have := hs.2.2.1.1; omega) (by have := hs.2.2.2.1; omega) (small_text hs.2.1.2) (small_text hs.2.2.1.2) (small_walk hs) (by have := hs.1.1; unfold maxLen; omega) (by have := hs.1.2; unfold maxLen; omega) (small_get hs _)
/-- HitsAny of one that is kept. -/
theorem specHitsAny_k (oa : Option Addr) (n cap : Nat) (l : List (Int × ByteArray × ByteArray × Int)) (k : KpD) (v1 v2 v3 : Value) (w : World) (hl : BanA w oa n l) (hn : n ≤ 2000000) (hlz : ∀ x ∈ l, x.2.1.size ≤ maxLen ∧ x.2.2.1.size ≤ maxLen) (h : KpRead w k v1 v2 v3) (hs : KpSmall k) :
  Calls Tryz.prog 45 #[.slice oa n cap, .agg #[.string k.p, v1, v2, .int .i64 k.st, v3, .string k.b, .int .i64 k.t]] w fun e w' => BoolIs (AnyK l k) w e w' := by
 obtain ⟨B, h⟩ := h
 have ho : ObjO w B v1 k.xs.length k.xs v2 k.ys.length k.ys v3 k.fs.length k.fs := rows_objO h
 obtain ⟨o1, c1, rfl⟩ := slice_of_owns ho.names
 obtain ⟨o2, c2, rfl⟩ := slice_of_owns ho.vals
 exact specHitsAny_any oa n cap l k.p o1 _ c1 k.xs o2 _ c2 k.ys k.st v3 _ B k.fs k.b k.t w hl hn hlz (texts_view ho.names) (texts_view ho.vals) (FieldsV.of_owns ho.flds) (by have := hs.2.1.1; omega) (by have := hs.2.2.1.1; omega) (by have := hs.2.2.2.1; omega) (small_text hs.2.1.2) (small_text hs.2.2.1.2) (small_walk hs) (by have := hs.1.1; unfold maxLen; omega) (by have := hs.1.2; unfold maxLen; omega) (small_get hs _)
end Go.Proofs.YtbmhonfgffjpcaaGreat
namespace Go.Proofs.YtbmhonfgffjpcaaGreat
open Go.RowKit
open Go.Lib hiding intOf
theorem specDiskOk_len (o1 : Option Addr) (n1 c1 : Nat) (v2 : Value) (n2 : Nat) (ws : List (Int × ByteArray)) (B : Nat) (w : World) (h : w.ownsRow B 199 2 v2 n2 (flatWrite ws)) (hn2 : n2 ≤ 2000000) :
  Calls Tryz.prog 113 #[.agg #[.slice o1 n1 c1, v2]] w fun e w' => BoolIs (DiskN n1 ws) w e w' := by
 obtain ⟨oPx, pPx, rfl⟩ := slice_of_owns h
 have HOPx_0 : Hid ((w).ownsRow B 199 2 (.slice oPx n2 pPx) n2 (flatWrite ws)) := h
 have HPL : Hid (ws.length = n2) := write_len h
 clear h
 have hb0 : Below w.heap.size w w := Below.refl _ _
 go_enter Tryz.func113, Tryz.ntmps113
 go_upto_region 1 with fail
 obtain ⟨qv1, hqv1⟩ := exq ((w).heap.size)
 obtain ⟨w1, hW1⟩ := exq ((w).alloc (.cells #[.slice o1 n1 c1, .slice oPx n2 pPx] 49))
 have hz1 : (w).heap.size = qv1 := hqv1.symm
 first | rw [← hW1, ← hqv1] | rw [← hW1]
 have hs1 := hsa hW1 hz1
 have bw := bal hW1
 have hb1 := hbt hb0 bw
 have HOPx_1 := hown HOPx_0 bw
 have HBv1_1 := hnew hW1 hz1
 clear hb0 HOPx_0 bw hW1 hz1
 clear hs1 hqv1
 go_wp2_with fail
 go_loopw [3] (fun i wr => ∃ j : Nat, j ≤ n2 ∧ i = .int .i64 (j : Int) ∧ Hid (Below w.heap.size w (wr) ∧ (wr).heap[qv1]? = some (.cells #[.slice o1 n1 c1, .slice oPx n2 pPx] 49) ∧ (wr).ownsRow B 199 2 (.slice oPx n2 pPx) n2 (flatWrite ws)) ∧ Hid (∀ x ∈ ws.take j, 0 ≤ x.1 ∧ x.1 ≤ 19)) (fun i _ => n2 - (intOf i).toNat)
 case atStart => exact ⟨0, Nat.zero_le _, rfl, ⟨hb1, HBv1_1.out, HOPx_1.out⟩, fun x hx => by simp at hx⟩
 case round =>
  obtain ⟨j, hj, rfl, HW, HN⟩ := hrel
  by_cases hlt : (j : Int) < (n2 : Int)
  ·
   have hb2 := HW.out.1
   have HBv1_2 : Hid ((wr).heap[qv1]? = some (.cells #[.slice o1 n1 c1, .slice oPx n2 pPx] 49)) := HW.out.2.1
   have HOPx_2 : Hid ((wr).ownsRow B 199 2 (.slice oPx n2 pPx) n2 (flatWrite ws)) := HW.out.2.2
   clear HW hb1 HOPx_1 HBv1_1
   have hjx : j < ws.length := by rw [HPL.out]; omega
   obtain ⟨g, rfl⟩ := owns_some HOPx_2.out (by omega)
   obtain ⟨y, hy⟩ := exq (writeAt ws j)
   have HM : Hid (y ∈ ws) := by show _ ∈ _; rw [hy]; exact writeAt_mem ws j hjx
   have HTK : Hid (ws.take (j + 1) = ws.take j ++ [y]) := by show _ = _; rw [hy]; exact take_writeAt ws j hjx
   have HYE : Hid (writeAt ws j = y) := hy.symm
   clear hy hjx
   obtain ⟨y0, y1⟩ := y
   have HELPx : Hid (∀ W : World, (W).ownsRow B 199 2 (.slice (some ⟨g, 0, none⟩) n2 pPx) n2 (flatWrite ws) → (W.cell? ⟨g, j * 2, none⟩ = some (.int .i64 y0) ∧ W.cell? ⟨g, j * 2 + 1, none⟩ = some (.string y1))) := fun W h => by
    obtain ⟨g', hg, _, r0, r1⟩ := (write_view h).2 j (by omega)
    cases hg
    rw [HYE.out] at r0 r1
    exact ⟨r0, r1⟩
   obtain ⟨r0, r1⟩ := HELPx.out _ HOPx_2.out
   have cv1_1 := (k2c HBv1_2).2
   go_wp2_with fail
   refine (l1In_any y0 0 19 _).mono ?_
   rintro e w3 ⟨rfl, hwe⟩
   have bw : Below (wr).heap.size (wr) w3 := by rw [hwe]; exact Below.refl _ _
   clear hwe
   obtain ⟨uy, huy⟩ : ∃ u, u = decide ((0 : Int) ≤ y0 ∧ y0 ≤ 19) := ⟨_, rfl⟩
   rw [← huy]
   have hb3 := hbt hb2 bw
   have HOPx_3 := hown HOPx_2 bw
   have HBv1_3 := hblk HBv1_2 bw
   clear hb2 HOPx_2 HBv1_2 bw
   clear cv1_1 r0 r1
   cases uy with
   | false =>
    have HNY : Hid (¬ (0 ≤ y0 ∧ y0 ≤ 19)) := (show ¬ (0 ≤ y0 ∧ y0 ≤ 19) from of_decide_eq_false huy.symm)
    clear huy
    go_wp2_with fail
    go_ret
    exact BoolIs.no (fun h => HNY.out (h.2.2 _ HM.out)) hb3
   | true =>
    have HY : Hid (0 ≤ y0 ∧ y0 ≤ 19) := (show (0 ≤ y0 ∧ y0 ≤ 19) from of_decide_eq_true huy.symm)
    clear huy
    have HN2 : Hid (∀ x ∈ ws.take (j + 1), 0 ≤ x.1 ∧ x.1 ≤ 19) := fun x hx => by
     rw [HTK.out] at hx
     rcases List.mem_append.1 hx with hx | hx
     · exact HN.out x hx
     · rw [List.mem_singleton.1 hx]; exact HY.out
    go_wp2_with fail
    go_roundw
    case rel => exact ⟨j + 1, by omega, by go_num, ⟨hb3, HBv1_3.out, HOPx_3.out⟩, HN2⟩
    case measure => simp [intOf]; omega
  ·
   have hb2 := HW.out.1
   have HBv1_2 : Hid ((wr).heap[qv1]? = some (.cells #[.slice o1 n1 c1, .slice oPx n2 pPx] 49)) := HW.out.2.1
   have HOPx_2 : Hid ((wr).ownsRow B 199 2 (.slice oPx n2 pPx) n2 (flatWrite ws)) := HW.out.2.2
   clear HW hb1 HOPx_1 HBv1_1
   have HAL : Hid (∀ x ∈ ws, 0 ≤ x.1 ∧ x.1 ≤ 19) := fun x hx => HN.out x (by rw [List.take_of_length_le (by rw [HPL.out]; omega)]; exact hx)
   clear HN
   have cv1_1 := (k2c HBv1_2).2
   by_cases hc1 : (n1 : Int) = 20
   ·
    have hc1b : (((n1 : Int) : Int) == (20 : Int)) = true := by simpa using hc1
    have hc1n : (((n1 : Int) : Int) != (20 : Int)) = false := by simpa using hc1
    have HE : Hid (n1 = 20) := (by have := hc1; show _ = _; omega)
    have hc1H : Hid ((n1 : Int) = 20) := hc1
    clear hc1
    have cv1_0 := (k2c HBv1_2).1
    by_cases hc2 : (n2 : Int) ≤ 16
    ·
     have HLE : Hid (n2 ≤ 16) := (by have := hc2; show _ ≤ _; omega)
     go_wp2_with fail
     go_ret
     exact ⟨true, rfl, ⟨fun _ => ⟨HE.out, by rw [HPL.out]; exact HLE.out, HAL.out⟩, fun _ => rfl⟩, hb2⟩
    ·
     have HLE : Hid (¬ n2 ≤ 16) := (by have := hc2; show ¬ _; omega)
     go_wp2_with fail
     go_ret
     exact BoolIs.no (fun h => HLE.out (by have := h.2.1; rw [HPL.out] at this; exact this)) hb2
   ·
    have hc1b : (((n1 : Int) : Int) == (20 : Int)) = false := by simpa using hc1
    have hc1n : (((n1 : Int) : Int) != (20 : Int)) = true := by simpa using hc1
    have HE : Hid (¬ n1 = 20) := (by have := hc1; show ¬ _; omega)
    have hc1H : Hid (¬ ((n1 : Int) = 20)) := hc1
    clear hc1
    have cv1_0 := (k2c HBv1_2).1
    go_wp2_with fail
    go_ret
    exact BoolIs.no (fun h => HE.out h.1) hb2
theorem specDiskOk_any (v1 v2 : Value) (n1 : Nat) (cs : List ByteArray) (n2 : Nat) (ws : List (Int × ByteArray)) (B : Nat) (w : World) (h : DiskO w B v1 n1 cs v2 n2 ws) (_hn1 : n1 ≤ 2000000) (hn2 : n2 ≤ 2000000) :
  Calls Tryz.prog 113 #[.agg #[v1, v2]] w fun e w' => BoolIs (DiskP cs ws) w e w' := by
 obtain ⟨oCx, pCx, rfl⟩ := slice_of_owns h.cells
 have hl : cs.length = n1 := by have := h.cells.1; rw [List.length_map] at this; omega
 refine (specDiskOk_len oCx n1 pCx v2 n2 ws B w h.pend hn2).mono fun e w' hq => ?_
 show BoolIs (DiskN cs.length ws) w e w'
 rw [hl]
 exact hq
end Go.Proofs.YtbmhonfgffjpcaaGreat
