/- What the proof of FnExactWaiting leans on: contracts of the program's and the specification's functions, and plain facts (part 5 of 6). -/
import Derived.Test.YtajccgffallajaaFnExactWaitingD
namespace Go.Proofs.Ytajccgffallajaa
open Go.RowKit
open Go.Lib hiding intOf

/-- One of a list that came in: its cells, and its lists. -/
def RpArg (w : World) (B b off i : Nat) (d : RpD) : Prop :=
  ∃ (a3 : Option Addr) (c3 : Nat) (a6 : Option Addr) (c6 : Nat) (a11 : Option Addr) (c11 : Nat) (a12 : Option Addr) (c12 : Nat) (a14 : Option Addr) (c14 : Nat), (w.cell? ⟨b, off + i * 18, none⟩ = some (.int .i64 d.cli) ∧ w.cell? ⟨b, off + i * 18 + 1, none⟩ = some (.int .i64 d.qmt) ∧ w.cell? ⟨b, off + i * 18 + 2, none⟩ = some (.string d.qpa) ∧ w.cell? ⟨b, off + i * 18 + 3, none⟩ = some (.slice a3 d.qfs.length c3) ∧ w.cell? ⟨b, off + i * 18 + 4, none⟩ = some (.string d.qbd) ∧ w.cell? ⟨b, off + i * 18 + 5, none⟩ = some (.int .i64 d.rst) ∧ w.cell? ⟨b, off + i * 18 + 6, none⟩ = some (.slice a6 d.rfs.length c6) ∧ w.cell? ⟨b, off + i * 18 + 7, none⟩ = some (.string d.rbd) ∧ w.cell? ⟨b, off + i * 18 + 8, none⟩ = some (.int .i64 d.knd) ∧ w.cell? ⟨b, off + i * 18 + 9, none⟩ = some (.int .i64 d.tim) ∧ w.cell? ⟨b, off + i * 18 + 10, none⟩ = some (.string d.opa) ∧ w.cell? ⟨b, off + i * 18 + 11, none⟩ = some (.slice a11 d.oxs.length c11) ∧ w.cell? ⟨b, off + i * 18 + 12, none⟩ = some (.slice a12 d.oys.length c12) ∧ w.cell? ⟨b, off + i * 18 + 13, none⟩ = some (.int .i64 d.ost) ∧ w.cell? ⟨b, off + i * 18 + 14, none⟩ = some (.slice a14 d.ofs.length c14) ∧ w.cell? ⟨b, off + i * 18 + 15, none⟩ = some (.string d.obd) ∧ w.cell? ⟨b, off + i * 18 + 16, none⟩ = some (.int .i64 d.otm) ∧ w.cell? ⟨b, off + i * 18 + 17, none⟩ = some (.int .i64 d.bns)) ∧ ArgF w B a3 d.qfs.length d.qfs ∧ ArgF w B a6 d.rfs.length d.rfs ∧ ArgT w B a11 d.oxs.length d.oxs ∧ ArgT w B a12 d.oys.length d.oys ∧ ArgF w B a14 d.ofs.length d.ofs
/-- A list that came in, in blocks below B. -/
def ArgReply (w : World) (B : Nat) (a : Option Addr) (n : Nat) (ks : List RpD) : Prop :=
  ks.length = n ∧ ∀ i, i < n → ∃ b off, a = some ⟨b, off, none⟩ ∧ b < B ∧ RpArg w B b off i (rpAt ks i)
theorem ArgReply.below {w w' : World} {B : Nat} {a : Option Addr} {n : Nat} {ks : List RpD} (h : ArgReply w B a n ks) (hb : Below B w w') : ArgReply w' B a n ks :=
  ⟨h.1, fun i hi => by
    obtain ⟨b, off, h1, h2, a3, c3, a6, c6, a11, c11, a12, c12, a14, c14, ⟨r0, r1, r2, r3, r4, r5, r6, r7, r8, r9, r10, r11, r12, r13, r14, r15, r16, r17⟩, g3, g6, g11, g12, g14⟩ := h.2 i hi
    exact ⟨b, off, h1, h2, a3, c3, a6, c6, a11, c11, a12, c12, a14, c14, ⟨by rw [hb.cell (p := ⟨b, off + i * 18, none⟩) h2]; exact r0, by rw [hb.cell (p := ⟨b, off + i * 18 + 1, none⟩) h2]; exact r1, by rw [hb.cell (p := ⟨b, off + i * 18 + 2, none⟩) h2]; exact r2, by rw [hb.cell (p := ⟨b, off + i * 18 + 3, none⟩) h2]; exact r3, by rw [hb.cell (p := ⟨b, off + i * 18 + 4, none⟩) h2]; exact r4, by rw [hb.cell (p := ⟨b, off + i * 18 + 5, none⟩) h2]; exact r5, by rw [hb.cell (p := ⟨b, off + i * 18 + 6, none⟩) h2]; exact r6, by rw [hb.cell (p := ⟨b, off + i * 18 + 7, none⟩) h2]; exact r7, by rw [hb.cell (p := ⟨b, off + i * 18 + 8, none⟩) h2]; exact r8, by rw [hb.cell (p := ⟨b, off + i * 18 + 9, none⟩) h2]; exact r9, by rw [hb.cell (p := ⟨b, off + i * 18 + 10, none⟩) h2]; exact r10, by rw [hb.cell (p := ⟨b, off + i * 18 + 11, none⟩) h2]; exact r11, by rw [hb.cell (p := ⟨b, off + i * 18 + 12, none⟩) h2]; exact r12, by rw [hb.cell (p := ⟨b, off + i * 18 + 13, none⟩) h2]; exact r13, by rw [hb.cell (p := ⟨b, off + i * 18 + 14, none⟩) h2]; exact r14, by rw [hb.cell (p := ⟨b, off + i * 18 + 15, none⟩) h2]; exact r15, by rw [hb.cell (p := ⟨b, off + i * 18 + 16, none⟩) h2]; exact r16, by rw [hb.cell (p := ⟨b, off + i * 18 + 17, none⟩) h2]; exact r17⟩, g3.below hb, g6.below hb, g11.below hb, g12.below hb, g14.below hb⟩⟩
/-- The measure is negative, or what is left of L. -/
def SzReplyS (L : Int) (ks : List RpD) (w : World) (e : Ending) (w' : World) : Prop :=
  ∃ r : Int, e = .returned (.int .i64 r) ∧ r ≤ L ∧ (0 ≤ r → r + (wtRp ks : Int) ≤ L ∧ ∀ k ∈ ks, RpSmall k) ∧ Below w.heap.size w w'

set_option maxHeartbeats 8000000 in
set_option maxRecDepth 100000 in
theorem szReplyS_any (L : Int) (hL0 : 0 ≤ L) (hL1 : L ≤ 1048576) (B : Nat) (a : Option Addr) (n cap : Nat) (ks : List RpD) (w : World) (harg : ArgReply w B a n ks) (hB : B ≤ w.heap.size) (hn : n ≤ maxLen) (hsz : ∀ k ∈ ks, RpMax k) :
    Calls Try.prog 19 #[.slice a n cap, .int .i64 L] w fun e w' => SzReplyS L ks w e w' := by
  unfold maxLen at hn
  have HS : Hid (∀ k ∈ ks, RpMax k) := hsz
  have HLN : Hid (ks.length = n) := harg.1
  have HA : Hid (∀ W, Below w.heap.size w W → ArgReply W B a n ks) := fun W h => harg.below (h.mono hB)
  have HBB : Hid (∀ W, Below w.heap.size w W → B ≤ W.heap.size) := fun W h => Nat.le_trans hB h.size
  clear hsz harg hB
  by_cases c1 : L - (n : Int) < 0
  · go_enter Try.func19, Try.ntmps19
    go_wp2
    go_ret
    exact ⟨-1, rfl, by omega, fun h => absurd h (by omega), Below.refl _ _⟩
  · go_enter Try.func19, Try.ntmps19
    go_wp2
    go_loopw [1, 5] (fun lf i wr => ∃ (k : Nat) (x : Int), k ≤ n ∧ i = .int .i64 (k : Int) ∧ lf = .int .i64 x ∧ 0 ≤ x ∧ x ≤ L ∧ Hid (x + (wtRp (ks.take k) : Int) + ((n : Int) - (k : Int)) ≤ L ∧ ∀ y ∈ ks.take k, RpSmall y) ∧ Hid (Below w.heap.size w wr)) (fun _ i _ => n - (intOf i).toNat)
    case atStart => exact ⟨0, _, Nat.zero_le _, rfl, rfl, by omega, by omega, ⟨by simp [wtRp], fun x hx => by simp at hx⟩, Below.refl _ _⟩
    case round =>
      obtain ⟨k, x, hk, rfl, rfl, hx0, hx1, HX, HBW⟩ := hrel
      by_cases hlt : k < n
      · have hlt2 : (k : Int) < (n : Int) := by omega
        obtain ⟨b, off, rfl, hbB, a3, c3, a6, c6, a11, c11, a12, c12, a14, c14, ⟨r0, r1, r2, r3, r4, r5, r6, r7, r8, r9, r10, r11, r12, r13, r14, r15, r16, r17⟩, g3, g6, g11, g12, g14⟩ := (HA.out wr HBW.out).2 k hlt
        obtain ⟨y, hy⟩ : ∃ y, y = rpAt ks k := ⟨_, rfl⟩
        have HM : Hid (y ∈ ks) := by show _ ∈ _; rw [hy]; exact getD_mem0 _ ks k (by rw [HLN.out]; exact hlt)
        have HTK : Hid (ks.take (k + 1) = ks.take k ++ [y]) := by show _ = _; rw [hy]; exact getD_take0 _ ks k (by rw [HLN.out]; exact hlt)
        rw [← hy] at r0 r1 r2 r3 r4 r5 r6 r7 r8 r9 r10 r11 r12 r13 r14 r15 r16 r17 g3 g6 g11 g12 g14
        have HG3 : Hid (ArgF wr B a3 y.qfs.length y.qfs) := g3
        have HG6 : Hid (ArgF wr B a6 y.rfs.length y.rfs) := g6
        have HG11 : Hid (ArgT wr B a11 y.oxs.length y.oxs) := g11
        have HG12 : Hid (ArgT wr B a12 y.oys.length y.oys) := g12
        have HG14 : Hid (ArgF wr B a14 y.ofs.length y.ofs) := g14
        clear hy g3 g6 g11 g12 g14
        have HIF : (Try.prog.info? 104).map (·.size) = some 18 := by kernel_rfl
        have HRG : World.rangeAt wr b (off + k * 18) [.int .i64 y.cli, .int .i64 y.qmt, .string y.qpa, .slice a3 y.qfs.length c3, .string y.qbd, .int .i64 y.rst, .slice a6 y.rfs.length c6, .string y.rbd, .int .i64 y.knd, .int .i64 y.tim, .string y.opa, .slice a11 y.oxs.length c11, .slice a12 y.oys.length c12, .int .i64 y.ost, .slice a14 y.ofs.length c14, .string y.obd, .int .i64 y.otm, .int .i64 y.bns] := range_cons r0 (range_cons r1 (range_cons r2 (range_cons r3 (range_cons r4 (range_cons r5 (range_cons r6 (range_cons r7 (range_cons r8 (range_cons r9 (range_cons r10 (range_cons r11 (range_cons r12 (range_cons r13 (range_cons r14 (range_cons r15 (range_cons r16 (range_cons r17 (range_nil _ _ _))))))))))))))))))
        go_wp2_with (first | (refine wpList_load_mid rfl 104 _ rfl b (off + k * 18) rfl [.int .i64 y.cli, .int .i64 y.qmt, .string y.qpa, .slice a3 y.qfs.length c3, .string y.qbd, .int .i64 y.rst, .slice a6 y.rfs.length c6, .string y.rbd, .int .i64 y.knd, .int .i64 y.tim, .string y.opa, .slice a11 y.oxs.length c11, .slice a12 y.oys.length c12, .int .i64 y.ost, .slice a14 y.ofs.length c14, .string y.obd, .int .i64 y.otm, .int .i64 y.bns] _ HRG Try.underlying104 rfl HIF ?_) | fail)
        clear HRG HIF
        refine (szReply_any x hx0 (by omega) y a3 c3 a6 c6 a11 c11 a12 c12 a14 c14 B _ HG3.out HG6.out HG11.out HG12.out HG14.out (HBB.out _ HBW.out) (HS.out y HM.out)).mono ?_
        rintro e w1 ⟨r, rfl, hr1, hr2, bw⟩
        have HB2 : Hid (Below w.heap.size w w1) := HBW.out.trans (bw.mono HBW.out.size)
        clear r0 r1 r2 r3 r4 r5 r6 r7 r8 r9 r10 r11 r12 r13 r14 r15 r16 r17 bw
        by_cases d1 : r < 0
        · clear hr2
          go_wp2
          go_ret
          exact ⟨-1, rfl, by omega, fun h => absurd h (by omega), HB2.out⟩
        · have HX2 : Hid (r + (wtRp (ks.take (k + 1)) : Int) + ((n : Int) - ((k + 1 : Nat) : Int)) ≤ L ∧ ∀ y ∈ ks.take (k + 1), RpSmall y) := by
            obtain ⟨q1, q2⟩ := hr2 (by omega)
            obtain ⟨m1, m2⟩ := HX.out
            refine ⟨?_, fun z hz => ?_⟩
            · rw [HTK.out, wtRp_snoc]
              omega
            · rw [HTK.out] at hz
              rcases List.mem_append.1 hz with hz | hz
              · exact m2 z hz
              · rw [List.mem_singleton.1 hz]; exact q2
          clear hr2
          go_wp2
          go_roundw
          case rel => exact ⟨k + 1, r, by omega, by go_num, rfl, by omega, by omega, HX2, HB2⟩
          case measure => simp [intOf]; omega
      · have HF : Hid (x + (wtRp ks : Int) ≤ L ∧ ∀ k ∈ ks, RpSmall k) := by
          obtain ⟨m1, m2⟩ := HX.out
          rw [List.take_of_length_le (by rw [HLN.out]; omega)] at m1 m2
          exact ⟨by omega, m2⟩
        go_wp2
        go_ret
        exact ⟨x, rfl, by omega, fun _ => HF.out, HBW.out⟩

theorem infoReply : (Try.prog.info? 85).map (fun i => (i.zero, i.size, i.bytes)) = some (some (.agg #[.int .i64 0, .int .i64 0, .string ⟨#[]⟩, .slice none 0 0, .string ⟨#[]⟩, .int .i64 0, .slice none 0 0, .string ⟨#[]⟩, .int .i64 0, .int .i64 0, .string ⟨#[]⟩, .slice none 0 0, .slice none 0 0, .int .i64 0, .slice none 0 0, .string ⟨#[]⟩, .int .i64 0, .int .i64 0]), 18, 264) := by kernel_rfl
/-- A call answers a list of these, of its own. -/
def ReplyIs (ks : List RpD) (w : World) (e : Ending) (w' : World) : Prop := ∃ (V : Value) (kv : List RpV), e = .returned V ∧ kv.map (·.d) = ks ∧ RpsO w' w.heap.size V kv ∧ Below w.heap.size w w'
/-- Told item by item, and the items' own lists behind the row: a list of one's own. -/
theorem parts_Reply {w : World} {g n base : Nat} {kv : List RpV} (hp : PartO rpC 18 85 w g n kv) (hl : kv.length = n) (hm : n ≤ maxLen) (hb : base ≤ g) (hr : RowsO w (g + 1) (kv.flatMap rpR)) : RpsO w base (.slice (some ⟨g, 0, none⟩) n n) kv := by
  have hrow : (rpRow (.slice (some ⟨g, 0, none⟩) n n) kv).own w base := by
    have h := hp.owns rpC_len (by decide) hl hm hb
    unfold Rw.own rpRow
    rw [hl]
    exact h
  refine ⟨fun r h => ?_, List.pairwise_cons.2 ⟨fun r h g' h1 h2 => ?_, hr.apart⟩⟩
  · rcases List.mem_cons.1 h with h | h
    · rw [h]; exact hrow
    · exact owns_wide (hr.own r h) (by omega)
  · have e1 : some g = some g' := h1
    have e2 := hr.ge h h2
    have e3 := Option.some.inj e1
    omega

set_option maxHeartbeats 8000000 in
set_option maxRecDepth 100000 in
theorem toReplyS_any (B : Nat) (a : Option Addr) (n cap : Nat) (ks : List RpD) (w : World) (harg : ArgReply w B a n ks) (hB : B ≤ w.heap.size) (hn : n ≤ 1048576) (hsm : ∀ k ∈ ks, RpLen k) :
    Calls Try.prog 23 #[.slice a n cap] w fun e w' => ReplyIs ks w e w' := by
  obtain ⟨i0, hi, hz0, hz1, hz2⟩ := info_parts infoReply
  obtain ⟨M, hM⟩ : ∃ M, M = madeCells (Value.agg #[.int .i64 0, .int .i64 0, .string ⟨#[]⟩, .slice none 0 0, .string ⟨#[]⟩, .int .i64 0, .slice none 0 0, .string ⟨#[]⟩, .int .i64 0, .int .i64 0, .string ⟨#[]⟩, .slice none 0 0, .slice none 0 0, .int .i64 0, .slice none 0 0, .string ⟨#[]⟩, .int .i64 0, .int .i64 0]).cells (((n : Nat) : Int).toNat * i0.size) := ⟨_, rfl⟩
  have hmk : ∀ W : World, (Instr.makeSlice 47 (.int .i64 (n : Int)) (.int .i64 (n : Int))).run Try.prog W = .ok (.slice (some ⟨W.heap.size, 0, none⟩) n n) (W.alloc (.cells M 85)) := fun W => by
    have h := run_make (P := Try.prog) W 47 85 i0 (.agg #[.int .i64 0, .int .i64 0, .string ⟨#[]⟩, .slice none 0 0, .string ⟨#[]⟩, .int .i64 0, .slice none 0 0, .string ⟨#[]⟩, .int .i64 0, .int .i64 0, .string ⟨#[]⟩, .slice none 0 0, .slice none 0 0, .int .i64 0, .slice none 0 0, .string ⟨#[]⟩, .int .i64 0, .int .i64 0]) Try.underlying47 hi hz0 .i64 .i64 (n : Int) (n : Int) (by omega) (by omega) (by rw [hz2]; omega) (by omega)
    rw [← hM] at h
    simpa using h
  have hMs : M.size = n * 18 := by rw [hM, size_madeCells, hz1]; simp
  have HLN : Hid (ks.length = n) := harg.1
  have HSM : Hid (∀ k ∈ ks, RpLen k) := hsm
  have HA : Hid (∀ W, Below w.heap.size w W → ArgReply W B a n ks) := fun W h => harg.below (h.mono hB)
  have HBB : Hid (∀ W, Below w.heap.size w W → B ≤ W.heap.size) := fun W h => Nat.le_trans hB h.size
  clear hM harg hsm hB
  obtain ⟨g, hg⟩ : ∃ g, g = w.heap.size := ⟨_, rfl⟩
  have HG : Hid (w.heap.size = g) := hg.symm
  have HP : Hid (([] : List RpV).length = 0 ∧ ([] : List RpV).map (·.d) = ks.take 0 ∧ PartO rpC 18 85 (w.alloc (.cells M 85)) g n [] ∧ RowsO (w.alloc (.cells M 85)) (g + 1) (([] : List RpV).flatMap rpR)) := ⟨rfl, by simp, ⟨M, by rw [hg]; exact heap_alloc_new w _, hMs, fun i h => absurd h (by simp)⟩, RowsO.nil _ _⟩
  have HPB : Hid (Below w.heap.size w (w.alloc (.cells M 85))) := (Below.refl _ _).alloc (Nat.le_refl _) _
  go_enter Try.func23, Try.ntmps23
  go_wp2
  rw [HG.out]
  clear hg hMs
  go_loopw [4] (fun i wr => ∃ (k : Nat) (kv : List RpV), k ≤ n ∧ i = .int .i64 (k : Int) ∧ Hid (kv.length = k ∧ kv.map (·.d) = ks.take k ∧ PartO rpC 18 85 wr g n kv ∧ RowsO wr (g + 1) (kv.flatMap rpR)) ∧ Hid (Below w.heap.size w wr)) (fun i _ => n - (intOf i).toNat)
  case atStart => exact ⟨0, [], Nat.zero_le _, rfl, HP, HPB⟩
  case round =>
    obtain ⟨k, kv, hk, rfl, hpr, HBW⟩ := hrel
    by_cases hlt : k < n
    · have hlt2 : (k : Int) < (n : Int) := by omega
      obtain ⟨b, off, rfl, hbB, a3, c3, a6, c6, a11, c11, a12, c12, a14, c14, ⟨r0, r1, r2, r3, r4, r5, r6, r7, r8, r9, r10, r11, r12, r13, r14, r15, r16, r17⟩, g3, g6, g11, g12, g14⟩ := (HA.out wr HBW.out).2 k hlt
      obtain ⟨y, hy⟩ : ∃ y, y = rpAt ks k := ⟨_, rfl⟩
      have HM : Hid (y ∈ ks) := by show _ ∈ _; rw [hy]; exact getD_mem0 _ ks k (by rw [HLN.out]; exact hlt)
      have HTK : Hid (ks.take (k + 1) = ks.take k ++ [y]) := by show _ = _; rw [hy]; exact getD_take0 _ ks k (by rw [HLN.out]; exact hlt)
      rw [← hy] at r0 r1 r2 r3 r4 r5 r6 r7 r8 r9 r10 r11 r12 r13 r14 r15 r16 r17 g3 g6 g11 g12 g14
      have HG3 : Hid (ArgF wr B a3 y.qfs.length y.qfs) := g3
      have HG6 : Hid (ArgF wr B a6 y.rfs.length y.rfs) := g6
      have HG11 : Hid (ArgT wr B a11 y.oxs.length y.oxs) := g11
      have HG12 : Hid (ArgT wr B a12 y.oys.length y.oys) := g12
      have HG14 : Hid (ArgF wr B a14 y.ofs.length y.ofs) := g14
      clear hy g3 g6 g11 g12 g14
      have HIF : (Try.prog.info? 104).map (·.size) = some 18 := by kernel_rfl
      have HRG : World.rangeAt wr b (off + k * 18) [.int .i64 y.cli, .int .i64 y.qmt, .string y.qpa, .slice a3 y.qfs.length c3, .string y.qbd, .int .i64 y.rst, .slice a6 y.rfs.length c6, .string y.rbd, .int .i64 y.knd, .int .i64 y.tim, .string y.opa, .slice a11 y.oxs.length c11, .slice a12 y.oys.length c12, .int .i64 y.ost, .slice a14 y.ofs.length c14, .string y.obd, .int .i64 y.otm, .int .i64 y.bns] := range_cons r0 (range_cons r1 (range_cons r2 (range_cons r3 (range_cons r4 (range_cons r5 (range_cons r6 (range_cons r7 (range_cons r8 (range_cons r9 (range_cons r10 (range_cons r11 (range_cons r12 (range_cons r13 (range_cons r14 (range_cons r15 (range_cons r16 (range_cons r17 (range_nil _ _ _))))))))))))))))))
      go_wp2_with (first | (refine wpList_load_mid rfl 104 _ rfl b (off + k * 18) rfl [.int .i64 y.cli, .int .i64 y.qmt, .string y.qpa, .slice a3 y.qfs.length c3, .string y.qbd, .int .i64 y.rst, .slice a6 y.rfs.length c6, .string y.rbd, .int .i64 y.knd, .int .i64 y.tim, .string y.opa, .slice a11 y.oxs.length c11, .slice a12 y.oys.length c12, .int .i64 y.ost, .slice a14 y.ofs.length c14, .string y.obd, .int .i64 y.otm, .int .i64 y.bns] _ HRG Try.underlying104 rfl HIF ?_) | fail)
      clear HRG HIF
      refine (toReply_any y a3 c3 a6 c6 a11 c11 a12 c12 a14 c14 B _ HG3.out HG6.out HG11.out HG12.out HG14.out (HBB.out _ HBW.out) (HSM.out y HM.out)).mono ?_
      rintro e w1 ⟨⟨xd, v3, v6, v11, v12, v14⟩, rfl, hxd, hrows, bw⟩
      clear r0 r1 r2 r3 r4 r5 r6 r7 r8 r9 r10 r11 r12 r13 r14 r15 r16 r17
      obtain rfl : xd = y := hxd
      obtain ⟨o3, p3, hv⟩ := slice_of_owns (hrows.own (⟨167, 2, v3, xd.qfs.length, flatF xd.qfs⟩ : Rw) (by simp [rpR]))
      obtain rfl : v3 = .slice o3 xd.qfs.length p3 := hv
      obtain ⟨o6, p6, hv⟩ := slice_of_owns (hrows.own (⟨167, 2, v6, xd.rfs.length, flatF xd.rfs⟩ : Rw) (by simp [rpR]))
      obtain rfl : v6 = .slice o6 xd.rfs.length p6 := hv
      obtain ⟨o11, p11, hv⟩ := slice_of_owns (hrows.own (⟨9, 1, v11, xd.oxs.length, xd.oxs.map Value.string⟩ : Rw) (by simp [rpR]))
      obtain rfl : v11 = .slice o11 xd.oxs.length p11 := hv
      obtain ⟨o12, p12, hv⟩ := slice_of_owns (hrows.own (⟨9, 1, v12, xd.oys.length, xd.oys.map Value.string⟩ : Rw) (by simp [rpR]))
      obtain rfl : v12 = .slice o12 xd.oys.length p12 := hv
      obtain ⟨o14, p14, hv⟩ := slice_of_owns (hrows.own (⟨167, 2, v14, xd.ofs.length, flatF xd.ofs⟩ : Rw) (by simp [rpR]))
      obtain rfl : v14 = .slice o14 xd.ofs.length p14 := hv
      obtain ⟨x, hx⟩ : ∃ x : RpV, x = ⟨xd, .slice o3 xd.qfs.length p3, .slice o6 xd.rfs.length p6, .slice o11 xd.oxs.length p11, .slice o12 xd.oys.length p12, .slice o14 xd.ofs.length p14⟩ := ⟨_, rfl⟩
      rw [← hx] at hrows
      obtain ⟨q1, q2, q3, q4⟩ := hpr.out
      have hgl : g < wr.heap.size := q3.lt
      have HB2 : Hid (Below w.heap.size w w1) := HBW.out.trans (bw.mono HBW.out.size)
      have hpr1 := q3.below bw
      have hall : RowsO w1 (g + 1) (kv.flatMap rpR ++ rpR x) := q4.more bw hrows (Nat.le_refl _) hgl
      have HALL : Hid ((kv ++ [x]).length = k + 1 ∧ (kv ++ [x]).map (·.d) = ks.take (k + 1) ∧ PartO rpC 18 85 (setW w1 g (k * 18) (rpC x)) g n (kv ++ [x]) ∧ RowsO (setW w1 g (k * 18) (rpC x)) (g + 1) ((kv ++ [x]).flatMap rpR)) := by
        refine ⟨by rw [List.length_append, q1]; rfl, by rw [List.map_append, q2, HTK.out, hx]; rfl, ?_, ?_⟩
        · have h := hpr1.put rpC_len x (by omega)
          rw [q1] at h
          exact h
        · rw [List.flatMap_append]
          have h2 : RowsO (setW w1 g (k * 18) (rpC x)) (g + 1) (kv.flatMap rpR ++ rpR x) := hall.same (fun r hr j hj => setW_other g j (by have := hall.ge hr hj; omega) _ _ _)
          simpa using h2
      have HBE : Hid (Below w.heap.size w (setW w1 g (k * 18) (rpC x))) := setW_below (by rw [HG.out]; exact Nat.le_refl _) _ _ _ _ HB2.out
      rw [hx] at HALL HBE
      have HTH : World.there w1 g (k * 18) 18 := there_part hpr1 hlt
      have HIF : (Try.prog.info? 85).map (·.size) = some 18 := by kernel_rfl
      obtain ⟨W1, hW1⟩ : ∃ W, W = setW w1 g (k * 18) (rpC ⟨xd, .slice o3 xd.qfs.length p3, .slice o6 xd.rfs.length p6, .slice o11 xd.oxs.length p11, .slice o12 xd.oys.length p12, .slice o14 xd.ofs.length p14⟩) := ⟨_, rfl⟩
      rw [← hW1] at HALL HBE
      have HWE : Hid (w1.setCells g (k * 18) (#[.int .i64 xd.cli, .int .i64 xd.qmt, .string xd.qpa, .slice o3 xd.qfs.length p3, .string xd.qbd, .int .i64 xd.rst, .slice o6 xd.rfs.length p6, .string xd.rbd, .int .i64 xd.knd, .int .i64 xd.tim, .string xd.opa, .slice o11 xd.oxs.length p11, .slice o12 xd.oys.length p12, .int .i64 xd.ost, .slice o14 xd.ofs.length p14, .string xd.obd, .int .i64 xd.otm, .int .i64 xd.bns] : Array Value).toList = W1) := by show _ = _; rw [hW1, setCells_eq]; rfl
      clear hW1
      clear hpr1 hall hrows hx q1 q2 q3 q4 bw hpr
      go_wp2_with (first | (refine wpList_store_mid rfl 85 _ _ rfl g (k * 18) #[.int .i64 xd.cli, .int .i64 xd.qmt, .string xd.qpa, .slice o3 xd.qfs.length p3, .string xd.qbd, .int .i64 xd.rst, .slice o6 xd.rfs.length p6, .string xd.rbd, .int .i64 xd.knd, .int .i64 xd.tim, .string xd.opa, .slice o11 xd.oxs.length p11, .slice o12 xd.oys.length p12, .int .i64 xd.ost, .slice o14 xd.ofs.length p14, .string xd.obd, .int .i64 xd.otm, .int .i64 xd.bns] rfl rfl HTH HIF (by simp [Value.oneCell']) ?_; rw [HWE.out]) | fail)
      clear HTH HIF
      go_roundw
      case rel => exact ⟨k + 1, _, by omega, by go_num, HALL, HBE⟩
      case measure => simp [intOf]; omega
    · obtain rfl : k = n := by omega
      obtain ⟨q1, q2, q3, q4⟩ := hpr.out
      have HF : Hid (kv.map (·.d) = ks ∧ RpsO wr w.heap.size (.slice (some ⟨g, 0, none⟩) k k) kv) := by
        refine ⟨?_, parts_Reply q3 q1 (by unfold maxLen; omega) (by rw [HG.out]; exact Nat.le_refl _) q4⟩
        rw [q2, List.take_of_length_le (by rw [HLN.out]; exact Nat.le_refl _)]
      clear q1 q2 q3 q4
      go_wp2
      go_ret
      exact ⟨_, kv, rfl, HF.out.1, HF.out.2, HBW.out⟩

end Go.Proofs.Ytajccgffallajaa

namespace Go.Proofs.Ytajccgffallajaa
open Go.RowKit
open Go.Lib hiding intOf

set_option maxHeartbeats 8000000 in
set_option maxRecDepth 100000 in
theorem eqReplyS_any (V1 V2 : Value) (kv1 kv2 : List RpV) (B1 B2 : Nat) (w : World) (he : kv1.map (·.d) = kv2.map (·.d)) (h1 : RpsO w B1 V1 kv1) (h2 : RpsO w B2 V2 kv2) (hn : kv1.length ≤ 2000000) (hs : ∀ x ∈ kv1, RpLim x.d) :
    Calls Try.prog 28 #[V1, V2] w fun e w' => e = .returned (.bool true) ∧ Below w.heap.size w w' := by
  have hlen : kv2.length = kv1.length := by have := congrArg List.length he; simpa using this.symm
  obtain ⟨n, hnn⟩ : ∃ n, n = kv1.length := ⟨_, rfl⟩
  obtain ⟨o1, c1, e1⟩ := h1.len
  obtain ⟨o2, c2, e2⟩ := h2.len
  rw [← hnn] at e1 hn
  rw [hlen, ← hnn] at e2
  subst e1 e2
  have HL1 : Hid (kv1.length = n) := hnn.symm
  have HL2 : Hid (kv2.length = n) := hlen.trans hnn.symm
  have HE : Hid (kv1.map (·.d) = kv2.map (·.d)) := he
  have HS : Hid (∀ x ∈ kv1, RpLim x.d) := hs
  have H1 : Hid (∀ W, Below w.heap.size w W → RpsO W B1 (.slice o1 n c1) kv1) := fun W h => h1.below h
  have H2 : Hid (∀ W, Below w.heap.size w W → RpsO W B2 (.slice o2 n c2) kv2) := fun W h => h2.below h
  clear h1 h2 hlen hnn he hs
  go_enter Try.func28, Try.ntmps28
  go_wp2
  go_loopw [5] (fun i wr => ∃ k : Nat, k ≤ n ∧ i = .int .i64 (k : Int) ∧ Hid (Below w.heap.size w wr)) (fun i _ => n - (intOf i).toNat)
  case atStart => exact ⟨0, Nat.zero_le _, rfl, Below.refl _ _⟩
  case round =>
    obtain ⟨k, hk, rfl, HBW⟩ := hrel
    by_cases hlt : k < n
    · have hlt2 : (k : Int) < (n : Int) := by omega
      obtain ⟨g1, cp1, ev1, hg1, at1⟩ := (H1.out wr HBW.out).at k (by rw [HL1.out]; exact hlt)
      obtain ⟨g2, cp2, ev2, hg2, at2⟩ := (H2.out wr HBW.out).at k (by rw [HL2.out]; exact hlt)
      obtain rfl : o1 = some ⟨g1, 0, none⟩ := (Value.slice.inj ev1).1
      obtain rfl : o2 = some ⟨g2, 0, none⟩ := (Value.slice.inj ev2).1
      have exy : (kv1[k]'(by rw [HL1.out]; exact hlt)).d = (kv2[k]'(by rw [HL2.out]; exact hlt)).d := by
        have h := congrArg (fun l : List RpD => l[k]?) HE.out
        simpa [List.getElem?_map, List.getElem?_eq_getElem (show k < kv1.length by rw [HL1.out]; exact hlt), List.getElem?_eq_getElem (show k < kv2.length by rw [HL2.out]; exact hlt)] using h
      have m1 : kv1[k]'(by rw [HL1.out]; exact hlt) ∈ kv1 := List.getElem_mem _
      have m2 : kv2[k]'(by rw [HL2.out]; exact hlt) ∈ kv2 := List.getElem_mem _
      generalize kv1[k]'(by rw [HL1.out]; exact hlt) = x at at1 exy m1
      generalize kv2[k]'(by rw [HL2.out]; exact hlt) = y at at2 exy m2
      have HXY : Hid (x.d = y.d) := exy
      have HO1 : Hid (∀ W, Below wr.heap.size wr W → RowsO W B1 (rpR x)) := fun W h => ((H1.out wr HBW.out).below h).item m1
      have HO2 : Hid (∀ W, Below wr.heap.size wr W → RowsO W B2 (rpR y)) := fun W h => ((H2.out wr HBW.out).below h).item m2
      have HSZ : Hid (RpLim x.d) := HS.out _ m1
      have a0 : wr.cell? ⟨g1, k * 18, none⟩ = some (.int .i64 x.d.cli) := at1.c0
      have a1 : wr.cell? ⟨g1, k * 18 + 1, none⟩ = some (.int .i64 x.d.qmt) := at1.c1
      have a2 : wr.cell? ⟨g1, k * 18 + 2, none⟩ = some (.string x.d.qpa) := at1.c2
      have a3 : wr.cell? ⟨g1, k * 18 + 3, none⟩ = some (x.v3) := at1.c3
      have a4 : wr.cell? ⟨g1, k * 18 + 4, none⟩ = some (.string x.d.qbd) := at1.c4
      have a5 : wr.cell? ⟨g1, k * 18 + 5, none⟩ = some (.int .i64 x.d.rst) := at1.c5
      have a6 : wr.cell? ⟨g1, k * 18 + 6, none⟩ = some (x.v6) := at1.c6
      have a7 : wr.cell? ⟨g1, k * 18 + 7, none⟩ = some (.string x.d.rbd) := at1.c7
      have a8 : wr.cell? ⟨g1, k * 18 + 8, none⟩ = some (.int .i64 x.d.knd) := at1.c8
      have a9 : wr.cell? ⟨g1, k * 18 + 9, none⟩ = some (.int .i64 x.d.tim) := at1.c9
      have a10 : wr.cell? ⟨g1, k * 18 + 10, none⟩ = some (.string x.d.opa) := at1.c10
      have a11 : wr.cell? ⟨g1, k * 18 + 11, none⟩ = some (x.v11) := at1.c11
      have a12 : wr.cell? ⟨g1, k * 18 + 12, none⟩ = some (x.v12) := at1.c12
      have a13 : wr.cell? ⟨g1, k * 18 + 13, none⟩ = some (.int .i64 x.d.ost) := at1.c13
      have a14 : wr.cell? ⟨g1, k * 18 + 14, none⟩ = some (x.v14) := at1.c14
      have a15 : wr.cell? ⟨g1, k * 18 + 15, none⟩ = some (.string x.d.obd) := at1.c15
      have a16 : wr.cell? ⟨g1, k * 18 + 16, none⟩ = some (.int .i64 x.d.otm) := at1.c16
      have a17 : wr.cell? ⟨g1, k * 18 + 17, none⟩ = some (.int .i64 x.d.bns) := at1.c17
      have b0 : wr.cell? ⟨g2, k * 18, none⟩ = some (.int .i64 y.d.cli) := at2.c0
      have b1 : wr.cell? ⟨g2, k * 18 + 1, none⟩ = some (.int .i64 y.d.qmt) := at2.c1
      have b2 : wr.cell? ⟨g2, k * 18 + 2, none⟩ = some (.string y.d.qpa) := at2.c2
      have b3 : wr.cell? ⟨g2, k * 18 + 3, none⟩ = some (y.v3) := at2.c3
      have b4 : wr.cell? ⟨g2, k * 18 + 4, none⟩ = some (.string y.d.qbd) := at2.c4
      have b5 : wr.cell? ⟨g2, k * 18 + 5, none⟩ = some (.int .i64 y.d.rst) := at2.c5
      have b6 : wr.cell? ⟨g2, k * 18 + 6, none⟩ = some (y.v6) := at2.c6
      have b7 : wr.cell? ⟨g2, k * 18 + 7, none⟩ = some (.string y.d.rbd) := at2.c7
      have b8 : wr.cell? ⟨g2, k * 18 + 8, none⟩ = some (.int .i64 y.d.knd) := at2.c8
      have b9 : wr.cell? ⟨g2, k * 18 + 9, none⟩ = some (.int .i64 y.d.tim) := at2.c9
      have b10 : wr.cell? ⟨g2, k * 18 + 10, none⟩ = some (.string y.d.opa) := at2.c10
      have b11 : wr.cell? ⟨g2, k * 18 + 11, none⟩ = some (y.v11) := at2.c11
      have b12 : wr.cell? ⟨g2, k * 18 + 12, none⟩ = some (y.v12) := at2.c12
      have b13 : wr.cell? ⟨g2, k * 18 + 13, none⟩ = some (.int .i64 y.d.ost) := at2.c13
      have b14 : wr.cell? ⟨g2, k * 18 + 14, none⟩ = some (y.v14) := at2.c14
      have b15 : wr.cell? ⟨g2, k * 18 + 15, none⟩ = some (.string y.d.obd) := at2.c15
      have b16 : wr.cell? ⟨g2, k * 18 + 16, none⟩ = some (.int .i64 y.d.otm) := at2.c16
      have b17 : wr.cell? ⟨g2, k * 18 + 17, none⟩ = some (.int .i64 y.d.bns) := at2.c17
      have R1 : World.rangeAt wr g1 (k * 18) [.int .i64 x.d.cli, .int .i64 x.d.qmt, .string x.d.qpa, x.v3, .string x.d.qbd, .int .i64 x.d.rst, x.v6, .string x.d.rbd, .int .i64 x.d.knd, .int .i64 x.d.tim, .string x.d.opa, x.v11, x.v12, .int .i64 x.d.ost, x.v14, .string x.d.obd, .int .i64 x.d.otm, .int .i64 x.d.bns] := range_cons a0 (range_cons a1 (range_cons a2 (range_cons a3 (range_cons a4 (range_cons a5 (range_cons a6 (range_cons a7 (range_cons a8 (range_cons a9 (range_cons a10 (range_cons a11 (range_cons a12 (range_cons a13 (range_cons a14 (range_cons a15 (range_cons a16 (range_cons a17 (range_nil _ _ _))))))))))))))))))
      have R2 : World.rangeAt wr g2 (k * 18) [.int .i64 y.d.cli, .int .i64 y.d.qmt, .string y.d.qpa, y.v3, .string y.d.qbd, .int .i64 y.d.rst, y.v6, .string y.d.rbd, .int .i64 y.d.knd, .int .i64 y.d.tim, .string y.d.opa, y.v11, y.v12, .int .i64 y.d.ost, y.v14, .string y.d.obd, .int .i64 y.d.otm, .int .i64 y.d.bns] := range_cons b0 (range_cons b1 (range_cons b2 (range_cons b3 (range_cons b4 (range_cons b5 (range_cons b6 (range_cons b7 (range_cons b8 (range_cons b9 (range_cons b10 (range_cons b11 (range_cons b12 (range_cons b13 (range_cons b14 (range_cons b15 (range_cons b16 (range_cons b17 (range_nil _ _ _))))))))))))))))))
      clear at1 at2 m1 m2 ev1 ev2 exy a0 b0 a1 b1 a2 b2 a3 b3 a4 b4 a5 b5 a6 b6 a7 b7 a8 b8 a9 b9 a10 b10 a11 b11 a12 b12 a13 b13 a14 b14 a15 b15 a16 b16 a17 b17
      have HIF : (Try.prog.info? 85).map (·.size) = some 18 := by kernel_rfl
      have HA : Hid (∀ w0 w1, Below wr.heap.size wr w0 → Below w0.heap.size w0 w1 → (World.rangeAt w1 g1 (k * 18) [.int .i64 x.d.cli, .int .i64 x.d.qmt, .string x.d.qpa, x.v3, .string x.d.qbd, .int .i64 x.d.rst, x.v6, .string x.d.rbd, .int .i64 x.d.knd, .int .i64 x.d.tim, .string x.d.opa, x.v11, x.v12, .int .i64 x.d.ost, x.v14, .string x.d.obd, .int .i64 x.d.otm, .int .i64 x.d.bns] ∧ World.rangeAt w1 g2 (k * 18) [.int .i64 y.d.cli, .int .i64 y.d.qmt, .string y.d.qpa, y.v3, .string y.d.qbd, .int .i64 y.d.rst, y.v6, .string y.d.rbd, .int .i64 y.d.knd, .int .i64 y.d.tim, .string y.d.opa, y.v11, y.v12, .int .i64 y.d.ost, y.v14, .string y.d.obd, .int .i64 y.d.otm, .int .i64 y.d.bns]) ∧ Below wr.heap.size wr w1) := fun w0 w1 h h' => by
        have hx := h.trans (h'.mono h.size)
        exact ⟨⟨fun j v hv => by rw [hx.cell (p := ⟨g1, k * 18 + j, none⟩) hg1]; exact R1 j v hv, fun j v hv => by rw [hx.cell (p := ⟨g2, k * 18 + j, none⟩) hg2]; exact R2 j v hv⟩, hx⟩
      go_wp2_with fail
      refine wp_region_held_drew (S := fun w' => World.rangeAt w' g1 (k * 18) [.int .i64 x.d.cli, .int .i64 x.d.qmt, .string x.d.qpa, x.v3, .string x.d.qbd, .int .i64 x.d.rst, x.v6, .string x.d.rbd, .int .i64 x.d.knd, .int .i64 x.d.tim, .string x.d.opa, x.v11, x.v12, .int .i64 x.d.ost, x.v14, .string x.d.obd, .int .i64 x.d.otm, .int .i64 x.d.bns] ∧ World.rangeAt w' g2 (k * 18) [.int .i64 y.d.cli, .int .i64 y.d.qmt, .string y.d.qpa, y.v3, .string y.d.qbd, .int .i64 y.d.rst, y.v6, .string y.d.rbd, .int .i64 y.d.knd, .int .i64 y.d.tim, .string y.d.opa, y.v11, y.v12, .int .i64 y.d.ost, y.v14, .string y.d.obd, .int .i64 y.d.otm, .int .i64 y.d.bns]) (by kernel_rfl) ⟨R1, R2⟩ (fun hHeld => ?_)
      refine wpAnyH_take (i := 0) (v := .slice (some ⟨g1, 0, none⟩) n c1) rfl (by kernel_rfl) (by kernel_rfl) (by kernel_rfl) (fun _ _ _ h => h) (Or.inl ⟨by rfl, by intro W hSW; go_simp⟩) (by assumption) ?_
      refine wpAnyH_take (i := 1) (v := .int .i64 (k : Int)) rfl (by kernel_rfl) (by kernel_rfl) (by kernel_rfl) (fun _ _ _ h => h) (Or.inl ⟨by rfl, by intro W hSW; go_simp⟩) (by assumption) ?_
      refine wpAnyH_take (i := 2) (v := .pointer (some ⟨g1, k * 18, none⟩)) rfl (by kernel_rfl) (by kernel_rfl) (by kernel_rfl) (fun _ _ _ h => h) (Or.inl ⟨by rfl, by intro W hSW; go_simp⟩) (by assumption) ?_
      refine wpAnyH_take (i := 3) (v := .agg #[.int .i64 x.d.cli, .int .i64 x.d.qmt, .string x.d.qpa, x.v3, .string x.d.qbd, .int .i64 x.d.rst, x.v6, .string x.d.rbd, .int .i64 x.d.knd, .int .i64 x.d.tim, .string x.d.opa, x.v11, x.v12, .int .i64 x.d.ost, x.v14, .string x.d.obd, .int .i64 x.d.otm, .int .i64 x.d.bns]) rfl (by kernel_rfl) (by kernel_rfl) (by kernel_rfl) (fun _ _ _ h => h) (yieldsIf_load_mid (by rfl) 85 _ rfl g1 (k * 18) rfl [.int .i64 x.d.cli, .int .i64 x.d.qmt, .string x.d.qpa, x.v3, .string x.d.qbd, .int .i64 x.d.rst, x.v6, .string x.d.rbd, .int .i64 x.d.knd, .int .i64 x.d.tim, .string x.d.opa, x.v11, x.v12, .int .i64 x.d.ost, x.v14, .string x.d.obd, .int .i64 x.d.otm, .int .i64 x.d.bns] _ (fun W h => h.1) Try.underlying85 rfl HIF) (by assumption) ?_
      refine wpAnyH_take (i := 4) (v := .slice (some ⟨g2, 0, none⟩) n c2) rfl (by kernel_rfl) (by kernel_rfl) (by kernel_rfl) (fun _ _ _ h => h) (Or.inl ⟨by rfl, by intro W hSW; go_simp⟩) (by assumption) ?_
      refine wpAnyH_take (i := 5) (v := .int .i64 (k : Int)) rfl (by kernel_rfl) (by kernel_rfl) (by kernel_rfl) (fun _ _ _ h => h) (Or.inl ⟨by rfl, by intro W hSW; go_simp⟩) (by assumption) ?_
      refine wpAnyH_take (i := 6) (v := .pointer (some ⟨g2, k * 18, none⟩)) rfl (by kernel_rfl) (by kernel_rfl) (by kernel_rfl) (fun _ _ _ h => h) (Or.inl ⟨by rfl, by intro W hSW; go_simp⟩) (by assumption) ?_
      refine wpAnyH_take (i := 7) (v := .agg #[.int .i64 y.d.cli, .int .i64 y.d.qmt, .string y.d.qpa, y.v3, .string y.d.qbd, .int .i64 y.d.rst, y.v6, .string y.d.rbd, .int .i64 y.d.knd, .int .i64 y.d.tim, .string y.d.opa, y.v11, y.v12, .int .i64 y.d.ost, y.v14, .string y.d.obd, .int .i64 y.d.otm, .int .i64 y.d.bns]) rfl (by kernel_rfl) (by kernel_rfl) (by kernel_rfl) (fun _ _ _ h => h) (yieldsIf_load_mid (by rfl) 85 _ rfl g2 (k * 18) rfl [.int .i64 y.d.cli, .int .i64 y.d.qmt, .string y.d.qpa, y.v3, .string y.d.qbd, .int .i64 y.d.rst, y.v6, .string y.d.rbd, .int .i64 y.d.knd, .int .i64 y.d.tim, .string y.d.opa, y.v11, y.v12, .int .i64 y.d.ost, y.v14, .string y.d.obd, .int .i64 y.d.otm, .int .i64 y.d.bns] _ (fun W h => h.2) Try.underlying85 rfl HIF) (by assumption) ?_
      refine wpAnyH_ready (rs := [8]) (by kernel_rfl) (by simp) ?_
      refine AllReadyH.cons rfl (fun K hK => ?_) AllReadyH.nil
      go_simp
      refine (eqReply_any x.d x y B1 B2 _ rfl HXY.out.symm (HO1.out _ ((Below.refl _ wr).drew)) (HO2.out _ ((Below.refl _ wr).drew)) HSZ.out).mono ?_
      rintro e w1 ⟨rfl, hb1⟩
      obtain ⟨hcc, hbx⟩ := HA.out _ w1 ((Below.refl _ wr).drew) hb1
      clear hHeld
      refine hK.out _ _ hcc (fun hHeld => ?_)
      clear hK K
      refine wpAnyH_take (i := 9) (v := .bool false) rfl (by kernel_rfl) (by kernel_rfl) (by kernel_rfl) (fun _ _ _ h => h) (Or.inl ⟨by rfl, by intro W hSW; go_simp⟩) (by assumption) ?_
      refine wpAnyH_done (by kernel_rfl) ?_ _
      clear hHeld hcc R1 R2 HIF
      go_wp2
      go_roundw
      case rel => exact ⟨k + 1, by omega, by go_num, HBW.out.trans (hbx.mono HBW.out.size)⟩
      case measure => simp [intOf]; omega
    · go_wp2
      go_ret
      exact ⟨rfl, HBW.out⟩

end Go.Proofs.Ytajccgffallajaa

namespace Go.Proofs.Ytajccgffallajaa
open Go.RowKit
open Go.Lib hiding intOf

set_option maxHeartbeats 8000000 in
set_option maxRecDepth 100000 in
theorem eqShelf_go (s : ShD) (n1 n2 n3 n4 : Nat) (oCx oPx oKx oBx oCy oPy oKy oBy : Option Addr) (pCx pPx pKx pBx pCy pPy pKy pBy : Nat) (kvx kvy : List (KpD × Value × Value × Value)) (Bx By : Nat) (w : World) (HL : Hid (s.cs.length = n1 ∧ s.ws.length = n2 ∧ s.bl.length = n4)) (HN : Hid (n1 ≤ 2000000 ∧ n2 ≤ 2000000 ∧ kvx.length ≤ 2000000 ∧ n4 ≤ 2000000)) (HSZ : Hid (∀ x ∈ kvx, x.1.xs.length ≤ 2000000 ∧ x.1.ys.length ≤ 2000000 ∧ x.1.fs.length ≤ 2000000)) (HKE : Hid (kvx.map (·.1) = kvy.map (·.1))) (Ex_0 : Hid (ShelfO (w) Bx (.slice oCx n1 pCx) (.slice oPx n2 pPx) (.slice oKx n3 pKx) (.slice oBx n4 pBx) kvx s)) (Ey_0 : Hid (ShelfO (w) By (.slice oCy n1 pCy) (.slice oPy n2 pPy) (.slice oKy n3 pKy) (.slice oBy n4 pBy) kvy s)) :
    Calls Try.prog 25 #[.agg #[.slice oCx n1 pCx, .slice oPx n2 pPx, .slice oKx n3 pKx, .slice oBx n4 pBx, .int .i64 s.nx, .int .i64 s.sq], .agg #[.slice oCy n1 pCy, .slice oPy n2 pPy, .slice oKy n3 pKy, .slice oBy n4 pBy, .int .i64 s.nx, .int .i64 s.sq]] w fun e w' => e = .returned (.bool true) ∧ Below w.heap.size w w' := by
  have hnx : (s.nx != s.nx) = false := by simp
  have hsq : (s.sq != s.sq) = false := by simp
  have hb0 : Below w.heap.size w w := Below.refl _ _
  go_enter Try.func25, Try.ntmps25
  go_upto_region 1 with fail
  obtain ⟨qv1, hqv1⟩ : ∃ q, q = (w).heap.size := ⟨_, rfl⟩
  obtain ⟨w1, hW1⟩ : ∃ W, W = (w).alloc (.cells #[.slice oCx n1 pCx, .slice oPx n2 pPx, .slice oKx n3 pKx, .slice oBx n4 pBx, .int .i64 s.nx, .int .i64 s.sq] 44) := ⟨_, rfl⟩
  have hz1 : (w).heap.size = qv1 := hqv1.symm
  first | rw [← hW1, ← hqv1] | rw [← hW1]
  have hs1 : w1.heap.size = qv1 + 1 := by rw [hW1, ← hz1]; simp
  have bw : Below (w).heap.size (w) w1 := by rw [hW1]; exact (Below.refl _ _).alloc (Nat.le_refl _) _
  have hb1 : Below w.heap.size w (w1) := hb0.trans (bw.mono hb0.size)
  have Ex_1 : Hid (ShelfO (w1) Bx (.slice oCx n1 pCx) (.slice oPx n2 pPx) (.slice oKx n3 pKx) (.slice oBx n4 pBx) kvx s) := Ex_0.out.below bw
  have Ey_1 : Hid (ShelfO (w1) By (.slice oCy n1 pCy) (.slice oPy n2 pPy) (.slice oKy n3 pKy) (.slice oBy n4 pBy) kvy s) := Ey_0.out.below bw
  have HBv1_1 : Hid ((w1).heap[qv1]? = some (.cells #[.slice oCx n1 pCx, .slice oPx n2 pPx, .slice oKx n3 pKx, .slice oBx n4 pBx, .int .i64 s.nx, .int .i64 s.sq] 44)) := by show _ = _; rw [hW1, ← hz1]; exact heap_alloc_new _ _
  clear hb0 Ex_0 Ey_0 bw hW1 hz1
  obtain ⟨qv2, hqv2⟩ : ∃ q, q = qv1 + 1 := ⟨_, rfl⟩
  obtain ⟨w2, hW2⟩ : ∃ W, W = (w1).alloc (.cells #[.slice oCy n1 pCy, .slice oPy n2 pPy, .slice oKy n3 pKy, .slice oBy n4 pBy, .int .i64 s.nx, .int .i64 s.sq] 44) := ⟨_, rfl⟩
  have hz2 : (w1).heap.size = qv2 := by rw [hqv2]; exact hs1
  first | rw [← hW2, ← hqv2] | rw [← hW2]
  have hs2 : w2.heap.size = qv2 + 1 := by rw [hW2, ← hz2]; simp
  have bw : Below (w1).heap.size (w1) w2 := by rw [hW2]; exact (Below.refl _ _).alloc (Nat.le_refl _) _
  have hb2 : Below w.heap.size w (w2) := hb1.trans (bw.mono hb1.size)
  have HBv1_2 : Hid ((w2).heap[qv1]? = some (.cells #[.slice oCx n1 pCx, .slice oPx n2 pPx, .slice oKx n3 pKx, .slice oBx n4 pBx, .int .i64 s.nx, .int .i64 s.sq] 44)) := blk_below HBv1_1.out bw
  have Ex_2 : Hid (ShelfO (w2) Bx (.slice oCx n1 pCx) (.slice oPx n2 pPx) (.slice oKx n3 pKx) (.slice oBx n4 pBx) kvx s) := Ex_1.out.below bw
  have Ey_2 : Hid (ShelfO (w2) By (.slice oCy n1 pCy) (.slice oPy n2 pPy) (.slice oKy n3 pKy) (.slice oBy n4 pBy) kvy s) := Ey_1.out.below bw
  have HBv2_2 : Hid ((w2).heap[qv2]? = some (.cells #[.slice oCy n1 pCy, .slice oPy n2 pPy, .slice oKy n3 pKy, .slice oBy n4 pBy, .int .i64 s.nx, .int .i64 s.sq] 44)) := by show _ = _; rw [hW2, ← hz2]; exact heap_alloc_new _ _
  clear hb1 HBv1_1 Ex_1 Ey_1 bw hW2 hz2
  clear hs2 hqv2 hs1 hqv1
  have cv1_0 : (w2).cell? ⟨qv1, 0, none⟩ = some (.slice oCx n1 pCx) := (cell_of HBv1_2.out 0).trans rfl
  have cv1_1 : (w2).cell? ⟨qv1, 1, none⟩ = some (.slice oPx n2 pPx) := (cell_of HBv1_2.out 1).trans rfl
  have cv2_0 : (w2).cell? ⟨qv2, 0, none⟩ = some (.slice oCy n1 pCy) := (cell_of HBv2_2.out 0).trans rfl
  have cv2_1 : (w2).cell? ⟨qv2, 1, none⟩ = some (.slice oPy n2 pPy) := (cell_of HBv2_2.out 1).trans rfl
  go_wp2_with fail
  refine (eqDisk_any n1 s.cs n2 s.ws _ _ _ _ Bx By _ (show DiskO _ Bx _ n1 s.cs _ n2 s.ws from by have h := Ex_2.out.disk; rw [HL.out.1, HL.out.2.1] at h; exact h) (show DiskO _ By _ n1 s.cs _ n2 s.ws from by have h := Ey_2.out.disk; rw [HL.out.1, HL.out.2.1] at h; exact h) HN.out.1 HN.out.2.1).mono ?_
  rintro e w3 ⟨rfl, bw⟩
  have hb3 : Below w.heap.size w (w3) := hb2.trans (bw.mono hb2.size)
  have HBv1_3 : Hid ((w3).heap[qv1]? = some (.cells #[.slice oCx n1 pCx, .slice oPx n2 pPx, .slice oKx n3 pKx, .slice oBx n4 pBx, .int .i64 s.nx, .int .i64 s.sq] 44)) := blk_below HBv1_2.out bw
  have HBv2_3 : Hid ((w3).heap[qv2]? = some (.cells #[.slice oCy n1 pCy, .slice oPy n2 pPy, .slice oKy n3 pKy, .slice oBy n4 pBy, .int .i64 s.nx, .int .i64 s.sq] 44)) := blk_below HBv2_2.out bw
  have Ex_3 : Hid (ShelfO (w3) Bx (.slice oCx n1 pCx) (.slice oPx n2 pPx) (.slice oKx n3 pKx) (.slice oBx n4 pBx) kvx s) := Ex_2.out.below bw
  have Ey_3 : Hid (ShelfO (w3) By (.slice oCy n1 pCy) (.slice oPy n2 pPy) (.slice oKy n3 pKy) (.slice oBy n4 pBy) kvy s) := Ey_2.out.below bw
  clear hb2 HBv1_2 HBv2_2 Ex_2 Ey_2 bw
  clear cv1_0 cv1_1 cv2_0 cv2_1
  have cv1_2 : (w3).cell? ⟨qv1, 2, none⟩ = some (.slice oKx n3 pKx) := (cell_of HBv1_3.out 2).trans rfl
  have cv2_2 : (w3).cell? ⟨qv2, 2, none⟩ = some (.slice oKy n3 pKy) := (cell_of HBv2_3.out 2).trans rfl
  go_wp2_with fail
  refine (eqKeptS_any _ _ kvx kvy Bx By _ HKE.out Ex_3.out.kept Ey_3.out.kept HN.out.2.2.1 HSZ.out).mono ?_
  rintro e w4 ⟨rfl, bw⟩
  have hb4 : Below w.heap.size w (w4) := hb3.trans (bw.mono hb3.size)
  have HBv1_4 : Hid ((w4).heap[qv1]? = some (.cells #[.slice oCx n1 pCx, .slice oPx n2 pPx, .slice oKx n3 pKx, .slice oBx n4 pBx, .int .i64 s.nx, .int .i64 s.sq] 44)) := blk_below HBv1_3.out bw
  have HBv2_4 : Hid ((w4).heap[qv2]? = some (.cells #[.slice oCy n1 pCy, .slice oPy n2 pPy, .slice oKy n3 pKy, .slice oBy n4 pBy, .int .i64 s.nx, .int .i64 s.sq] 44)) := blk_below HBv2_3.out bw
  have Ex_4 : Hid (ShelfO (w4) Bx (.slice oCx n1 pCx) (.slice oPx n2 pPx) (.slice oKx n3 pKx) (.slice oBx n4 pBx) kvx s) := Ex_3.out.below bw
  have Ey_4 : Hid (ShelfO (w4) By (.slice oCy n1 pCy) (.slice oPy n2 pPy) (.slice oKy n3 pKy) (.slice oBy n4 pBy) kvy s) := Ey_3.out.below bw
  clear hb3 HBv1_3 HBv2_3 Ex_3 Ey_3 bw
  clear cv1_2 cv2_2
  have cv1_3 : (w4).cell? ⟨qv1, 3, none⟩ = some (.slice oBx n4 pBx) := (cell_of HBv1_4.out 3).trans rfl
  have cv2_3 : (w4).cell? ⟨qv2, 3, none⟩ = some (.slice oBy n4 pBy) := (cell_of HBv2_4.out 3).trans rfl
  go_wp2_with fail
  refine (eqBanS_any _ _ n4 _ _ s.bl _ (ban_view (show World.ownsRow _ Bx 147 4 _ n4 (flatBan s.bl) from by have h := Ex_4.out.bans; rw [HL.out.2.2] at h; exact h)) (ban_view (show World.ownsRow _ By 147 4 _ n4 (flatBan s.bl) from by have h := Ey_4.out.bans; rw [HL.out.2.2] at h; exact h)) HN.out.2.2.2).mono ?_
  rintro e w5 ⟨rfl, bw⟩
  have hb5 : Below w.heap.size w (w5) := hb4.trans (bw.mono hb4.size)
  have HBv1_5 : Hid ((w5).heap[qv1]? = some (.cells #[.slice oCx n1 pCx, .slice oPx n2 pPx, .slice oKx n3 pKx, .slice oBx n4 pBx, .int .i64 s.nx, .int .i64 s.sq] 44)) := blk_below HBv1_4.out bw
  have HBv2_5 : Hid ((w5).heap[qv2]? = some (.cells #[.slice oCy n1 pCy, .slice oPy n2 pPy, .slice oKy n3 pKy, .slice oBy n4 pBy, .int .i64 s.nx, .int .i64 s.sq] 44)) := blk_below HBv2_4.out bw
  have Ex_5 : Hid (ShelfO (w5) Bx (.slice oCx n1 pCx) (.slice oPx n2 pPx) (.slice oKx n3 pKx) (.slice oBx n4 pBx) kvx s) := Ex_4.out.below bw
  have Ey_5 : Hid (ShelfO (w5) By (.slice oCy n1 pCy) (.slice oPy n2 pPy) (.slice oKy n3 pKy) (.slice oBy n4 pBy) kvy s) := Ey_4.out.below bw
  clear hb4 HBv1_4 HBv2_4 Ex_4 Ey_4 bw
  clear cv1_3 cv2_3
  have cv1_4 : (w5).cell? ⟨qv1, 4, none⟩ = some (.int .i64 s.nx) := (cell_of HBv1_5.out 4).trans rfl
  have cv2_4 : (w5).cell? ⟨qv2, 4, none⟩ = some (.int .i64 s.nx) := (cell_of HBv2_5.out 4).trans rfl
  have cv1_5 : (w5).cell? ⟨qv1, 5, none⟩ = some (.int .i64 s.sq) := (cell_of HBv1_5.out 5).trans rfl
  have cv2_5 : (w5).cell? ⟨qv2, 5, none⟩ = some (.int .i64 s.sq) := (cell_of HBv2_5.out 5).trans rfl
  go_wp2_with fail
  go_ret
  exact ⟨rfl, hb5⟩

theorem eqShelf_any (s : ShD) (v1 v2 V VB u1 u2 U UB : Value) (kvx kvy : List (KpD × Value × Value × Value)) (Bx By : Nat) (w : World) (hx : ShelfO w Bx v1 v2 V VB kvx s) (hy : ShelfO w By u1 u2 U UB kvy s) (h1 : s.cs.length ≤ 2000000) (h2 : s.ws.length ≤ 2000000) (h3 : s.ks.length ≤ 2000000) (h4 : s.bl.length ≤ 2000000) (hs : ∀ k ∈ s.ks, k.xs.length ≤ 2000000 ∧ k.ys.length ≤ 2000000 ∧ k.fs.length ≤ 2000000) :
    Calls Try.prog 25 #[.agg #[v1, v2, V, VB, .int .i64 s.nx, .int .i64 s.sq], .agg #[u1, u2, U, UB, .int .i64 s.nx, .int .i64 s.sq]] w fun e w' => e = .returned (.bool true) ∧ Below w.heap.size w w' := by
  obtain ⟨oCx, pCx, rfl⟩ := slice_of_owns hx.disk.cells
  obtain ⟨oPx, pPx, rfl⟩ := slice_of_owns hx.disk.pend
  obtain ⟨oBx, pBx, rfl⟩ := slice_of_owns hx.bans
  obtain ⟨oKx, pKx, rfl⟩ := hx.kept.len
  obtain ⟨oCy, pCy, rfl⟩ := slice_of_owns hy.disk.cells
  obtain ⟨oPy, pPy, rfl⟩ := slice_of_owns hy.disk.pend
  obtain ⟨oBy, pBy, rfl⟩ := slice_of_owns hy.bans
  obtain ⟨oKy, pKy, rfl⟩ := hy.kept.len
  have e1 : kvx.length = s.ks.length := by rw [← hx.2, List.length_map]
  have e2 : kvy.length = s.ks.length := by rw [← hy.2, List.length_map]
  rw [e1] at hx ⊢
  rw [e2] at hy ⊢
  exact eqShelf_go s _ _ _ _ oCx oPx oKx oBx oCy oPy oKy oBy pCx pPx pKx pBx pCy pPy pKy pBy kvx kvy Bx By w ⟨rfl, rfl, rfl⟩ ⟨h1, h2, by rw [e1]; exact h3, h4⟩ (fun x hxm => hs x.1 (by rw [← hx.2]; exact List.mem_map.2 ⟨x, hxm, rfl⟩)) (hx.2.trans hy.2.symm) hx hy

end Go.Proofs.Ytajccgffallajaa

namespace Go.Proofs.Ytajccgffallajaa
open Go.RowKit
open Go.Lib hiding intOf

/-- A store's measure: negative, or what is left of L. -/
def SzShelf (L : Int) (n1 : Nat) (cs : List ByteArray) (n2 : Nat) (ws : List (Int × ByteArray)) (ks : List KpD) (n4 : Nat) (bl : List (Int × ByteArray × ByteArray × Int)) (w : World) (e : Ending) (w' : World) : Prop :=
  ∃ r : Int, e = .returned (.int .i64 r) ∧ r ≤ L ∧ (0 ≤ r → r + (n1 : Int) + (n2 : Int) + (wtK ks : Int) + (n4 : Int) ≤ L ∧ (n1 ≤ 1048576 ∧ ∀ i, i < n1 → (textAt cs i).size ≤ 1048576) ∧ (n2 ≤ 1048576 ∧ ∀ x ∈ ws, (x.2).size ≤ 1048576) ∧ (∀ k ∈ ks, KpSmall k) ∧ (n4 ≤ 1048576 ∧ ∀ x ∈ bl, (x.2.1).size ≤ 1048576 ∧ (x.2.2.1).size ≤ 1048576)) ∧ Below w.heap.size w w'
set_option maxHeartbeats 8000000 in
set_option maxRecDepth 100000 in
theorem szShelf_any (L : Int) (hL0 : 0 ≤ L) (hL1 : L ≤ 1048576) (a1 : Option Addr) (n1 c1 : Nat) (cs : List ByteArray) (a2 : Option Addr) (n2 c2 : Nat) (ws : List (Int × ByteArray)) (a3 : Option Addr) (n3 c3 : Nat) (ks : List KpD) (a4 : Option Addr) (n4 c4 : Nat) (bl : List (Int × ByteArray × ByteArray × Int)) (nx sq : Int) (B : Nat) (w : World) (h1 : ArgT w B a1 n1 cs) (h2 : ArgWrite w B a2 n2 ws) (h3 : ArgKept w B a3 n3 ks) (h4 : ArgBan w B a4 n4 bl) (hB : B ≤ w.heap.size) (hm : n1 ≤ maxLen ∧ n2 ≤ maxLen ∧ n3 ≤ maxLen ∧ n4 ≤ maxLen ∧ (∀ i, i < n1 → (textAt cs i).size ≤ maxLen) ∧ (∀ x ∈ ws, (x.2).size ≤ maxLen) ∧ (∀ k ∈ ks, KpMax k) ∧ ∀ x ∈ bl, (x.2.1).size ≤ maxLen ∧ (x.2.2.1).size ≤ maxLen) :
    Calls Try.prog 16 #[.agg #[.slice a1 n1 c1, .slice a2 n2 c2, .slice a3 n3 c3, .slice a4 n4 c4, .int .i64 nx, .int .i64 sq], .int .i64 L] w fun e w' => SzShelf L n1 cs n2 ws ks n4 bl w e w' := by
  have HA1 : Hid (∀ W, Below w.heap.size w W → ArgT W B a1 n1 cs) := fun W h => h1.below (h.mono hB)
  have HA2 : Hid (∀ W, Below w.heap.size w W → ArgWrite W B a2 n2 ws) := fun W h => h2.below (h.mono hB)
  have HA3 : Hid (∀ W, Below w.heap.size w W → ArgKept W B a3 n3 ks) := fun W h => h3.below (h.mono hB)
  have HA4 : Hid (∀ W, Below w.heap.size w W → ArgBan W B a4 n4 bl) := fun W h => h4.below (h.mono hB)
  have HBB : Hid (∀ W, Below w.heap.size w W → B ≤ W.heap.size) := fun W h => Nat.le_trans hB h.size
  have HM : Hid (n1 ≤ maxLen ∧ n2 ≤ maxLen ∧ n3 ≤ maxLen ∧ n4 ≤ maxLen ∧ (∀ i, i < n1 → (textAt cs i).size ≤ maxLen) ∧ (∀ x ∈ ws, (x.2).size ≤ maxLen) ∧ (∀ k ∈ ks, KpMax k) ∧ ∀ x ∈ bl, (x.2.1).size ≤ maxLen ∧ (x.2.2.1).size ≤ maxLen) := hm
  clear h1 h2 h3 h4 hm hB
  have hb0 : Below w.heap.size w w := Below.refl _ _
  go_enter Try.func16, Try.ntmps16
  go_upto_region 1 with fail
  obtain ⟨qv1, hqv1⟩ : ∃ q, q = (w).heap.size := ⟨_, rfl⟩
  obtain ⟨w1, hW1⟩ : ∃ W, W = (w).alloc (.cells #[.slice a1 n1 c1, .slice a2 n2 c2, .slice a3 n3 c3, .slice a4 n4 c4, .int .i64 nx, .int .i64 sq] 29) := ⟨_, rfl⟩
  have hz1 : (w).heap.size = qv1 := hqv1.symm
  first | rw [← hW1, ← hqv1] | rw [← hW1]
  have hs1 : w1.heap.size = qv1 + 1 := by rw [hW1, ← hz1]; simp
  have bw : Below (w).heap.size (w) w1 := by rw [hW1]; exact (Below.refl _ _).alloc (Nat.le_refl _) _
  have hb1 : Below w.heap.size w (w1) := hb0.trans (bw.mono hb0.size)
  have HBv1_1 : Hid ((w1).heap[qv1]? = some (.cells #[.slice a1 n1 c1, .slice a2 n2 c2, .slice a3 n3 c3, .slice a4 n4 c4, .int .i64 nx, .int .i64 sq] 29)) := by show _ = _; rw [hW1, ← hz1]; exact heap_alloc_new _ _
  clear hb0 bw hW1 hz1
  clear hs1 hqv1
  have cv1_0 : (w1).cell? ⟨qv1, 0, none⟩ = some (.slice a1 n1 c1) := (cell_of HBv1_1.out 0).trans rfl
  have cv1_1 : (w1).cell? ⟨qv1, 1, none⟩ = some (.slice a2 n2 c2) := (cell_of HBv1_1.out 1).trans rfl
  go_wp2_with fail
  refine (szDisk_room L (by omega) (by omega) a1 n1 c1 cs a2 n2 c2 ws B _ (HA1.out _ hb1) (HA2.out _ hb1) (HBB.out _ hb1) HM.out.1 HM.out.2.1 HM.out.2.2.2.2.1 HM.out.2.2.2.2.2.1).mono ?_
  rintro e w2 ⟨r1, rfl, hl1, hr1, bw⟩
  have hb2 : Below w.heap.size w (w2) := hb1.trans (bw.mono hb1.size)
  have HBv1_2 : Hid ((w2).heap[qv1]? = some (.cells #[.slice a1 n1 c1, .slice a2 n2 c2, .slice a3 n3 c3, .slice a4 n4 c4, .int .i64 nx, .int .i64 sq] 29)) := blk_below HBv1_1.out bw
  clear hb1 HBv1_1 bw
  clear cv1_0 cv1_1
  by_cases hc1 : r1 < 0
  · clear hr1
    go_wp2_with fail
    go_ret
    exact ⟨-1, rfl, by omega, fun h => absurd h (by omega), hb2⟩
  · have HR1 : Hid _ := hr1 (by omega)
    clear hr1
    have m1 := HR1.out.1
    have cv1_2 : (w2).cell? ⟨qv1, 2, none⟩ = some (.slice a3 n3 c3) := (cell_of HBv1_2.out 2).trans rfl
    go_wp2_with fail
    refine (szKeptS_any r1 (by omega) (by omega) B a3 n3 c3 ks _ (HA3.out _ hb2) (HBB.out _ hb2) HM.out.2.2.1 HM.out.2.2.2.2.2.2.1).mono ?_
    rintro e w3 ⟨r2, rfl, hl2, hr2, bw⟩
    have hb3 : Below w.heap.size w (w3) := hb2.trans (bw.mono hb2.size)
    have HBv1_3 : Hid ((w3).heap[qv1]? = some (.cells #[.slice a1 n1 c1, .slice a2 n2 c2, .slice a3 n3 c3, .slice a4 n4 c4, .int .i64 nx, .int .i64 sq] 29)) := blk_below HBv1_2.out bw
    clear hb2 HBv1_2 bw
    clear cv1_2
    by_cases hc2 : r2 < 0
    · clear hr2
      go_wp2_with fail
      go_ret
      exact ⟨-1, rfl, by omega, fun h => absurd h (by omega), hb3⟩
    · have HR2 : Hid _ := hr2 (by omega)
      clear hr2
      have m2 := HR2.out.1
      have cv1_3 : (w3).cell? ⟨qv1, 3, none⟩ = some (.slice a4 n4 c4) := (cell_of HBv1_3.out 3).trans rfl
      go_wp2_with fail
      refine (szBanS_room r2 (by omega) (by omega) B a4 n4 c4 bl _ (HA4.out _ hb3) (HBB.out _ hb3) HM.out.2.2.2.1 HM.out.2.2.2.2.2.2.2).mono ?_
      rintro e w4 ⟨r3, rfl, hl3, hr3, bw⟩
      have hb4 : Below w.heap.size w (w4) := hb3.trans (bw.mono hb3.size)
      have HBv1_4 : Hid ((w4).heap[qv1]? = some (.cells #[.slice a1 n1 c1, .slice a2 n2 c2, .slice a3 n3 c3, .slice a4 n4 c4, .int .i64 nx, .int .i64 sq] 29)) := blk_below HBv1_3.out bw
      clear hb3 HBv1_3 bw
      clear cv1_3
      by_cases hc3 : r3 < 0
      · clear hr3
        go_wp2_with fail
        go_ret
        exact ⟨-1, rfl, by omega, fun h => absurd h (by omega), hb4⟩
      · have HR3 : Hid _ := hr3 (by omega)
        clear hr3
        have m3 := HR3.out.1
        go_wp2_with fail
        go_ret
        exact ⟨r3, rfl, by omega, fun _ => ⟨by omega, HR1.out.2.1, HR1.out.2.2, HR2.out.2, HR3.out.2⟩, hb4⟩

end Go.Proofs.Ytajccgffallajaa

namespace Go.Proofs.Ytajccgffallajaa
open Go.RowKit Go.WideShapes
open Go.Lib hiding intOf

/-- What a cache tells. -/
structure CaD where
  s : ShD
  fl : List FlD
  now : Int
  se : List SeD
  sn : List RpD
/-- All rows of a cache. -/
def caAll (v1 v2 V VB F E R : Value) (kv : List (KpD × Value × Value × Value)) (fv : List FlV) (ev : List SeV) (rv : List RpV) (cs : List ByteArray) (ws : List (Int × ByteArray)) (bl : List (Int × ByteArray × ByteArray × Int)) : List Rw := ((shAll v1 v2 V VB kv cs ws bl ++ flAll F fv) ++ seAll E ev) ++ rpAll R rv
/-- A cache of one's own. -/
structure CacheO (w : World) (base : Nat) (v1 v2 V VB F E R : Value) (kv : List (KpD × Value × Value × Value)) (fv : List FlV) (ev : List SeV) (rv : List RpV) (c : CaD) : Prop where
  rows : RowsO w base (caAll v1 v2 V VB F E R kv fv ev rv c.s.cs c.s.ws c.s.bl)
  hk : kv.map (·.1) = c.s.ks
  hf : fv.map (·.d) = c.fl
  he : ev.map (·.d) = c.se
  hr : rv.map (·.d) = c.sn
theorem CacheO.shelf {w : World} {base : Nat} {v1 v2 V VB F E R : Value} {kv : List (KpD × Value × Value × Value)} {fv : List FlV} {ev : List SeV} {rv : List RpV} {c : CaD} (h : CacheO w base v1 v2 V VB F E R kv fv ev rv c) : ShelfO w base v1 v2 V VB kv c.s := ⟨RowsO.sub h.rows ((List.sublist_append_left _ _).trans ((List.sublist_append_left _ _).trans (List.sublist_append_left _ _))), h.hk⟩
theorem CacheO.fls {w : World} {base : Nat} {v1 v2 V VB F E R : Value} {kv : List (KpD × Value × Value × Value)} {fv : List FlV} {ev : List SeV} {rv : List RpV} {c : CaD} (h : CacheO w base v1 v2 V VB F E R kv fv ev rv c) : FlsO w base F fv := RowsO.sub h.rows ((List.sublist_append_right _ _).trans ((List.sublist_append_left _ _).trans (List.sublist_append_left _ _)))
theorem CacheO.ses {w : World} {base : Nat} {v1 v2 V VB F E R : Value} {kv : List (KpD × Value × Value × Value)} {fv : List FlV} {ev : List SeV} {rv : List RpV} {c : CaD} (h : CacheO w base v1 v2 V VB F E R kv fv ev rv c) : SesO w base E ev := RowsO.sub h.rows ((List.sublist_append_right _ _).trans (List.sublist_append_left _ _))
theorem CacheO.rps {w : World} {base : Nat} {v1 v2 V VB F E R : Value} {kv : List (KpD × Value × Value × Value)} {fv : List FlV} {ev : List SeV} {rv : List RpV} {c : CaD} (h : CacheO w base v1 v2 V VB F E R kv fv ev rv c) : RpsO w base R rv := RowsO.sub h.rows (List.sublist_append_right _ _)
theorem CacheO.below {w : World} {base : Nat} {v1 v2 V VB F E R : Value} {kv : List (KpD × Value × Value × Value)} {fv : List FlV} {ev : List SeV} {rv : List RpV} {c : CaD} {w' : World} (h : CacheO w base v1 v2 V VB F E R kv fv ev rv c) (hb : Below w.heap.size w w') : CacheO w' base v1 v2 V VB F E R kv fv ev rv c := ⟨h.rows.below hb, h.hk, h.hf, h.he, h.hr⟩
theorem flAll_T {V : Value} {kv : List FlV} {r : Rw} (h : r ∈ flAll V kv) : r.T = 70 ∨ r.T = 167 ∨ r.T = 3 ∨ r.T = 9 := by
  rcases List.mem_cons.1 h with h | h
  · exact .inl (by rw [h]; rfl)
  · obtain ⟨x, _, hx⟩ := List.mem_flatMap.1 h
    exact .inr (flR_T hx)
theorem seAll_T {V : Value} {kv : List SeV} {r : Rw} (h : r ∈ seAll V kv) : r.T = 110 ∨ r.T = 167 := by
  rcases List.mem_cons.1 h with h | h
  · exact .inl (by rw [h]; rfl)
  · obtain ⟨x, _, hx⟩ := List.mem_flatMap.1 h
    exact .inr (seR_T hx)
theorem rpAll_T {V : Value} {kv : List RpV} {r : Rw} (h : r ∈ rpAll V kv) : r.T = 85 ∨ r.T = 167 ∨ r.T = 9 := by
  rcases List.mem_cons.1 h with h | h
  · exact .inl (by rw [h]; rfl)
  · obtain ⟨x, _, hx⟩ := List.mem_flatMap.1 h
    exact .inr (rpR_T hx)
theorem shAll_noC (T : TypeId) (hT : T ≠ 9 ∧ T ≠ 172 ∧ T ≠ 145 ∧ T ≠ 147 ∧ T ≠ 167 ∧ T ≠ 3 ∧ T ≠ 70 ∧ T ≠ 110 ∧ T ≠ 85) {v1 v2 V VB : Value} {kv : List (KpD × Value × Value × Value)} {cs : List ByteArray} {ws : List (Int × ByteArray)} {bl : List (Int × ByteArray × ByteArray × Int)} : ∀ r ∈ shAll v1 v2 V VB kv cs ws bl, T ≠ r.T := by
  intro r hr
  unfold shAll at hr
  rcases List.mem_append.1 hr with hr | hr
  · rcases List.mem_append.1 hr with hr | hr
    · simp only [List.mem_cons, List.not_mem_nil, or_false] at hr
      rcases hr with rfl | rfl
      · exact hT.1
      · exact hT.2.1
    · rcases kpAll_T hr with e | e | e
      · rw [e]; exact hT.2.2.1
      · rw [e]; exact hT.1
      · rw [e]; exact hT.2.2.2.2.1
  · rw [List.mem_singleton.1 hr]; exact hT.2.2.2.1
theorem caAll_noC (T : TypeId) (hT : T ≠ 9 ∧ T ≠ 172 ∧ T ≠ 145 ∧ T ≠ 147 ∧ T ≠ 167 ∧ T ≠ 3 ∧ T ≠ 70 ∧ T ≠ 110 ∧ T ≠ 85) {v1 v2 V VB F E R : Value} {kv : List (KpD × Value × Value × Value)} {fv : List FlV} {ev : List SeV} {rv : List RpV} {cs : List ByteArray} {ws : List (Int × ByteArray)} {bl : List (Int × ByteArray × ByteArray × Int)} : ∀ r ∈ caAll v1 v2 V VB F E R kv fv ev rv cs ws bl, T ≠ r.T := by
  intro r hr
  unfold caAll at hr
  rcases List.mem_append.1 hr with hr | hr
  · rcases List.mem_append.1 hr with hr | hr
    · rcases List.mem_append.1 hr with hr | hr
      · exact shAll_noC T hT r hr
      · rcases flAll_T hr with e | e | e | e
        · rw [e]; exact hT.2.2.2.2.2.2.1
        · rw [e]; exact hT.2.2.2.2.1
        · rw [e]; exact hT.2.2.2.2.2.1
        · rw [e]; exact hT.1
    · rcases seAll_T hr with e | e
      · rw [e]; exact hT.2.2.2.2.2.2.2.1
      · rw [e]; exact hT.2.2.2.2.1
  · rcases rpAll_T hr with e | e | e
    · rw [e]; exact hT.2.2.2.2.2.2.2.2
    · rw [e]; exact hT.2.2.2.2.1
    · rw [e]; exact hT.1
/-- A call answers a cache of its own. -/
def CacheIs (c : CaD) (w : World) (e : Ending) (w' : World) : Prop := ∃ (v1 v2 V VB F E R : Value) (kv : List (KpD × Value × Value × Value)) (fv : List FlV) (ev : List SeV) (rv : List RpV), e = .returned (.agg #[v1, v2, V, VB, .int .i64 c.s.nx, .int .i64 c.s.sq, F, .int .i64 c.now, E, R]) ∧ CacheO w' w.heap.size v1 v2 V VB F E R kv fv ev rv c ∧ Below w.heap.size w w'

/-- Short enough to be copied. -/
structure CaLen (n1 n2 n3 n4 n5 n6 n7 : Nat) (ks : List KpD) (fl : List FlD) (se : List SeD) (sn : List RpD) : Prop where
  a : n1 ≤ 1048576
  b : n2 ≤ 1048576
  c : n3 ≤ 1048576
  d : n4 ≤ 1048576
  e : n5 ≤ 1048576
  f : n6 ≤ 1048576
  g : n7 ≤ 1048576
  ks : ∀ k ∈ ks, k.xs.length ≤ 1048576 ∧ k.ys.length ≤ 1048576 ∧ k.fs.length ≤ 1048576
  fl : ∀ k ∈ fl, FlLen k
  se : ∀ k ∈ se, SeLen k
  sn : ∀ k ∈ sn, RpLen k

set_option maxHeartbeats 8000000 in
set_option maxRecDepth 100000 in
theorem toCache_any (a1 : Option Addr) (n1 c1 : Nat) (cs : List ByteArray) (a2 : Option Addr) (n2 c2 : Nat) (ws : List (Int × ByteArray)) (a3 : Option Addr) (n3 c3 : Nat) (ks : List KpD) (a4 : Option Addr) (n4 c4 : Nat) (bl : List (Int × ByteArray × ByteArray × Int)) (nx sq : Int) (a5 : Option Addr) (n5 c5 : Nat) (fl : List FlD) (now : Int) (a6 : Option Addr) (n6 c6 : Nat) (se : List SeD) (a7 : Option Addr) (n7 c7 : Nat) (sn : List RpD) (B : Nat) (w : World) (h1 : ArgT w B a1 n1 cs) (h2 : ArgWrite w B a2 n2 ws) (h3 : ArgKept w B a3 n3 ks) (h4 : ArgBan w B a4 n4 bl) (h5 : ArgFlight w B a5 n5 fl) (h6 : ArgSeen w B a6 n6 se) (h7 : ArgReply w B a7 n7 sn) (hB : B ≤ w.heap.size) (hn : CaLen n1 n2 n3 n4 n5 n6 n7 ks fl se sn) :
    Calls Try.prog 7 #[.agg #[.slice a1 n1 c1, .slice a2 n2 c2, .slice a3 n3 c3, .slice a4 n4 c4, .int .i64 nx, .int .i64 sq, .slice a5 n5 c5, .int .i64 now, .slice a6 n6 c6, .slice a7 n7 c7]] w fun e w' => CacheIs ⟨⟨cs, ws, ks, bl, nx, sq⟩, fl, now, se, sn⟩ w e w' := by
  have HA1 : Hid (∀ W, Below w.heap.size w W → ArgT W B a1 n1 cs) := fun W h => h1.below (h.mono hB)
  have HA2 : Hid (∀ W, Below w.heap.size w W → ArgWrite W B a2 n2 ws) := fun W h => h2.below (h.mono hB)
  have HA3 : Hid (∀ W, Below w.heap.size w W → ArgKept W B a3 n3 ks) := fun W h => h3.below (h.mono hB)
  have HA4 : Hid (∀ W, Below w.heap.size w W → ArgBan W B a4 n4 bl) := fun W h => h4.below (h.mono hB)
  have HA5 : Hid (∀ W, Below w.heap.size w W → ArgFlight W B a5 n5 fl) := fun W h => h5.below (h.mono hB)
  have HA6 : Hid (∀ W, Below w.heap.size w W → ArgSeen W B a6 n6 se) := fun W h => h6.below (h.mono hB)
  have HA7 : Hid (∀ W, Below w.heap.size w W → ArgReply W B a7 n7 sn) := fun W h => h7.below (h.mono hB)
  have HBB : Hid (∀ W, Below w.heap.size w W → B ≤ W.heap.size) := fun W h => Nat.le_trans hB h.size
  have HN : Hid (CaLen n1 n2 n3 n4 n5 n6 n7 ks fl se sn) := hn
  clear h1 h2 h3 h4 h5 h6 h7 hn hB
  have hb0 : Below w.heap.size w w := Below.refl _ _
  go_enter Try.func7, Try.ntmps7
  go_upto_region 1 with fail
  obtain ⟨qv1, hqv1⟩ : ∃ q, q = (w).heap.size := ⟨_, rfl⟩
  obtain ⟨w1, hW1⟩ : ∃ W, W = (w).alloc (.cells #[.slice a1 n1 c1, .slice a2 n2 c2, .slice a3 n3 c3, .slice a4 n4 c4, .int .i64 nx, .int .i64 sq, .slice a5 n5 c5, .int .i64 now, .slice a6 n6 c6, .slice a7 n7 c7] 34) := ⟨_, rfl⟩
  have hz1 : (w).heap.size = qv1 := hqv1.symm
  first | rw [← hW1, ← hqv1] | rw [← hW1]
  have hs1 : w1.heap.size = qv1 + 1 := by rw [hW1, ← hz1]; simp
  have bw : Below (w).heap.size (w) w1 := by rw [hW1]; exact (Below.refl _ _).alloc (Nat.le_refl _) _
  have hb1 : Below w.heap.size w (w1) := hb0.trans (bw.mono hb0.size)
  have HBv1_1 : Hid ((w1).heap[qv1]? = some (.cells #[.slice a1 n1 c1, .slice a2 n2 c2, .slice a3 n3 c3, .slice a4 n4 c4, .int .i64 nx, .int .i64 sq, .slice a5 n5 c5, .int .i64 now, .slice a6 n6 c6, .slice a7 n7 c7] 34)) := by show _ = _; rw [hW1, ← hz1]; exact heap_alloc_new _ _
  clear hb0 bw hW1 hz1
  obtain ⟨qv2, hqv2⟩ : ∃ q, q = qv1 + 1 := ⟨_, rfl⟩
  obtain ⟨w2, hW2⟩ : ∃ W, W = (w1).alloc (.cells #[.slice none 0 0, .slice none 0 0, .slice none 0 0, .slice none 0 0, .int .i64 0, .int .i64 0, .slice none 0 0, .int .i64 0, .slice none 0 0, .slice none 0 0] 49) := ⟨_, rfl⟩
  have hz2 : (w1).heap.size = qv2 := by rw [hqv2]; exact hs1
  first | rw [← hW2, ← hqv2] | rw [← hW2]
  have hs2 : w2.heap.size = qv2 + 1 := by rw [hW2, ← hz2]; simp
  have bw : Below (w1).heap.size (w1) w2 := by rw [hW2]; exact (Below.refl _ _).alloc (Nat.le_refl _) _
  have hb2 : Below w.heap.size w (w2) := hb1.trans (bw.mono hb1.size)
  have HBv1_2 : Hid ((w2).heap[qv1]? = some (.cells #[.slice a1 n1 c1, .slice a2 n2 c2, .slice a3 n3 c3, .slice a4 n4 c4, .int .i64 nx, .int .i64 sq, .slice a5 n5 c5, .int .i64 now, .slice a6 n6 c6, .slice a7 n7 c7] 34)) := blk_below HBv1_1.out bw
  have HNv1v2 : Hid (qv1 ≠ qv2) := fun e => by have h1 := (Array.getElem?_eq_some_iff.1 HBv1_1.out).1; omega
  have HBv2_2 : Hid ((w2).heap[qv2]? = some (.cells #[.slice none 0 0, .slice none 0 0, .slice none 0 0, .slice none 0 0, .int .i64 0, .int .i64 0, .slice none 0 0, .int .i64 0, .slice none 0 0, .slice none 0 0] 49)) := by show _ = _; rw [hW2, ← hz2]; exact heap_alloc_new _ _
  have HGv2 : Hid (w.heap.size ≤ qv2) := by show _ ≤ _; rw [← hz2]; exact hb1.size
  clear hb1 HBv1_1 bw hW2 hz2
  clear hs2 hqv2 hs1 hqv1
  go_upto_region 2 with fail
  obtain ⟨qv3, hqv3⟩ : ∃ q, q = (w2).heap.size := ⟨_, rfl⟩
  obtain ⟨w3, hW3⟩ : ∃ W, W = (w2).alloc (.cells #[.slice none 0 0, .slice none 0 0, .slice none 0 0, .slice none 0 0, .int .i64 0, .int .i64 0, .slice none 0 0, .int .i64 0, .slice none 0 0, .slice none 0 0] 49) := ⟨_, rfl⟩
  have hz3 : (w2).heap.size = qv3 := hqv3.symm
  first | rw [← hW3, ← hqv3] | rw [← hW3]
  have hs3 : w3.heap.size = qv3 + 1 := by rw [hW3, ← hz3]; simp
  have bw : Below (w2).heap.size (w2) w3 := by rw [hW3]; exact (Below.refl _ _).alloc (Nat.le_refl _) _
  have hb3 : Below w.heap.size w (w3) := hb2.trans (bw.mono hb2.size)
  have HBv1_3 : Hid ((w3).heap[qv1]? = some (.cells #[.slice a1 n1 c1, .slice a2 n2 c2, .slice a3 n3 c3, .slice a4 n4 c4, .int .i64 nx, .int .i64 sq, .slice a5 n5 c5, .int .i64 now, .slice a6 n6 c6, .slice a7 n7 c7] 34)) := blk_below HBv1_2.out bw
  have HBv2_3 : Hid ((w3).heap[qv2]? = some (.cells #[.slice none 0 0, .slice none 0 0, .slice none 0 0, .slice none 0 0, .int .i64 0, .int .i64 0, .slice none 0 0, .int .i64 0, .slice none 0 0, .slice none 0 0] 49)) := blk_below HBv2_2.out bw
  have HNv1v3 : Hid (qv1 ≠ qv3) := fun e => by have h1 := (Array.getElem?_eq_some_iff.1 HBv1_2.out).1; omega
  have HNv2v3 : Hid (qv2 ≠ qv3) := fun e => by have h1 := (Array.getElem?_eq_some_iff.1 HBv2_2.out).1; omega
  have HBv3_3 : Hid ((w3).heap[qv3]? = some (.cells #[.slice none 0 0, .slice none 0 0, .slice none 0 0, .slice none 0 0, .int .i64 0, .int .i64 0, .slice none 0 0, .int .i64 0, .slice none 0 0, .slice none 0 0] 49)) := by show _ = _; rw [hW3, ← hz3]; exact heap_alloc_new _ _
  have HGv3 : Hid (w.heap.size ≤ qv3) := by show _ ≤ _; rw [← hz3]; exact hb2.size
  clear hb2 HBv1_2 HBv2_2 bw hW3 hz3
  clear hs3 hqv3
  have cv1_0 : (w3).cell? ⟨qv1, 0, none⟩ = some (.slice a1 n1 c1) := (cell_of HBv1_3.out 0).trans rfl
  have cv1_1 : (w3).cell? ⟨qv1, 1, none⟩ = some (.slice a2 n2 c2) := (cell_of HBv1_3.out 1).trans rfl
  have cv1_2 : (w3).cell? ⟨qv1, 2, none⟩ = some (.slice a3 n3 c3) := (cell_of HBv1_3.out 2).trans rfl
  have cv1_3 : (w3).cell? ⟨qv1, 3, none⟩ = some (.slice a4 n4 c4) := (cell_of HBv1_3.out 3).trans rfl
  have cv1_4 : (w3).cell? ⟨qv1, 4, none⟩ = some (.int .i64 nx) := (cell_of HBv1_3.out 4).trans rfl
  have cv1_5 : (w3).cell? ⟨qv1, 5, none⟩ = some (.int .i64 sq) := (cell_of HBv1_3.out 5).trans rfl
  go_wp2_with fail
  refine (toShelf_any a1 n1 c1 cs a2 n2 c2 ws a3 n3 c3 ks a4 n4 c4 bl nx sq B _ (HA1.out _ hb3) (HA2.out _ hb3) (HA3.out _ hb3) (HA4.out _ hb3) (HBB.out _ hb3) HN.out.a HN.out.b HN.out.c HN.out.d HN.out.ks).mono ?_
  rintro e w4 ⟨va, vb, vc, vd, kv, rfl, hso, bw⟩
  have HKM : Hid (kv.map (·.1) = ks) := hso.2
  obtain ⟨oC, pC, rfl⟩ := slice_of_owns hso.disk.cells
  obtain ⟨oP, pP, rfl⟩ := slice_of_owns hso.disk.pend
  obtain ⟨oK, pK, rfl⟩ := hso.kept.len
  obtain ⟨oB, pB, rfl⟩ := slice_of_owns hso.bans
  dsimp only at hso ⊢
  have HRN : Hid (RowsO w4 w.heap.size (shAll (.slice oC cs.length pC) (.slice oP ws.length pP) (.slice oK kv.length pK) (.slice oB bl.length pB) kv cs ws bl)) := RowsO.wide hso.1 hb3.size
  have HT0 : Hid (∀ r ∈ (shAll (.slice oC cs.length pC) (.slice oP ws.length pP) (.slice oK kv.length pK) (.slice oB bl.length pB) kv cs ws bl), 49 ≠ r.T) := shAll_noC 49 ⟨by decide, by decide, by decide, by decide, by decide, by decide, by decide, by decide, by decide⟩
  have hb4 : Below w.heap.size w (w4) := hb3.trans (bw.mono hb3.size)
  have HBv1_4 : Hid ((w4).heap[qv1]? = some (.cells #[.slice a1 n1 c1, .slice a2 n2 c2, .slice a3 n3 c3, .slice a4 n4 c4, .int .i64 nx, .int .i64 sq, .slice a5 n5 c5, .int .i64 now, .slice a6 n6 c6, .slice a7 n7 c7] 34)) := blk_below HBv1_3.out bw
  have HBv2_4 : Hid ((w4).heap[qv2]? = some (.cells #[.slice none 0 0, .slice none 0 0, .slice none 0 0, .slice none 0 0, .int .i64 0, .int .i64 0, .slice none 0 0, .int .i64 0, .slice none 0 0, .slice none 0 0] 49)) := blk_below HBv2_3.out bw
  have HBv3_4 : Hid ((w4).heap[qv3]? = some (.cells #[.slice none 0 0, .slice none 0 0, .slice none 0 0, .slice none 0 0, .int .i64 0, .int .i64 0, .slice none 0 0, .int .i64 0, .slice none 0 0, .slice none 0 0] 49)) := blk_below HBv3_3.out bw
  clear hb3 HBv1_3 HBv2_3 HBv3_3 bw
  have ER_4 : Hid (RowsO (w4) w.heap.size (shAll (.slice oC cs.length pC) (.slice oP ws.length pP) (.slice oK kv.length pK) (.slice oB bl.length pB) kv cs ws bl)) := HRN.out
  clear HRN
  clear cv1_0 cv1_1 cv1_2 cv1_3 cv1_4 cv1_5
  have cv3_0 : (w4).cell? ⟨qv3, 0, none⟩ = some (.slice none 0 0) := (cell_of HBv3_4.out 0).trans rfl
  have fcv3_0 : (w4).frozen? ⟨qv3, 0, none⟩ = false := frozen_of HBv3_4.out 0
  have cv3_1 : (w4).cell? ⟨qv3, 1, none⟩ = some (.slice none 0 0) := (cell_of HBv3_4.out 1).trans rfl
  have fcv3_1 : (w4).frozen? ⟨qv3, 1, none⟩ = false := frozen_of HBv3_4.out 1
  have cv3_2 : (w4).cell? ⟨qv3, 2, none⟩ = some (.slice none 0 0) := (cell_of HBv3_4.out 2).trans rfl
  have fcv3_2 : (w4).frozen? ⟨qv3, 2, none⟩ = false := frozen_of HBv3_4.out 2
  have cv3_3 : (w4).cell? ⟨qv3, 3, none⟩ = some (.slice none 0 0) := (cell_of HBv3_4.out 3).trans rfl
  have fcv3_3 : (w4).frozen? ⟨qv3, 3, none⟩ = false := frozen_of HBv3_4.out 3
  have cv3_4 : (w4).cell? ⟨qv3, 4, none⟩ = some (.int .i64 0) := (cell_of HBv3_4.out 4).trans rfl
  have fcv3_4 : (w4).frozen? ⟨qv3, 4, none⟩ = false := frozen_of HBv3_4.out 4
  have cv3_5 : (w4).cell? ⟨qv3, 5, none⟩ = some (.int .i64 0) := (cell_of HBv3_4.out 5).trans rfl
  have fcv3_5 : (w4).frozen? ⟨qv3, 5, none⟩ = false := frozen_of HBv3_4.out 5
  go_upto_region 3 with fail
  obtain ⟨w5, hW5⟩ : ∃ W, W = (w4).setCell ⟨qv3, 0, none⟩ (.slice oC cs.length pC) := ⟨_, rfl⟩
  rw [← hW5]
  have hb5 : Below w.heap.size w (w5) := by rw [hW5]; exact (hb4.setCell (p := ⟨qv3, 0, none⟩) HGv3.out _)
  have HBv1_5 : Hid ((w5).heap[qv1]? = some (.cells #[.slice a1 n1 c1, .slice a2 n2 c2, .slice a3 n3 c3, .slice a4 n4 c4, .int .i64 nx, .int .i64 sq, .slice a5 n5 c5, .int .i64 now, .slice a6 n6 c6, .slice a7 n7 c7] 34)) := by show _ = _; rw [hW5, heap_setCell_other _ _ _ _ HNv1v3.out]; exact HBv1_4.out
  have HBv2_5 : Hid ((w5).heap[qv2]? = some (.cells #[.slice none 0 0, .slice none 0 0, .slice none 0 0, .slice none 0 0, .int .i64 0, .int .i64 0, .slice none 0 0, .int .i64 0, .slice none 0 0, .slice none 0 0] 49)) := by show _ = _; rw [hW5, heap_setCell_other _ _ _ _ HNv2v3.out]; exact HBv2_4.out
  have ER_5 : Hid (RowsO (w5) w.heap.size (shAll (.slice oC cs.length pC) (.slice oP ws.length pP) (.slice oK kv.length pK) (.slice oB bl.length pB) kv cs ws bl)) := by show RowsO _ _ _; rw [hW5]; exact RowsO.other ER_4.out HBv3_4.out HT0.out
  have HBv3_5 : Hid ((w5).heap[qv3]? = some (.cells #[.slice oC cs.length pC, .slice none 0 0, .slice none 0 0, .slice none 0 0, .int .i64 0, .int .i64 0, .slice none 0 0, .int .i64 0, .slice none 0 0, .slice none 0 0] 49)) := by show _ = _; rw [hW5]; have h := heap_set _ _ 0 _ _ _ (.slice oC cs.length pC) HBv3_4.out; simpa using h
  clear hb4 HBv1_4 HBv2_4 HBv3_4 ER_4 hW5
  obtain ⟨w6, hW6⟩ : ∃ W, W = (w5).setCell ⟨qv3, 1, none⟩ (.slice oP ws.length pP) := ⟨_, rfl⟩
  rw [← hW6]
  have hb6 : Below w.heap.size w (w6) := by rw [hW6]; exact (hb5.setCell (p := ⟨qv3, 1, none⟩) HGv3.out _)
  have HBv1_6 : Hid ((w6).heap[qv1]? = some (.cells #[.slice a1 n1 c1, .slice a2 n2 c2, .slice a3 n3 c3, .slice a4 n4 c4, .int .i64 nx, .int .i64 sq, .slice a5 n5 c5, .int .i64 now, .slice a6 n6 c6, .slice a7 n7 c7] 34)) := by show _ = _; rw [hW6, heap_setCell_other _ _ _ _ HNv1v3.out]; exact HBv1_5.out
  have HBv2_6 : Hid ((w6).heap[qv2]? = some (.cells #[.slice none 0 0, .slice none 0 0, .slice none 0 0, .slice none 0 0, .int .i64 0, .int .i64 0, .slice none 0 0, .int .i64 0, .slice none 0 0, .slice none 0 0] 49)) := by show _ = _; rw [hW6, heap_setCell_other _ _ _ _ HNv2v3.out]; exact HBv2_5.out
  have ER_6 : Hid (RowsO (w6) w.heap.size (shAll (.slice oC cs.length pC) (.slice oP ws.length pP) (.slice oK kv.length pK) (.slice oB bl.length pB) kv cs ws bl)) := by show RowsO _ _ _; rw [hW6]; exact RowsO.other ER_5.out HBv3_5.out HT0.out
  have HBv3_6 : Hid ((w6).heap[qv3]? = some (.cells #[.slice oC cs.length pC, .slice oP ws.length pP, .slice none 0 0, .slice none 0 0, .int .i64 0, .int .i64 0, .slice none 0 0, .int .i64 0, .slice none 0 0, .slice none 0 0] 49)) := by show _ = _; rw [hW6]; have h := heap_set _ _ 1 _ _ _ (.slice oP ws.length pP) HBv3_5.out; simpa using h
  clear hb5 HBv1_5 HBv2_5 HBv3_5 ER_5 hW6
  obtain ⟨w7, hW7⟩ : ∃ W, W = (w6).setCell ⟨qv3, 2, none⟩ (.slice oK kv.length pK) := ⟨_, rfl⟩
  rw [← hW7]
  have hb7 : Below w.heap.size w (w7) := by rw [hW7]; exact (hb6.setCell (p := ⟨qv3, 2, none⟩) HGv3.out _)
  have HBv1_7 : Hid ((w7).heap[qv1]? = some (.cells #[.slice a1 n1 c1, .slice a2 n2 c2, .slice a3 n3 c3, .slice a4 n4 c4, .int .i64 nx, .int .i64 sq, .slice a5 n5 c5, .int .i64 now, .slice a6 n6 c6, .slice a7 n7 c7] 34)) := by show _ = _; rw [hW7, heap_setCell_other _ _ _ _ HNv1v3.out]; exact HBv1_6.out
  have HBv2_7 : Hid ((w7).heap[qv2]? = some (.cells #[.slice none 0 0, .slice none 0 0, .slice none 0 0, .slice none 0 0, .int .i64 0, .int .i64 0, .slice none 0 0, .int .i64 0, .slice none 0 0, .slice none 0 0] 49)) := by show _ = _; rw [hW7, heap_setCell_other _ _ _ _ HNv2v3.out]; exact HBv2_6.out
  have ER_7 : Hid (RowsO (w7) w.heap.size (shAll (.slice oC cs.length pC) (.slice oP ws.length pP) (.slice oK kv.length pK) (.slice oB bl.length pB) kv cs ws bl)) := by show RowsO _ _ _; rw [hW7]; exact RowsO.other ER_6.out HBv3_6.out HT0.out
  have HBv3_7 : Hid ((w7).heap[qv3]? = some (.cells #[.slice oC cs.length pC, .slice oP ws.length pP, .slice oK kv.length pK, .slice none 0 0, .int .i64 0, .int .i64 0, .slice none 0 0, .int .i64 0, .slice none 0 0, .slice none 0 0] 49)) := by show _ = _; rw [hW7]; have h := heap_set _ _ 2 _ _ _ (.slice oK kv.length pK) HBv3_6.out; simpa using h
  clear hb6 HBv1_6 HBv2_6 HBv3_6 ER_6 hW7
  obtain ⟨w8, hW8⟩ : ∃ W, W = (w7).setCell ⟨qv3, 3, none⟩ (.slice oB bl.length pB) := ⟨_, rfl⟩
  rw [← hW8]
  have hb8 : Below w.heap.size w (w8) := by rw [hW8]; exact (hb7.setCell (p := ⟨qv3, 3, none⟩) HGv3.out _)
  have HBv1_8 : Hid ((w8).heap[qv1]? = some (.cells #[.slice a1 n1 c1, .slice a2 n2 c2, .slice a3 n3 c3, .slice a4 n4 c4, .int .i64 nx, .int .i64 sq, .slice a5 n5 c5, .int .i64 now, .slice a6 n6 c6, .slice a7 n7 c7] 34)) := by show _ = _; rw [hW8, heap_setCell_other _ _ _ _ HNv1v3.out]; exact HBv1_7.out
  have HBv2_8 : Hid ((w8).heap[qv2]? = some (.cells #[.slice none 0 0, .slice none 0 0, .slice none 0 0, .slice none 0 0, .int .i64 0, .int .i64 0, .slice none 0 0, .int .i64 0, .slice none 0 0, .slice none 0 0] 49)) := by show _ = _; rw [hW8, heap_setCell_other _ _ _ _ HNv2v3.out]; exact HBv2_7.out
  have ER_8 : Hid (RowsO (w8) w.heap.size (shAll (.slice oC cs.length pC) (.slice oP ws.length pP) (.slice oK kv.length pK) (.slice oB bl.length pB) kv cs ws bl)) := by show RowsO _ _ _; rw [hW8]; exact RowsO.other ER_7.out HBv3_7.out HT0.out
  have HBv3_8 : Hid ((w8).heap[qv3]? = some (.cells #[.slice oC cs.length pC, .slice oP ws.length pP, .slice oK kv.length pK, .slice oB bl.length pB, .int .i64 0, .int .i64 0, .slice none 0 0, .int .i64 0, .slice none 0 0, .slice none 0 0] 49)) := by show _ = _; rw [hW8]; have h := heap_set _ _ 3 _ _ _ (.slice oB bl.length pB) HBv3_7.out; simpa using h
  clear hb7 HBv1_7 HBv2_7 HBv3_7 ER_7 hW8
  obtain ⟨w9, hW9⟩ : ∃ W, W = (w8).setCell ⟨qv3, 4, none⟩ (.int .i64 nx) := ⟨_, rfl⟩
  rw [← hW9]
  have hb9 : Below w.heap.size w (w9) := by rw [hW9]; exact (hb8.setCell (p := ⟨qv3, 4, none⟩) HGv3.out _)
  have HBv1_9 : Hid ((w9).heap[qv1]? = some (.cells #[.slice a1 n1 c1, .slice a2 n2 c2, .slice a3 n3 c3, .slice a4 n4 c4, .int .i64 nx, .int .i64 sq, .slice a5 n5 c5, .int .i64 now, .slice a6 n6 c6, .slice a7 n7 c7] 34)) := by show _ = _; rw [hW9, heap_setCell_other _ _ _ _ HNv1v3.out]; exact HBv1_8.out
  have HBv2_9 : Hid ((w9).heap[qv2]? = some (.cells #[.slice none 0 0, .slice none 0 0, .slice none 0 0, .slice none 0 0, .int .i64 0, .int .i64 0, .slice none 0 0, .int .i64 0, .slice none 0 0, .slice none 0 0] 49)) := by show _ = _; rw [hW9, heap_setCell_other _ _ _ _ HNv2v3.out]; exact HBv2_8.out
  have ER_9 : Hid (RowsO (w9) w.heap.size (shAll (.slice oC cs.length pC) (.slice oP ws.length pP) (.slice oK kv.length pK) (.slice oB bl.length pB) kv cs ws bl)) := by show RowsO _ _ _; rw [hW9]; exact RowsO.other ER_8.out HBv3_8.out HT0.out
  have HBv3_9 : Hid ((w9).heap[qv3]? = some (.cells #[.slice oC cs.length pC, .slice oP ws.length pP, .slice oK kv.length pK, .slice oB bl.length pB, .int .i64 nx, .int .i64 0, .slice none 0 0, .int .i64 0, .slice none 0 0, .slice none 0 0] 49)) := by show _ = _; rw [hW9]; have h := heap_set _ _ 4 _ _ _ (.int .i64 nx) HBv3_8.out; simpa using h
  clear hb8 HBv1_8 HBv2_8 HBv3_8 ER_8 hW9
  obtain ⟨w10, hW10⟩ : ∃ W, W = (w9).setCell ⟨qv3, 5, none⟩ (.int .i64 sq) := ⟨_, rfl⟩
  rw [← hW10]
  have hb10 : Below w.heap.size w (w10) := by rw [hW10]; exact (hb9.setCell (p := ⟨qv3, 5, none⟩) HGv3.out _)
  have HBv1_10 : Hid ((w10).heap[qv1]? = some (.cells #[.slice a1 n1 c1, .slice a2 n2 c2, .slice a3 n3 c3, .slice a4 n4 c4, .int .i64 nx, .int .i64 sq, .slice a5 n5 c5, .int .i64 now, .slice a6 n6 c6, .slice a7 n7 c7] 34)) := by show _ = _; rw [hW10, heap_setCell_other _ _ _ _ HNv1v3.out]; exact HBv1_9.out
  have HBv2_10 : Hid ((w10).heap[qv2]? = some (.cells #[.slice none 0 0, .slice none 0 0, .slice none 0 0, .slice none 0 0, .int .i64 0, .int .i64 0, .slice none 0 0, .int .i64 0, .slice none 0 0, .slice none 0 0] 49)) := by show _ = _; rw [hW10, heap_setCell_other _ _ _ _ HNv2v3.out]; exact HBv2_9.out
  have ER_10 : Hid (RowsO (w10) w.heap.size (shAll (.slice oC cs.length pC) (.slice oP ws.length pP) (.slice oK kv.length pK) (.slice oB bl.length pB) kv cs ws bl)) := by show RowsO _ _ _; rw [hW10]; exact RowsO.other ER_9.out HBv3_9.out HT0.out
  have HBv3_10 : Hid ((w10).heap[qv3]? = some (.cells #[.slice oC cs.length pC, .slice oP ws.length pP, .slice oK kv.length pK, .slice oB bl.length pB, .int .i64 nx, .int .i64 sq, .slice none 0 0, .int .i64 0, .slice none 0 0, .slice none 0 0] 49)) := by show _ = _; rw [hW10]; have h := heap_set _ _ 5 _ _ _ (.int .i64 sq) HBv3_9.out; simpa using h
  clear hb9 HBv1_9 HBv2_9 HBv3_9 ER_9 hW10
  clear cv3_0 fcv3_0 cv3_1 fcv3_1 cv3_2 fcv3_2 cv3_3 fcv3_3 cv3_4 fcv3_4 cv3_5 fcv3_5
  have cv1_6 : (w10).cell? ⟨qv1, 6, none⟩ = some (.slice a5 n5 c5) := (cell_of HBv1_10.out 6).trans rfl
  go_wp2_with fail
  refine (toFlightS_any B a5 n5 c5 fl _ (HA5.out _ hb10) (HBB.out _ hb10) HN.out.e HN.out.fl).mono ?_
  rintro e w11 ⟨VF, fv, rfl, hfm, hfo, bw⟩
  have HFM : Hid (fv.map (·.d) = fl) := hfm
  obtain ⟨oF, pF, rfl⟩ := hfo.len
  have HRN : Hid (RowsO w11 w.heap.size (shAll (.slice oC cs.length pC) (.slice oP ws.length pP) (.slice oK kv.length pK) (.slice oB bl.length pB) kv cs ws bl ++ flAll (.slice oF fv.length pF) fv)) := ER_10.out.more bw hfo (Nat.le_refl _) hb10.size
  have HT1 : Hid (∀ r ∈ (shAll (.slice oC cs.length pC) (.slice oP ws.length pP) (.slice oK kv.length pK) (.slice oB bl.length pB) kv cs ws bl ++ flAll (.slice oF fv.length pF) fv), 49 ≠ r.T) := by
    intro r hr
    rcases List.mem_append.1 hr with hr | hr
    · exact HT0.out r hr
    · rcases flAll_T hr with e | e | e | e <;> rw [e] <;> decide
  have hb11 : Below w.heap.size w (w11) := hb10.trans (bw.mono hb10.size)
  have HBv1_11 : Hid ((w11).heap[qv1]? = some (.cells #[.slice a1 n1 c1, .slice a2 n2 c2, .slice a3 n3 c3, .slice a4 n4 c4, .int .i64 nx, .int .i64 sq, .slice a5 n5 c5, .int .i64 now, .slice a6 n6 c6, .slice a7 n7 c7] 34)) := blk_below HBv1_10.out bw
  have HBv2_11 : Hid ((w11).heap[qv2]? = some (.cells #[.slice none 0 0, .slice none 0 0, .slice none 0 0, .slice none 0 0, .int .i64 0, .int .i64 0, .slice none 0 0, .int .i64 0, .slice none 0 0, .slice none 0 0] 49)) := blk_below HBv2_10.out bw
  have HBv3_11 : Hid ((w11).heap[qv3]? = some (.cells #[.slice oC cs.length pC, .slice oP ws.length pP, .slice oK kv.length pK, .slice oB bl.length pB, .int .i64 nx, .int .i64 sq, .slice none 0 0, .int .i64 0, .slice none 0 0, .slice none 0 0] 49)) := blk_below HBv3_10.out bw
  have ER_11 : Hid (RowsO (w11) w.heap.size (shAll (.slice oC cs.length pC) (.slice oP ws.length pP) (.slice oK kv.length pK) (.slice oB bl.length pB) kv cs ws bl)) := ER_10.out.below bw
  clear hb10 HBv1_10 HBv2_10 HBv3_10 ER_10 bw
  clear ER_11
  have ER_11 : Hid (RowsO (w11) w.heap.size (shAll (.slice oC cs.length pC) (.slice oP ws.length pP) (.slice oK kv.length pK) (.slice oB bl.length pB) kv cs ws bl ++ flAll (.slice oF fv.length pF) fv)) := HRN.out
  clear HRN
  clear cv1_6
  have cv3_6 : (w11).cell? ⟨qv3, 6, none⟩ = some (.slice none 0 0) := (cell_of HBv3_11.out 6).trans rfl
  have fcv3_6 : (w11).frozen? ⟨qv3, 6, none⟩ = false := frozen_of HBv3_11.out 6
  go_upto_region 4 with fail
  obtain ⟨w12, hW12⟩ : ∃ W, W = (w11).setCell ⟨qv3, 6, none⟩ (.slice oF fv.length pF) := ⟨_, rfl⟩
  rw [← hW12]
  have hb12 : Below w.heap.size w (w12) := by rw [hW12]; exact (hb11.setCell (p := ⟨qv3, 6, none⟩) HGv3.out _)
  have HBv1_12 : Hid ((w12).heap[qv1]? = some (.cells #[.slice a1 n1 c1, .slice a2 n2 c2, .slice a3 n3 c3, .slice a4 n4 c4, .int .i64 nx, .int .i64 sq, .slice a5 n5 c5, .int .i64 now, .slice a6 n6 c6, .slice a7 n7 c7] 34)) := by show _ = _; rw [hW12, heap_setCell_other _ _ _ _ HNv1v3.out]; exact HBv1_11.out
  have HBv2_12 : Hid ((w12).heap[qv2]? = some (.cells #[.slice none 0 0, .slice none 0 0, .slice none 0 0, .slice none 0 0, .int .i64 0, .int .i64 0, .slice none 0 0, .int .i64 0, .slice none 0 0, .slice none 0 0] 49)) := by show _ = _; rw [hW12, heap_setCell_other _ _ _ _ HNv2v3.out]; exact HBv2_11.out
  have ER_12 : Hid (RowsO (w12) w.heap.size (shAll (.slice oC cs.length pC) (.slice oP ws.length pP) (.slice oK kv.length pK) (.slice oB bl.length pB) kv cs ws bl ++ flAll (.slice oF fv.length pF) fv)) := by show RowsO _ _ _; rw [hW12]; exact RowsO.other ER_11.out HBv3_11.out HT1.out
  have HBv3_12 : Hid ((w12).heap[qv3]? = some (.cells #[.slice oC cs.length pC, .slice oP ws.length pP, .slice oK kv.length pK, .slice oB bl.length pB, .int .i64 nx, .int .i64 sq, .slice oF fv.length pF, .int .i64 0, .slice none 0 0, .slice none 0 0] 49)) := by show _ = _; rw [hW12]; have h := heap_set _ _ 6 _ _ _ (.slice oF fv.length pF) HBv3_11.out; simpa using h
  clear hb11 HBv1_11 HBv2_11 HBv3_11 ER_11 hW12
  clear cv3_6 fcv3_6
  have cv1_7 : (w12).cell? ⟨qv1, 7, none⟩ = some (.int .i64 now) := (cell_of HBv1_12.out 7).trans rfl
  have cv3_7 : (w12).cell? ⟨qv3, 7, none⟩ = some (.int .i64 0) := (cell_of HBv3_12.out 7).trans rfl
  have fcv3_7 : (w12).frozen? ⟨qv3, 7, none⟩ = false := frozen_of HBv3_12.out 7
  go_upto_region 5 with fail
  obtain ⟨w13, hW13⟩ : ∃ W, W = (w12).setCell ⟨qv3, 7, none⟩ (.int .i64 now) := ⟨_, rfl⟩
  rw [← hW13]
  have hb13 : Below w.heap.size w (w13) := by rw [hW13]; exact (hb12.setCell (p := ⟨qv3, 7, none⟩) HGv3.out _)
  have HBv1_13 : Hid ((w13).heap[qv1]? = some (.cells #[.slice a1 n1 c1, .slice a2 n2 c2, .slice a3 n3 c3, .slice a4 n4 c4, .int .i64 nx, .int .i64 sq, .slice a5 n5 c5, .int .i64 now, .slice a6 n6 c6, .slice a7 n7 c7] 34)) := by show _ = _; rw [hW13, heap_setCell_other _ _ _ _ HNv1v3.out]; exact HBv1_12.out
  have HBv2_13 : Hid ((w13).heap[qv2]? = some (.cells #[.slice none 0 0, .slice none 0 0, .slice none 0 0, .slice none 0 0, .int .i64 0, .int .i64 0, .slice none 0 0, .int .i64 0, .slice none 0 0, .slice none 0 0] 49)) := by show _ = _; rw [hW13, heap_setCell_other _ _ _ _ HNv2v3.out]; exact HBv2_12.out
  have ER_13 : Hid (RowsO (w13) w.heap.size (shAll (.slice oC cs.length pC) (.slice oP ws.length pP) (.slice oK kv.length pK) (.slice oB bl.length pB) kv cs ws bl ++ flAll (.slice oF fv.length pF) fv)) := by show RowsO _ _ _; rw [hW13]; exact RowsO.other ER_12.out HBv3_12.out HT1.out
  have HBv3_13 : Hid ((w13).heap[qv3]? = some (.cells #[.slice oC cs.length pC, .slice oP ws.length pP, .slice oK kv.length pK, .slice oB bl.length pB, .int .i64 nx, .int .i64 sq, .slice oF fv.length pF, .int .i64 now, .slice none 0 0, .slice none 0 0] 49)) := by show _ = _; rw [hW13]; have h := heap_set _ _ 7 _ _ _ (.int .i64 now) HBv3_12.out; simpa using h
  clear hb12 HBv1_12 HBv2_12 HBv3_12 ER_12 hW13
  clear cv1_7 cv3_7 fcv3_7
  have cv1_8 : (w13).cell? ⟨qv1, 8, none⟩ = some (.slice a6 n6 c6) := (cell_of HBv1_13.out 8).trans rfl
  go_wp2_with fail
  refine (toSeenS_any B a6 n6 c6 se _ (HA6.out _ hb13) (HBB.out _ hb13) HN.out.f HN.out.se).mono ?_
  rintro e w14 ⟨VE, ev, rfl, hem, heo, bw⟩
  have HEM : Hid (ev.map (·.d) = se) := hem
  obtain ⟨oE, pE, rfl⟩ := heo.len
  have HRN : Hid (RowsO w14 w.heap.size ((shAll (.slice oC cs.length pC) (.slice oP ws.length pP) (.slice oK kv.length pK) (.slice oB bl.length pB) kv cs ws bl ++ flAll (.slice oF fv.length pF) fv) ++ seAll (.slice oE ev.length pE) ev)) := ER_13.out.more bw heo (Nat.le_refl _) hb13.size
  have HT2 : Hid (∀ r ∈ ((shAll (.slice oC cs.length pC) (.slice oP ws.length pP) (.slice oK kv.length pK) (.slice oB bl.length pB) kv cs ws bl ++ flAll (.slice oF fv.length pF) fv) ++ seAll (.slice oE ev.length pE) ev), 49 ≠ r.T) := by
    intro r hr
    rcases List.mem_append.1 hr with hr | hr
    · exact HT1.out r hr
    · rcases seAll_T hr with e | e <;> rw [e] <;> decide
  have hb14 : Below w.heap.size w (w14) := hb13.trans (bw.mono hb13.size)
  have HBv1_14 : Hid ((w14).heap[qv1]? = some (.cells #[.slice a1 n1 c1, .slice a2 n2 c2, .slice a3 n3 c3, .slice a4 n4 c4, .int .i64 nx, .int .i64 sq, .slice a5 n5 c5, .int .i64 now, .slice a6 n6 c6, .slice a7 n7 c7] 34)) := blk_below HBv1_13.out bw
  have HBv2_14 : Hid ((w14).heap[qv2]? = some (.cells #[.slice none 0 0, .slice none 0 0, .slice none 0 0, .slice none 0 0, .int .i64 0, .int .i64 0, .slice none 0 0, .int .i64 0, .slice none 0 0, .slice none 0 0] 49)) := blk_below HBv2_13.out bw
  have HBv3_14 : Hid ((w14).heap[qv3]? = some (.cells #[.slice oC cs.length pC, .slice oP ws.length pP, .slice oK kv.length pK, .slice oB bl.length pB, .int .i64 nx, .int .i64 sq, .slice oF fv.length pF, .int .i64 now, .slice none 0 0, .slice none 0 0] 49)) := blk_below HBv3_13.out bw
  have ER_14 : Hid (RowsO (w14) w.heap.size (shAll (.slice oC cs.length pC) (.slice oP ws.length pP) (.slice oK kv.length pK) (.slice oB bl.length pB) kv cs ws bl ++ flAll (.slice oF fv.length pF) fv)) := ER_13.out.below bw
  clear hb13 HBv1_13 HBv2_13 HBv3_13 ER_13 bw
  clear ER_14
  have ER_14 : Hid (RowsO (w14) w.heap.size ((shAll (.slice oC cs.length pC) (.slice oP ws.length pP) (.slice oK kv.length pK) (.slice oB bl.length pB) kv cs ws bl ++ flAll (.slice oF fv.length pF) fv) ++ seAll (.slice oE ev.length pE) ev)) := HRN.out
  clear HRN
  clear cv1_8
  have cv3_8 : (w14).cell? ⟨qv3, 8, none⟩ = some (.slice none 0 0) := (cell_of HBv3_14.out 8).trans rfl
  have fcv3_8 : (w14).frozen? ⟨qv3, 8, none⟩ = false := frozen_of HBv3_14.out 8
  go_upto_region 6 with fail
  obtain ⟨w15, hW15⟩ : ∃ W, W = (w14).setCell ⟨qv3, 8, none⟩ (.slice oE ev.length pE) := ⟨_, rfl⟩
  rw [← hW15]
  have hb15 : Below w.heap.size w (w15) := by rw [hW15]; exact (hb14.setCell (p := ⟨qv3, 8, none⟩) HGv3.out _)
  have HBv1_15 : Hid ((w15).heap[qv1]? = some (.cells #[.slice a1 n1 c1, .slice a2 n2 c2, .slice a3 n3 c3, .slice a4 n4 c4, .int .i64 nx, .int .i64 sq, .slice a5 n5 c5, .int .i64 now, .slice a6 n6 c6, .slice a7 n7 c7] 34)) := by show _ = _; rw [hW15, heap_setCell_other _ _ _ _ HNv1v3.out]; exact HBv1_14.out
  have HBv2_15 : Hid ((w15).heap[qv2]? = some (.cells #[.slice none 0 0, .slice none 0 0, .slice none 0 0, .slice none 0 0, .int .i64 0, .int .i64 0, .slice none 0 0, .int .i64 0, .slice none 0 0, .slice none 0 0] 49)) := by show _ = _; rw [hW15, heap_setCell_other _ _ _ _ HNv2v3.out]; exact HBv2_14.out
  have ER_15 : Hid (RowsO (w15) w.heap.size ((shAll (.slice oC cs.length pC) (.slice oP ws.length pP) (.slice oK kv.length pK) (.slice oB bl.length pB) kv cs ws bl ++ flAll (.slice oF fv.length pF) fv) ++ seAll (.slice oE ev.length pE) ev)) := by show RowsO _ _ _; rw [hW15]; exact RowsO.other ER_14.out HBv3_14.out HT2.out
  have HBv3_15 : Hid ((w15).heap[qv3]? = some (.cells #[.slice oC cs.length pC, .slice oP ws.length pP, .slice oK kv.length pK, .slice oB bl.length pB, .int .i64 nx, .int .i64 sq, .slice oF fv.length pF, .int .i64 now, .slice oE ev.length pE, .slice none 0 0] 49)) := by show _ = _; rw [hW15]; have h := heap_set _ _ 8 _ _ _ (.slice oE ev.length pE) HBv3_14.out; simpa using h
  clear hb14 HBv1_14 HBv2_14 HBv3_14 ER_14 hW15
  clear cv3_8 fcv3_8
  have cv1_9 : (w15).cell? ⟨qv1, 9, none⟩ = some (.slice a7 n7 c7) := (cell_of HBv1_15.out 9).trans rfl
  go_wp2_with fail
  refine (toReplyS_any B a7 n7 c7 sn _ (HA7.out _ hb15) (HBB.out _ hb15) HN.out.g HN.out.sn).mono ?_
  rintro e w16 ⟨VR, rv, rfl, hrm, hro, bw⟩
  have HRM : Hid (rv.map (·.d) = sn) := hrm
  obtain ⟨oR, pR, rfl⟩ := hro.len
  have HRN : Hid (RowsO w16 w.heap.size (((shAll (.slice oC cs.length pC) (.slice oP ws.length pP) (.slice oK kv.length pK) (.slice oB bl.length pB) kv cs ws bl ++ flAll (.slice oF fv.length pF) fv) ++ seAll (.slice oE ev.length pE) ev) ++ rpAll (.slice oR rv.length pR) rv)) := ER_15.out.more bw hro (Nat.le_refl _) hb15.size
  have HT3 : Hid (∀ r ∈ (((shAll (.slice oC cs.length pC) (.slice oP ws.length pP) (.slice oK kv.length pK) (.slice oB bl.length pB) kv cs ws bl ++ flAll (.slice oF fv.length pF) fv) ++ seAll (.slice oE ev.length pE) ev) ++ rpAll (.slice oR rv.length pR) rv), 49 ≠ r.T) := by
    intro r hr
    rcases List.mem_append.1 hr with hr | hr
    · exact HT2.out r hr
    · rcases rpAll_T hr with e | e | e <;> rw [e] <;> decide
  have hb16 : Below w.heap.size w (w16) := hb15.trans (bw.mono hb15.size)
  have HBv1_16 : Hid ((w16).heap[qv1]? = some (.cells #[.slice a1 n1 c1, .slice a2 n2 c2, .slice a3 n3 c3, .slice a4 n4 c4, .int .i64 nx, .int .i64 sq, .slice a5 n5 c5, .int .i64 now, .slice a6 n6 c6, .slice a7 n7 c7] 34)) := blk_below HBv1_15.out bw
  have HBv2_16 : Hid ((w16).heap[qv2]? = some (.cells #[.slice none 0 0, .slice none 0 0, .slice none 0 0, .slice none 0 0, .int .i64 0, .int .i64 0, .slice none 0 0, .int .i64 0, .slice none 0 0, .slice none 0 0] 49)) := blk_below HBv2_15.out bw
  have HBv3_16 : Hid ((w16).heap[qv3]? = some (.cells #[.slice oC cs.length pC, .slice oP ws.length pP, .slice oK kv.length pK, .slice oB bl.length pB, .int .i64 nx, .int .i64 sq, .slice oF fv.length pF, .int .i64 now, .slice oE ev.length pE, .slice none 0 0] 49)) := blk_below HBv3_15.out bw
  have ER_16 : Hid (RowsO (w16) w.heap.size ((shAll (.slice oC cs.length pC) (.slice oP ws.length pP) (.slice oK kv.length pK) (.slice oB bl.length pB) kv cs ws bl ++ flAll (.slice oF fv.length pF) fv) ++ seAll (.slice oE ev.length pE) ev)) := ER_15.out.below bw
  clear hb15 HBv1_15 HBv2_15 HBv3_15 ER_15 bw
  clear ER_16
  have ER_16 : Hid (RowsO (w16) w.heap.size (((shAll (.slice oC cs.length pC) (.slice oP ws.length pP) (.slice oK kv.length pK) (.slice oB bl.length pB) kv cs ws bl ++ flAll (.slice oF fv.length pF) fv) ++ seAll (.slice oE ev.length pE) ev) ++ rpAll (.slice oR rv.length pR) rv)) := HRN.out
  clear HRN
  clear cv1_9
  have cv3_9 : (w16).cell? ⟨qv3, 9, none⟩ = some (.slice none 0 0) := (cell_of HBv3_16.out 9).trans rfl
  have fcv3_9 : (w16).frozen? ⟨qv3, 9, none⟩ = false := frozen_of HBv3_16.out 9
  go_upto_region 7 with fail
  obtain ⟨w17, hW17⟩ : ∃ W, W = (w16).setCell ⟨qv3, 9, none⟩ (.slice oR rv.length pR) := ⟨_, rfl⟩
  rw [← hW17]
  have hb17 : Below w.heap.size w (w17) := by rw [hW17]; exact (hb16.setCell (p := ⟨qv3, 9, none⟩) HGv3.out _)
  have HBv1_17 : Hid ((w17).heap[qv1]? = some (.cells #[.slice a1 n1 c1, .slice a2 n2 c2, .slice a3 n3 c3, .slice a4 n4 c4, .int .i64 nx, .int .i64 sq, .slice a5 n5 c5, .int .i64 now, .slice a6 n6 c6, .slice a7 n7 c7] 34)) := by show _ = _; rw [hW17, heap_setCell_other _ _ _ _ HNv1v3.out]; exact HBv1_16.out
  have HBv2_17 : Hid ((w17).heap[qv2]? = some (.cells #[.slice none 0 0, .slice none 0 0, .slice none 0 0, .slice none 0 0, .int .i64 0, .int .i64 0, .slice none 0 0, .int .i64 0, .slice none 0 0, .slice none 0 0] 49)) := by show _ = _; rw [hW17, heap_setCell_other _ _ _ _ HNv2v3.out]; exact HBv2_16.out
  have ER_17 : Hid (RowsO (w17) w.heap.size (((shAll (.slice oC cs.length pC) (.slice oP ws.length pP) (.slice oK kv.length pK) (.slice oB bl.length pB) kv cs ws bl ++ flAll (.slice oF fv.length pF) fv) ++ seAll (.slice oE ev.length pE) ev) ++ rpAll (.slice oR rv.length pR) rv)) := by show RowsO _ _ _; rw [hW17]; exact RowsO.other ER_16.out HBv3_16.out HT3.out
  have HBv3_17 : Hid ((w17).heap[qv3]? = some (.cells #[.slice oC cs.length pC, .slice oP ws.length pP, .slice oK kv.length pK, .slice oB bl.length pB, .int .i64 nx, .int .i64 sq, .slice oF fv.length pF, .int .i64 now, .slice oE ev.length pE, .slice oR rv.length pR] 49)) := by show _ = _; rw [hW17]; have h := heap_set _ _ 9 _ _ _ (.slice oR rv.length pR) HBv3_16.out; simpa using h
  clear hb16 HBv1_16 HBv2_16 HBv3_16 ER_16 hW17
  clear cv3_9 fcv3_9
  have cv2_0 : (w17).cell? ⟨qv2, 0, none⟩ = some (.slice none 0 0) := (cell_of HBv2_17.out 0).trans rfl
  have fcv2_0 : (w17).frozen? ⟨qv2, 0, none⟩ = false := frozen_of HBv2_17.out 0
  have cv2_1 : (w17).cell? ⟨qv2, 1, none⟩ = some (.slice none 0 0) := (cell_of HBv2_17.out 1).trans rfl
  have fcv2_1 : (w17).frozen? ⟨qv2, 1, none⟩ = false := frozen_of HBv2_17.out 1
  have cv2_2 : (w17).cell? ⟨qv2, 2, none⟩ = some (.slice none 0 0) := (cell_of HBv2_17.out 2).trans rfl
  have fcv2_2 : (w17).frozen? ⟨qv2, 2, none⟩ = false := frozen_of HBv2_17.out 2
  have cv2_3 : (w17).cell? ⟨qv2, 3, none⟩ = some (.slice none 0 0) := (cell_of HBv2_17.out 3).trans rfl
  have fcv2_3 : (w17).frozen? ⟨qv2, 3, none⟩ = false := frozen_of HBv2_17.out 3
  have cv2_4 : (w17).cell? ⟨qv2, 4, none⟩ = some (.int .i64 0) := (cell_of HBv2_17.out 4).trans rfl
  have fcv2_4 : (w17).frozen? ⟨qv2, 4, none⟩ = false := frozen_of HBv2_17.out 4
  have cv2_5 : (w17).cell? ⟨qv2, 5, none⟩ = some (.int .i64 0) := (cell_of HBv2_17.out 5).trans rfl
  have fcv2_5 : (w17).frozen? ⟨qv2, 5, none⟩ = false := frozen_of HBv2_17.out 5
  have cv2_6 : (w17).cell? ⟨qv2, 6, none⟩ = some (.slice none 0 0) := (cell_of HBv2_17.out 6).trans rfl
  have fcv2_6 : (w17).frozen? ⟨qv2, 6, none⟩ = false := frozen_of HBv2_17.out 6
  have cv2_7 : (w17).cell? ⟨qv2, 7, none⟩ = some (.int .i64 0) := (cell_of HBv2_17.out 7).trans rfl
  have fcv2_7 : (w17).frozen? ⟨qv2, 7, none⟩ = false := frozen_of HBv2_17.out 7
  have cv2_8 : (w17).cell? ⟨qv2, 8, none⟩ = some (.slice none 0 0) := (cell_of HBv2_17.out 8).trans rfl
  have fcv2_8 : (w17).frozen? ⟨qv2, 8, none⟩ = false := frozen_of HBv2_17.out 8
  have cv2_9 : (w17).cell? ⟨qv2, 9, none⟩ = some (.slice none 0 0) := (cell_of HBv2_17.out 9).trans rfl
  have fcv2_9 : (w17).frozen? ⟨qv2, 9, none⟩ = false := frozen_of HBv2_17.out 9
  have cv3_0 : (w17).cell? ⟨qv3, 0, none⟩ = some (.slice oC cs.length pC) := (cell_of HBv3_17.out 0).trans rfl
  have cv3_1 : (w17).cell? ⟨qv3, 1, none⟩ = some (.slice oP ws.length pP) := (cell_of HBv3_17.out 1).trans rfl
  have cv3_2 : (w17).cell? ⟨qv3, 2, none⟩ = some (.slice oK kv.length pK) := (cell_of HBv3_17.out 2).trans rfl
  have cv3_3 : (w17).cell? ⟨qv3, 3, none⟩ = some (.slice oB bl.length pB) := (cell_of HBv3_17.out 3).trans rfl
  have cv3_4 : (w17).cell? ⟨qv3, 4, none⟩ = some (.int .i64 nx) := (cell_of HBv3_17.out 4).trans rfl
  have cv3_5 : (w17).cell? ⟨qv3, 5, none⟩ = some (.int .i64 sq) := (cell_of HBv3_17.out 5).trans rfl
  have cv3_6 : (w17).cell? ⟨qv3, 6, none⟩ = some (.slice oF fv.length pF) := (cell_of HBv3_17.out 6).trans rfl
  have cv3_7 : (w17).cell? ⟨qv3, 7, none⟩ = some (.int .i64 now) := (cell_of HBv3_17.out 7).trans rfl
  have cv3_8 : (w17).cell? ⟨qv3, 8, none⟩ = some (.slice oE ev.length pE) := (cell_of HBv3_17.out 8).trans rfl
  have cv3_9 : (w17).cell? ⟨qv3, 9, none⟩ = some (.slice oR rv.length pR) := (cell_of HBv3_17.out 9).trans rfl
  go_wp2_with fail
  obtain ⟨w18, hW18⟩ : ∃ W, W = (w17).setCell ⟨qv2, 0, none⟩ (.slice oC cs.length pC) := ⟨_, rfl⟩
  rw [← hW18]
  have hb18 : Below w.heap.size w (w18) := by rw [hW18]; exact (hb17.setCell (p := ⟨qv2, 0, none⟩) HGv2.out _)
  have HBv1_18 : Hid ((w18).heap[qv1]? = some (.cells #[.slice a1 n1 c1, .slice a2 n2 c2, .slice a3 n3 c3, .slice a4 n4 c4, .int .i64 nx, .int .i64 sq, .slice a5 n5 c5, .int .i64 now, .slice a6 n6 c6, .slice a7 n7 c7] 34)) := by show _ = _; rw [hW18, heap_setCell_other _ _ _ _ HNv1v2.out]; exact HBv1_17.out
  have HBv3_18 : Hid ((w18).heap[qv3]? = some (.cells #[.slice oC cs.length pC, .slice oP ws.length pP, .slice oK kv.length pK, .slice oB bl.length pB, .int .i64 nx, .int .i64 sq, .slice oF fv.length pF, .int .i64 now, .slice oE ev.length pE, .slice oR rv.length pR] 49)) := by show _ = _; rw [hW18, heap_setCell_other _ _ _ _ HNv2v3.out.symm]; exact HBv3_17.out
  have ER_18 : Hid (RowsO (w18) w.heap.size (((shAll (.slice oC cs.length pC) (.slice oP ws.length pP) (.slice oK kv.length pK) (.slice oB bl.length pB) kv cs ws bl ++ flAll (.slice oF fv.length pF) fv) ++ seAll (.slice oE ev.length pE) ev) ++ rpAll (.slice oR rv.length pR) rv)) := by show RowsO _ _ _; rw [hW18]; exact RowsO.other ER_17.out HBv2_17.out HT3.out
  have HBv2_18 : Hid ((w18).heap[qv2]? = some (.cells #[.slice oC cs.length pC, .slice none 0 0, .slice none 0 0, .slice none 0 0, .int .i64 0, .int .i64 0, .slice none 0 0, .int .i64 0, .slice none 0 0, .slice none 0 0] 49)) := by show _ = _; rw [hW18]; have h := heap_set _ _ 0 _ _ _ (.slice oC cs.length pC) HBv2_17.out; simpa using h
  clear hb17 HBv1_17 HBv2_17 HBv3_17 ER_17 hW18
  obtain ⟨w19, hW19⟩ : ∃ W, W = (w18).setCell ⟨qv2, 1, none⟩ (.slice oP ws.length pP) := ⟨_, rfl⟩
  rw [← hW19]
  have hb19 : Below w.heap.size w (w19) := by rw [hW19]; exact (hb18.setCell (p := ⟨qv2, 1, none⟩) HGv2.out _)
  have HBv1_19 : Hid ((w19).heap[qv1]? = some (.cells #[.slice a1 n1 c1, .slice a2 n2 c2, .slice a3 n3 c3, .slice a4 n4 c4, .int .i64 nx, .int .i64 sq, .slice a5 n5 c5, .int .i64 now, .slice a6 n6 c6, .slice a7 n7 c7] 34)) := by show _ = _; rw [hW19, heap_setCell_other _ _ _ _ HNv1v2.out]; exact HBv1_18.out
  have HBv3_19 : Hid ((w19).heap[qv3]? = some (.cells #[.slice oC cs.length pC, .slice oP ws.length pP, .slice oK kv.length pK, .slice oB bl.length pB, .int .i64 nx, .int .i64 sq, .slice oF fv.length pF, .int .i64 now, .slice oE ev.length pE, .slice oR rv.length pR] 49)) := by show _ = _; rw [hW19, heap_setCell_other _ _ _ _ HNv2v3.out.symm]; exact HBv3_18.out
  have ER_19 : Hid (RowsO (w19) w.heap.size (((shAll (.slice oC cs.length pC) (.slice oP ws.length pP) (.slice oK kv.length pK) (.slice oB bl.length pB) kv cs ws bl ++ flAll (.slice oF fv.length pF) fv) ++ seAll (.slice oE ev.length pE) ev) ++ rpAll (.slice oR rv.length pR) rv)) := by show RowsO _ _ _; rw [hW19]; exact RowsO.other ER_18.out HBv2_18.out HT3.out
  have HBv2_19 : Hid ((w19).heap[qv2]? = some (.cells #[.slice oC cs.length pC, .slice oP ws.length pP, .slice none 0 0, .slice none 0 0, .int .i64 0, .int .i64 0, .slice none 0 0, .int .i64 0, .slice none 0 0, .slice none 0 0] 49)) := by show _ = _; rw [hW19]; have h := heap_set _ _ 1 _ _ _ (.slice oP ws.length pP) HBv2_18.out; simpa using h
  clear hb18 HBv1_18 HBv2_18 HBv3_18 ER_18 hW19
  obtain ⟨w20, hW20⟩ : ∃ W, W = (w19).setCell ⟨qv2, 2, none⟩ (.slice oK kv.length pK) := ⟨_, rfl⟩
  rw [← hW20]
  have hb20 : Below w.heap.size w (w20) := by rw [hW20]; exact (hb19.setCell (p := ⟨qv2, 2, none⟩) HGv2.out _)
  have HBv1_20 : Hid ((w20).heap[qv1]? = some (.cells #[.slice a1 n1 c1, .slice a2 n2 c2, .slice a3 n3 c3, .slice a4 n4 c4, .int .i64 nx, .int .i64 sq, .slice a5 n5 c5, .int .i64 now, .slice a6 n6 c6, .slice a7 n7 c7] 34)) := by show _ = _; rw [hW20, heap_setCell_other _ _ _ _ HNv1v2.out]; exact HBv1_19.out
  have HBv3_20 : Hid ((w20).heap[qv3]? = some (.cells #[.slice oC cs.length pC, .slice oP ws.length pP, .slice oK kv.length pK, .slice oB bl.length pB, .int .i64 nx, .int .i64 sq, .slice oF fv.length pF, .int .i64 now, .slice oE ev.length pE, .slice oR rv.length pR] 49)) := by show _ = _; rw [hW20, heap_setCell_other _ _ _ _ HNv2v3.out.symm]; exact HBv3_19.out
  have ER_20 : Hid (RowsO (w20) w.heap.size (((shAll (.slice oC cs.length pC) (.slice oP ws.length pP) (.slice oK kv.length pK) (.slice oB bl.length pB) kv cs ws bl ++ flAll (.slice oF fv.length pF) fv) ++ seAll (.slice oE ev.length pE) ev) ++ rpAll (.slice oR rv.length pR) rv)) := by show RowsO _ _ _; rw [hW20]; exact RowsO.other ER_19.out HBv2_19.out HT3.out
  have HBv2_20 : Hid ((w20).heap[qv2]? = some (.cells #[.slice oC cs.length pC, .slice oP ws.length pP, .slice oK kv.length pK, .slice none 0 0, .int .i64 0, .int .i64 0, .slice none 0 0, .int .i64 0, .slice none 0 0, .slice none 0 0] 49)) := by show _ = _; rw [hW20]; have h := heap_set _ _ 2 _ _ _ (.slice oK kv.length pK) HBv2_19.out; simpa using h
  clear hb19 HBv1_19 HBv2_19 HBv3_19 ER_19 hW20
  obtain ⟨w21, hW21⟩ : ∃ W, W = (w20).setCell ⟨qv2, 3, none⟩ (.slice oB bl.length pB) := ⟨_, rfl⟩
  rw [← hW21]
  have hb21 : Below w.heap.size w (w21) := by rw [hW21]; exact (hb20.setCell (p := ⟨qv2, 3, none⟩) HGv2.out _)
  have HBv1_21 : Hid ((w21).heap[qv1]? = some (.cells #[.slice a1 n1 c1, .slice a2 n2 c2, .slice a3 n3 c3, .slice a4 n4 c4, .int .i64 nx, .int .i64 sq, .slice a5 n5 c5, .int .i64 now, .slice a6 n6 c6, .slice a7 n7 c7] 34)) := by show _ = _; rw [hW21, heap_setCell_other _ _ _ _ HNv1v2.out]; exact HBv1_20.out
  have HBv3_21 : Hid ((w21).heap[qv3]? = some (.cells #[.slice oC cs.length pC, .slice oP ws.length pP, .slice oK kv.length pK, .slice oB bl.length pB, .int .i64 nx, .int .i64 sq, .slice oF fv.length pF, .int .i64 now, .slice oE ev.length pE, .slice oR rv.length pR] 49)) := by show _ = _; rw [hW21, heap_setCell_other _ _ _ _ HNv2v3.out.symm]; exact HBv3_20.out
  have ER_21 : Hid (RowsO (w21) w.heap.size (((shAll (.slice oC cs.length pC) (.slice oP ws.length pP) (.slice oK kv.length pK) (.slice oB bl.length pB) kv cs ws bl ++ flAll (.slice oF fv.length pF) fv) ++ seAll (.slice oE ev.length pE) ev) ++ rpAll (.slice oR rv.length pR) rv)) := by show RowsO _ _ _; rw [hW21]; exact RowsO.other ER_20.out HBv2_20.out HT3.out
  have HBv2_21 : Hid ((w21).heap[qv2]? = some (.cells #[.slice oC cs.length pC, .slice oP ws.length pP, .slice oK kv.length pK, .slice oB bl.length pB, .int .i64 0, .int .i64 0, .slice none 0 0, .int .i64 0, .slice none 0 0, .slice none 0 0] 49)) := by show _ = _; rw [hW21]; have h := heap_set _ _ 3 _ _ _ (.slice oB bl.length pB) HBv2_20.out; simpa using h
  clear hb20 HBv1_20 HBv2_20 HBv3_20 ER_20 hW21
  obtain ⟨w22, hW22⟩ : ∃ W, W = (w21).setCell ⟨qv2, 4, none⟩ (.int .i64 nx) := ⟨_, rfl⟩
  rw [← hW22]
  have hb22 : Below w.heap.size w (w22) := by rw [hW22]; exact (hb21.setCell (p := ⟨qv2, 4, none⟩) HGv2.out _)
  have HBv1_22 : Hid ((w22).heap[qv1]? = some (.cells #[.slice a1 n1 c1, .slice a2 n2 c2, .slice a3 n3 c3, .slice a4 n4 c4, .int .i64 nx, .int .i64 sq, .slice a5 n5 c5, .int .i64 now, .slice a6 n6 c6, .slice a7 n7 c7] 34)) := by show _ = _; rw [hW22, heap_setCell_other _ _ _ _ HNv1v2.out]; exact HBv1_21.out
  have HBv3_22 : Hid ((w22).heap[qv3]? = some (.cells #[.slice oC cs.length pC, .slice oP ws.length pP, .slice oK kv.length pK, .slice oB bl.length pB, .int .i64 nx, .int .i64 sq, .slice oF fv.length pF, .int .i64 now, .slice oE ev.length pE, .slice oR rv.length pR] 49)) := by show _ = _; rw [hW22, heap_setCell_other _ _ _ _ HNv2v3.out.symm]; exact HBv3_21.out
  have ER_22 : Hid (RowsO (w22) w.heap.size (((shAll (.slice oC cs.length pC) (.slice oP ws.length pP) (.slice oK kv.length pK) (.slice oB bl.length pB) kv cs ws bl ++ flAll (.slice oF fv.length pF) fv) ++ seAll (.slice oE ev.length pE) ev) ++ rpAll (.slice oR rv.length pR) rv)) := by show RowsO _ _ _; rw [hW22]; exact RowsO.other ER_21.out HBv2_21.out HT3.out
  have HBv2_22 : Hid ((w22).heap[qv2]? = some (.cells #[.slice oC cs.length pC, .slice oP ws.length pP, .slice oK kv.length pK, .slice oB bl.length pB, .int .i64 nx, .int .i64 0, .slice none 0 0, .int .i64 0, .slice none 0 0, .slice none 0 0] 49)) := by show _ = _; rw [hW22]; have h := heap_set _ _ 4 _ _ _ (.int .i64 nx) HBv2_21.out; simpa using h
  clear hb21 HBv1_21 HBv2_21 HBv3_21 ER_21 hW22
  obtain ⟨w23, hW23⟩ : ∃ W, W = (w22).setCell ⟨qv2, 5, none⟩ (.int .i64 sq) := ⟨_, rfl⟩
  rw [← hW23]
  have hb23 : Below w.heap.size w (w23) := by rw [hW23]; exact (hb22.setCell (p := ⟨qv2, 5, none⟩) HGv2.out _)
  have HBv1_23 : Hid ((w23).heap[qv1]? = some (.cells #[.slice a1 n1 c1, .slice a2 n2 c2, .slice a3 n3 c3, .slice a4 n4 c4, .int .i64 nx, .int .i64 sq, .slice a5 n5 c5, .int .i64 now, .slice a6 n6 c6, .slice a7 n7 c7] 34)) := by show _ = _; rw [hW23, heap_setCell_other _ _ _ _ HNv1v2.out]; exact HBv1_22.out
  have HBv3_23 : Hid ((w23).heap[qv3]? = some (.cells #[.slice oC cs.length pC, .slice oP ws.length pP, .slice oK kv.length pK, .slice oB bl.length pB, .int .i64 nx, .int .i64 sq, .slice oF fv.length pF, .int .i64 now, .slice oE ev.length pE, .slice oR rv.length pR] 49)) := by show _ = _; rw [hW23, heap_setCell_other _ _ _ _ HNv2v3.out.symm]; exact HBv3_22.out
  have ER_23 : Hid (RowsO (w23) w.heap.size (((shAll (.slice oC cs.length pC) (.slice oP ws.length pP) (.slice oK kv.length pK) (.slice oB bl.length pB) kv cs ws bl ++ flAll (.slice oF fv.length pF) fv) ++ seAll (.slice oE ev.length pE) ev) ++ rpAll (.slice oR rv.length pR) rv)) := by show RowsO _ _ _; rw [hW23]; exact RowsO.other ER_22.out HBv2_22.out HT3.out
  have HBv2_23 : Hid ((w23).heap[qv2]? = some (.cells #[.slice oC cs.length pC, .slice oP ws.length pP, .slice oK kv.length pK, .slice oB bl.length pB, .int .i64 nx, .int .i64 sq, .slice none 0 0, .int .i64 0, .slice none 0 0, .slice none 0 0] 49)) := by show _ = _; rw [hW23]; have h := heap_set _ _ 5 _ _ _ (.int .i64 sq) HBv2_22.out; simpa using h
  clear hb22 HBv1_22 HBv2_22 HBv3_22 ER_22 hW23
  obtain ⟨w24, hW24⟩ : ∃ W, W = (w23).setCell ⟨qv2, 6, none⟩ (.slice oF fv.length pF) := ⟨_, rfl⟩
  rw [← hW24]
  have hb24 : Below w.heap.size w (w24) := by rw [hW24]; exact (hb23.setCell (p := ⟨qv2, 6, none⟩) HGv2.out _)
  have HBv1_24 : Hid ((w24).heap[qv1]? = some (.cells #[.slice a1 n1 c1, .slice a2 n2 c2, .slice a3 n3 c3, .slice a4 n4 c4, .int .i64 nx, .int .i64 sq, .slice a5 n5 c5, .int .i64 now, .slice a6 n6 c6, .slice a7 n7 c7] 34)) := by show _ = _; rw [hW24, heap_setCell_other _ _ _ _ HNv1v2.out]; exact HBv1_23.out
  have HBv3_24 : Hid ((w24).heap[qv3]? = some (.cells #[.slice oC cs.length pC, .slice oP ws.length pP, .slice oK kv.length pK, .slice oB bl.length pB, .int .i64 nx, .int .i64 sq, .slice oF fv.length pF, .int .i64 now, .slice oE ev.length pE, .slice oR rv.length pR] 49)) := by show _ = _; rw [hW24, heap_setCell_other _ _ _ _ HNv2v3.out.symm]; exact HBv3_23.out
  have ER_24 : Hid (RowsO (w24) w.heap.size (((shAll (.slice oC cs.length pC) (.slice oP ws.length pP) (.slice oK kv.length pK) (.slice oB bl.length pB) kv cs ws bl ++ flAll (.slice oF fv.length pF) fv) ++ seAll (.slice oE ev.length pE) ev) ++ rpAll (.slice oR rv.length pR) rv)) := by show RowsO _ _ _; rw [hW24]; exact RowsO.other ER_23.out HBv2_23.out HT3.out
  have HBv2_24 : Hid ((w24).heap[qv2]? = some (.cells #[.slice oC cs.length pC, .slice oP ws.length pP, .slice oK kv.length pK, .slice oB bl.length pB, .int .i64 nx, .int .i64 sq, .slice oF fv.length pF, .int .i64 0, .slice none 0 0, .slice none 0 0] 49)) := by show _ = _; rw [hW24]; have h := heap_set _ _ 6 _ _ _ (.slice oF fv.length pF) HBv2_23.out; simpa using h
  clear hb23 HBv1_23 HBv2_23 HBv3_23 ER_23 hW24
  obtain ⟨w25, hW25⟩ : ∃ W, W = (w24).setCell ⟨qv2, 7, none⟩ (.int .i64 now) := ⟨_, rfl⟩
  rw [← hW25]
  have hb25 : Below w.heap.size w (w25) := by rw [hW25]; exact (hb24.setCell (p := ⟨qv2, 7, none⟩) HGv2.out _)
  have HBv1_25 : Hid ((w25).heap[qv1]? = some (.cells #[.slice a1 n1 c1, .slice a2 n2 c2, .slice a3 n3 c3, .slice a4 n4 c4, .int .i64 nx, .int .i64 sq, .slice a5 n5 c5, .int .i64 now, .slice a6 n6 c6, .slice a7 n7 c7] 34)) := by show _ = _; rw [hW25, heap_setCell_other _ _ _ _ HNv1v2.out]; exact HBv1_24.out
  have HBv3_25 : Hid ((w25).heap[qv3]? = some (.cells #[.slice oC cs.length pC, .slice oP ws.length pP, .slice oK kv.length pK, .slice oB bl.length pB, .int .i64 nx, .int .i64 sq, .slice oF fv.length pF, .int .i64 now, .slice oE ev.length pE, .slice oR rv.length pR] 49)) := by show _ = _; rw [hW25, heap_setCell_other _ _ _ _ HNv2v3.out.symm]; exact HBv3_24.out
  have ER_25 : Hid (RowsO (w25) w.heap.size (((shAll (.slice oC cs.length pC) (.slice oP ws.length pP) (.slice oK kv.length pK) (.slice oB bl.length pB) kv cs ws bl ++ flAll (.slice oF fv.length pF) fv) ++ seAll (.slice oE ev.length pE) ev) ++ rpAll (.slice oR rv.length pR) rv)) := by show RowsO _ _ _; rw [hW25]; exact RowsO.other ER_24.out HBv2_24.out HT3.out
  have HBv2_25 : Hid ((w25).heap[qv2]? = some (.cells #[.slice oC cs.length pC, .slice oP ws.length pP, .slice oK kv.length pK, .slice oB bl.length pB, .int .i64 nx, .int .i64 sq, .slice oF fv.length pF, .int .i64 now, .slice none 0 0, .slice none 0 0] 49)) := by show _ = _; rw [hW25]; have h := heap_set _ _ 7 _ _ _ (.int .i64 now) HBv2_24.out; simpa using h
  clear hb24 HBv1_24 HBv2_24 HBv3_24 ER_24 hW25
  obtain ⟨w26, hW26⟩ : ∃ W, W = (w25).setCell ⟨qv2, 8, none⟩ (.slice oE ev.length pE) := ⟨_, rfl⟩
  rw [← hW26]
  have hb26 : Below w.heap.size w (w26) := by rw [hW26]; exact (hb25.setCell (p := ⟨qv2, 8, none⟩) HGv2.out _)
  have HBv1_26 : Hid ((w26).heap[qv1]? = some (.cells #[.slice a1 n1 c1, .slice a2 n2 c2, .slice a3 n3 c3, .slice a4 n4 c4, .int .i64 nx, .int .i64 sq, .slice a5 n5 c5, .int .i64 now, .slice a6 n6 c6, .slice a7 n7 c7] 34)) := by show _ = _; rw [hW26, heap_setCell_other _ _ _ _ HNv1v2.out]; exact HBv1_25.out
  have HBv3_26 : Hid ((w26).heap[qv3]? = some (.cells #[.slice oC cs.length pC, .slice oP ws.length pP, .slice oK kv.length pK, .slice oB bl.length pB, .int .i64 nx, .int .i64 sq, .slice oF fv.length pF, .int .i64 now, .slice oE ev.length pE, .slice oR rv.length pR] 49)) := by show _ = _; rw [hW26, heap_setCell_other _ _ _ _ HNv2v3.out.symm]; exact HBv3_25.out
  have ER_26 : Hid (RowsO (w26) w.heap.size (((shAll (.slice oC cs.length pC) (.slice oP ws.length pP) (.slice oK kv.length pK) (.slice oB bl.length pB) kv cs ws bl ++ flAll (.slice oF fv.length pF) fv) ++ seAll (.slice oE ev.length pE) ev) ++ rpAll (.slice oR rv.length pR) rv)) := by show RowsO _ _ _; rw [hW26]; exact RowsO.other ER_25.out HBv2_25.out HT3.out
  have HBv2_26 : Hid ((w26).heap[qv2]? = some (.cells #[.slice oC cs.length pC, .slice oP ws.length pP, .slice oK kv.length pK, .slice oB bl.length pB, .int .i64 nx, .int .i64 sq, .slice oF fv.length pF, .int .i64 now, .slice oE ev.length pE, .slice none 0 0] 49)) := by show _ = _; rw [hW26]; have h := heap_set _ _ 8 _ _ _ (.slice oE ev.length pE) HBv2_25.out; simpa using h
  clear hb25 HBv1_25 HBv2_25 HBv3_25 ER_25 hW26
  obtain ⟨w27, hW27⟩ : ∃ W, W = (w26).setCell ⟨qv2, 9, none⟩ (.slice oR rv.length pR) := ⟨_, rfl⟩
  rw [← hW27]
  have hb27 : Below w.heap.size w (w27) := by rw [hW27]; exact (hb26.setCell (p := ⟨qv2, 9, none⟩) HGv2.out _)
  have HBv1_27 : Hid ((w27).heap[qv1]? = some (.cells #[.slice a1 n1 c1, .slice a2 n2 c2, .slice a3 n3 c3, .slice a4 n4 c4, .int .i64 nx, .int .i64 sq, .slice a5 n5 c5, .int .i64 now, .slice a6 n6 c6, .slice a7 n7 c7] 34)) := by show _ = _; rw [hW27, heap_setCell_other _ _ _ _ HNv1v2.out]; exact HBv1_26.out
  have HBv3_27 : Hid ((w27).heap[qv3]? = some (.cells #[.slice oC cs.length pC, .slice oP ws.length pP, .slice oK kv.length pK, .slice oB bl.length pB, .int .i64 nx, .int .i64 sq, .slice oF fv.length pF, .int .i64 now, .slice oE ev.length pE, .slice oR rv.length pR] 49)) := by show _ = _; rw [hW27, heap_setCell_other _ _ _ _ HNv2v3.out.symm]; exact HBv3_26.out
  have ER_27 : Hid (RowsO (w27) w.heap.size (((shAll (.slice oC cs.length pC) (.slice oP ws.length pP) (.slice oK kv.length pK) (.slice oB bl.length pB) kv cs ws bl ++ flAll (.slice oF fv.length pF) fv) ++ seAll (.slice oE ev.length pE) ev) ++ rpAll (.slice oR rv.length pR) rv)) := by show RowsO _ _ _; rw [hW27]; exact RowsO.other ER_26.out HBv2_26.out HT3.out
  have HBv2_27 : Hid ((w27).heap[qv2]? = some (.cells #[.slice oC cs.length pC, .slice oP ws.length pP, .slice oK kv.length pK, .slice oB bl.length pB, .int .i64 nx, .int .i64 sq, .slice oF fv.length pF, .int .i64 now, .slice oE ev.length pE, .slice oR rv.length pR] 49)) := by show _ = _; rw [hW27]; have h := heap_set _ _ 9 _ _ _ (.slice oR rv.length pR) HBv2_26.out; simpa using h
  clear hb26 HBv1_26 HBv2_26 HBv3_26 ER_26 hW27
  have kv2_0 : (w27).cell? ⟨qv2, 0, none⟩ = some (.slice oC cs.length pC) := (cell_of HBv2_27.out 0).trans rfl
  have kv2_1 : (w27).cell? ⟨qv2, 1, none⟩ = some (.slice oP ws.length pP) := (cell_of HBv2_27.out 1).trans rfl
  have kv2_2 : (w27).cell? ⟨qv2, 2, none⟩ = some (.slice oK kv.length pK) := (cell_of HBv2_27.out 2).trans rfl
  have kv2_3 : (w27).cell? ⟨qv2, 3, none⟩ = some (.slice oB bl.length pB) := (cell_of HBv2_27.out 3).trans rfl
  have kv2_4 : (w27).cell? ⟨qv2, 4, none⟩ = some (.int .i64 nx) := (cell_of HBv2_27.out 4).trans rfl
  have kv2_5 : (w27).cell? ⟨qv2, 5, none⟩ = some (.int .i64 sq) := (cell_of HBv2_27.out 5).trans rfl
  have kv2_6 : (w27).cell? ⟨qv2, 6, none⟩ = some (.slice oF fv.length pF) := (cell_of HBv2_27.out 6).trans rfl
  have kv2_7 : (w27).cell? ⟨qv2, 7, none⟩ = some (.int .i64 now) := (cell_of HBv2_27.out 7).trans rfl
  have kv2_8 : (w27).cell? ⟨qv2, 8, none⟩ = some (.slice oE ev.length pE) := (cell_of HBv2_27.out 8).trans rfl
  have kv2_9 : (w27).cell? ⟨qv2, 9, none⟩ = some (.slice oR rv.length pR) := (cell_of HBv2_27.out 9).trans rfl
  refine bodyPost_ret (v := .agg #[.slice oC cs.length pC, .slice oP ws.length pP, .slice oK kv.length pK, .slice oB bl.length pB, .int .i64 nx, .int .i64 sq, .slice oF fv.length pF, .int .i64 now, .slice oE ev.length pE, .slice oR rv.length pR]) (by simp [results, Try.results7, go_sem, kv2_0, kv2_1, kv2_2, kv2_3, kv2_4, kv2_5, kv2_6, kv2_7, kv2_8, kv2_9]) rfl ?_
  exact ⟨_, _, _, _, _, _, _, kv, fv, ev, rv, rfl, ⟨ER_27.out, HKM.out, HFM.out, HEM.out, HRM.out⟩, hb27⟩

/-- A cache's measure: negative, or what is left of L. -/
def SzCache (L : Int) (n1 : Nat) (cs : List ByteArray) (n2 : Nat) (ws : List (Int × ByteArray)) (ks : List KpD) (n4 : Nat) (bl : List (Int × ByteArray × ByteArray × Int)) (fl : List FlD) (se : List SeD) (sn : List RpD) (w : World) (e : Ending) (w' : World) : Prop :=
  ∃ r : Int, e = .returned (.int .i64 r) ∧ r ≤ L ∧ (0 ≤ r → r + (n1 : Int) + (n2 : Int) + (wtK ks : Int) + (n4 : Int) + (wtFl fl : Int) + (wtSe se : Int) + (wtRp sn : Int) ≤ L ∧ ((n1 ≤ 1048576 ∧ ∀ i, i < n1 → (textAt cs i).size ≤ 1048576) ∧ (n2 ≤ 1048576 ∧ ∀ x ∈ ws, (x.2).size ≤ 1048576) ∧ (∀ k ∈ ks, KpSmall k) ∧ (n4 ≤ 1048576 ∧ ∀ x ∈ bl, (x.2.1).size ≤ 1048576 ∧ (x.2.2.1).size ≤ 1048576)) ∧ (∀ k ∈ fl, FlSmall k) ∧ (∀ k ∈ se, SeSmall k) ∧ ∀ k ∈ sn, RpSmall k) ∧ Below w.heap.size w w'
set_option maxHeartbeats 8000000 in
set_option maxRecDepth 100000 in
theorem szCache_any (L : Int) (hL0 : 0 ≤ L) (hL1 : L ≤ 1048576) (a1 : Option Addr) (n1 c1 : Nat) (cs : List ByteArray) (a2 : Option Addr) (n2 c2 : Nat) (ws : List (Int × ByteArray)) (a3 : Option Addr) (n3 c3 : Nat) (ks : List KpD) (a4 : Option Addr) (n4 c4 : Nat) (bl : List (Int × ByteArray × ByteArray × Int)) (nx sq : Int) (a5 : Option Addr) (n5 c5 : Nat) (fl : List FlD) (now : Int) (a6 : Option Addr) (n6 c6 : Nat) (se : List SeD) (a7 : Option Addr) (n7 c7 : Nat) (sn : List RpD) (B : Nat) (w : World) (h1 : ArgT w B a1 n1 cs) (h2 : ArgWrite w B a2 n2 ws) (h3 : ArgKept w B a3 n3 ks) (h4 : ArgBan w B a4 n4 bl) (h5 : ArgFlight w B a5 n5 fl) (h6 : ArgSeen w B a6 n6 se) (h7 : ArgReply w B a7 n7 sn) (hB : B ≤ w.heap.size) (hm : (n1 ≤ maxLen ∧ n2 ≤ maxLen ∧ n3 ≤ maxLen ∧ n4 ≤ maxLen ∧ (∀ i, i < n1 → (textAt cs i).size ≤ maxLen) ∧ (∀ x ∈ ws, (x.2).size ≤ maxLen) ∧ (∀ k ∈ ks, KpMax k) ∧ ∀ x ∈ bl, (x.2.1).size ≤ maxLen ∧ (x.2.2.1).size ≤ maxLen) ∧ (n5 ≤ maxLen ∧ ∀ k ∈ fl, FlMax k) ∧ (n6 ≤ maxLen ∧ ∀ k ∈ se, SeMax k) ∧ n7 ≤ maxLen ∧ ∀ k ∈ sn, RpMax k) :
    Calls Try.prog 5 #[.agg #[.slice a1 n1 c1, .slice a2 n2 c2, .slice a3 n3 c3, .slice a4 n4 c4, .int .i64 nx, .int .i64 sq, .slice a5 n5 c5, .int .i64 now, .slice a6 n6 c6, .slice a7 n7 c7], .int .i64 L] w fun e w' => SzCache L n1 cs n2 ws ks n4 bl fl se sn w e w' := by
  have HA1 : Hid (∀ W, Below w.heap.size w W → ArgT W B a1 n1 cs) := fun W h => h1.below (h.mono hB)
  have HA2 : Hid (∀ W, Below w.heap.size w W → ArgWrite W B a2 n2 ws) := fun W h => h2.below (h.mono hB)
  have HA3 : Hid (∀ W, Below w.heap.size w W → ArgKept W B a3 n3 ks) := fun W h => h3.below (h.mono hB)
  have HA4 : Hid (∀ W, Below w.heap.size w W → ArgBan W B a4 n4 bl) := fun W h => h4.below (h.mono hB)
  have HA5 : Hid (∀ W, Below w.heap.size w W → ArgFlight W B a5 n5 fl) := fun W h => h5.below (h.mono hB)
  have HA6 : Hid (∀ W, Below w.heap.size w W → ArgSeen W B a6 n6 se) := fun W h => h6.below (h.mono hB)
  have HA7 : Hid (∀ W, Below w.heap.size w W → ArgReply W B a7 n7 sn) := fun W h => h7.below (h.mono hB)
  have HBB : Hid (∀ W, Below w.heap.size w W → B ≤ W.heap.size) := fun W h => Nat.le_trans hB h.size
  have HM : Hid ((n1 ≤ maxLen ∧ n2 ≤ maxLen ∧ n3 ≤ maxLen ∧ n4 ≤ maxLen ∧ (∀ i, i < n1 → (textAt cs i).size ≤ maxLen) ∧ (∀ x ∈ ws, (x.2).size ≤ maxLen) ∧ (∀ k ∈ ks, KpMax k) ∧ ∀ x ∈ bl, (x.2.1).size ≤ maxLen ∧ (x.2.2.1).size ≤ maxLen) ∧ (n5 ≤ maxLen ∧ ∀ k ∈ fl, FlMax k) ∧ (n6 ≤ maxLen ∧ ∀ k ∈ se, SeMax k) ∧ n7 ≤ maxLen ∧ ∀ k ∈ sn, RpMax k) := hm
  clear h1 h2 h3 h4 h5 h6 h7 hm hB
  have hb0 : Below w.heap.size w w := Below.refl _ _
  go_enter Try.func5, Try.ntmps5
  go_upto_region 1 with fail
  obtain ⟨qv1, hqv1⟩ : ∃ q, q = (w).heap.size := ⟨_, rfl⟩
  obtain ⟨w1, hW1⟩ : ∃ W, W = (w).alloc (.cells #[.slice a1 n1 c1, .slice a2 n2 c2, .slice a3 n3 c3, .slice a4 n4 c4, .int .i64 nx, .int .i64 sq, .slice a5 n5 c5, .int .i64 now, .slice a6 n6 c6, .slice a7 n7 c7] 34) := ⟨_, rfl⟩
  have hz1 : (w).heap.size = qv1 := hqv1.symm
  first | rw [← hW1, ← hqv1] | rw [← hW1]
  have hs1 : w1.heap.size = qv1 + 1 := by rw [hW1, ← hz1]; simp
  have bw : Below (w).heap.size (w) w1 := by rw [hW1]; exact (Below.refl _ _).alloc (Nat.le_refl _) _
  have hb1 : Below w.heap.size w (w1) := hb0.trans (bw.mono hb0.size)
  have HBv1_1 : Hid ((w1).heap[qv1]? = some (.cells #[.slice a1 n1 c1, .slice a2 n2 c2, .slice a3 n3 c3, .slice a4 n4 c4, .int .i64 nx, .int .i64 sq, .slice a5 n5 c5, .int .i64 now, .slice a6 n6 c6, .slice a7 n7 c7] 34)) := by show _ = _; rw [hW1, ← hz1]; exact heap_alloc_new _ _
  clear hb0 bw hW1 hz1
  clear hs1 hqv1
  have cv1_0 : (w1).cell? ⟨qv1, 0, none⟩ = some (.slice a1 n1 c1) := (cell_of HBv1_1.out 0).trans rfl
  have cv1_1 : (w1).cell? ⟨qv1, 1, none⟩ = some (.slice a2 n2 c2) := (cell_of HBv1_1.out 1).trans rfl
  have cv1_2 : (w1).cell? ⟨qv1, 2, none⟩ = some (.slice a3 n3 c3) := (cell_of HBv1_1.out 2).trans rfl
  have cv1_3 : (w1).cell? ⟨qv1, 3, none⟩ = some (.slice a4 n4 c4) := (cell_of HBv1_1.out 3).trans rfl
  have cv1_4 : (w1).cell? ⟨qv1, 4, none⟩ = some (.int .i64 nx) := (cell_of HBv1_1.out 4).trans rfl
  have cv1_5 : (w1).cell? ⟨qv1, 5, none⟩ = some (.int .i64 sq) := (cell_of HBv1_1.out 5).trans rfl
  go_wp2_with fail
  refine (szShelf_any L (by omega) (by omega) a1 n1 c1 cs a2 n2 c2 ws a3 n3 c3 ks a4 n4 c4 bl nx sq B _ (HA1.out _ hb1) (HA2.out _ hb1) (HA3.out _ hb1) (HA4.out _ hb1) (HBB.out _ hb1) HM.out.1).mono ?_
  rintro e w2 ⟨r1, rfl, hl1, hr1, bw⟩
  have hb2 : Below w.heap.size w (w2) := hb1.trans (bw.mono hb1.size)
  have HBv1_2 : Hid ((w2).heap[qv1]? = some (.cells #[.slice a1 n1 c1, .slice a2 n2 c2, .slice a3 n3 c3, .slice a4 n4 c4, .int .i64 nx, .int .i64 sq, .slice a5 n5 c5, .int .i64 now, .slice a6 n6 c6, .slice a7 n7 c7] 34)) := blk_below HBv1_1.out bw
  clear hb1 HBv1_1 bw
  clear cv1_0 cv1_1 cv1_2 cv1_3 cv1_4 cv1_5
  by_cases hc1 : r1 < 0
  · clear hr1
    go_wp2_with fail
    go_ret
    exact ⟨-1, rfl, by omega, fun h => absurd h (by omega), hb2⟩
  · have HR1 : Hid _ := hr1 (by omega)
    clear hr1
    have mr1 := HR1.out.1
    have cv1_6 : (w2).cell? ⟨qv1, 6, none⟩ = some (.slice a5 n5 c5) := (cell_of HBv1_2.out 6).trans rfl
    go_wp2_with fail
    refine (szFlightS_any r1 (by omega) (by omega) B a5 n5 c5 fl _ (HA5.out _ hb2) (HBB.out _ hb2) HM.out.2.1.1 HM.out.2.1.2).mono ?_
    rintro e w3 ⟨r2, rfl, hl2, hr2, bw⟩
    have hb3 : Below w.heap.size w (w3) := hb2.trans (bw.mono hb2.size)
    have HBv1_3 : Hid ((w3).heap[qv1]? = some (.cells #[.slice a1 n1 c1, .slice a2 n2 c2, .slice a3 n3 c3, .slice a4 n4 c4, .int .i64 nx, .int .i64 sq, .slice a5 n5 c5, .int .i64 now, .slice a6 n6 c6, .slice a7 n7 c7] 34)) := blk_below HBv1_2.out bw
    clear hb2 HBv1_2 bw
    clear cv1_6
    by_cases hc2 : r2 < 0
    · clear hr2
      go_wp2_with fail
      go_ret
      exact ⟨-1, rfl, by omega, fun h => absurd h (by omega), hb3⟩
    · have HR2 : Hid _ := hr2 (by omega)
      clear hr2
      have mr2 := HR2.out.1
      have cv1_8 : (w3).cell? ⟨qv1, 8, none⟩ = some (.slice a6 n6 c6) := (cell_of HBv1_3.out 8).trans rfl
      go_wp2_with fail
      refine (szSeenS_any r2 (by omega) (by omega) B a6 n6 c6 se _ (HA6.out _ hb3) (HBB.out _ hb3) HM.out.2.2.1.1 HM.out.2.2.1.2).mono ?_
      rintro e w4 ⟨r3, rfl, hl3, hr3, bw⟩
      have hb4 : Below w.heap.size w (w4) := hb3.trans (bw.mono hb3.size)
      have HBv1_4 : Hid ((w4).heap[qv1]? = some (.cells #[.slice a1 n1 c1, .slice a2 n2 c2, .slice a3 n3 c3, .slice a4 n4 c4, .int .i64 nx, .int .i64 sq, .slice a5 n5 c5, .int .i64 now, .slice a6 n6 c6, .slice a7 n7 c7] 34)) := blk_below HBv1_3.out bw
      clear hb3 HBv1_3 bw
      clear cv1_8
      by_cases hc3 : r3 < 0
      · clear hr3
        go_wp2_with fail
        go_ret
        exact ⟨-1, rfl, by omega, fun h => absurd h (by omega), hb4⟩
      · have HR3 : Hid _ := hr3 (by omega)
        clear hr3
        have mr3 := HR3.out.1
        have cv1_9 : (w4).cell? ⟨qv1, 9, none⟩ = some (.slice a7 n7 c7) := (cell_of HBv1_4.out 9).trans rfl
        go_wp2_with fail
        refine (szReplyS_any r3 (by omega) (by omega) B a7 n7 c7 sn _ (HA7.out _ hb4) (HBB.out _ hb4) HM.out.2.2.2.1 HM.out.2.2.2.2).mono ?_
        rintro e w5 ⟨r4, rfl, hl4, hr4, bw⟩
        have hb5 : Below w.heap.size w (w5) := hb4.trans (bw.mono hb4.size)
        have HBv1_5 : Hid ((w5).heap[qv1]? = some (.cells #[.slice a1 n1 c1, .slice a2 n2 c2, .slice a3 n3 c3, .slice a4 n4 c4, .int .i64 nx, .int .i64 sq, .slice a5 n5 c5, .int .i64 now, .slice a6 n6 c6, .slice a7 n7 c7] 34)) := blk_below HBv1_4.out bw
        clear hb4 HBv1_4 bw
        clear cv1_9
        by_cases hc4 : r4 < 0
        · clear hr4
          go_wp2_with fail
          go_ret
          exact ⟨-1, rfl, by omega, fun h => absurd h (by omega), hb5⟩
        · have HR4 : Hid _ := hr4 (by omega)
          clear hr4
          have mr4 := HR4.out.1
          go_wp2_with fail
          go_ret
          exact ⟨r4, rfl, by omega, fun _ => ⟨by omega, HR1.out.2, HR2.out.2, HR3.out.2, HR4.out.2⟩, hb5⟩

/-- A cache of bounded size. -/
structure CaLim (y : CaD) : Prop where
  c : y.s.cs.length ≤ 2000000
  w : y.s.ws.length ≤ 2000000
  k : y.s.ks.length ≤ 2000000
  b : y.s.bl.length ≤ 2000000
  ks : ∀ k ∈ y.s.ks, k.xs.length ≤ 2000000 ∧ k.ys.length ≤ 2000000 ∧ k.fs.length ≤ 2000000
  nfl : y.fl.length ≤ 2000000
  nse : y.se.length ≤ 2000000
  nsn : y.sn.length ≤ 2000000
  fl : ∀ k ∈ y.fl, FlLim k
  se : ∀ k ∈ y.se, SeLim k
  sn : ∀ k ∈ y.sn, RpLim k
set_option maxHeartbeats 8000000 in
set_option maxRecDepth 100000 in
theorem eqCache_any (c : CaD) (x1 x2 x3 x4 x5 x6 x7 y1 y2 y3 y4 y5 y6 y7 : Value) (kvx kvy : List (KpD × Value × Value × Value)) (fvx fvy : List FlV) (evx evy : List SeV) (rvx rvy : List RpV) (Bx By : Nat) (w : World) (hx : CacheO (w) Bx x1 x2 x3 x4 x5 x6 x7 kvx fvx evx rvx c) (hy : CacheO (w) By y1 y2 y3 y4 y5 y6 y7 kvy fvy evy rvy c) (hl : CaLim c) :
    Calls Try.prog 10 #[.agg #[x1, x2, x3, x4, .int .i64 c.s.nx, .int .i64 c.s.sq, x5, .int .i64 c.now, x6, x7], .agg #[y1, y2, y3, y4, .int .i64 c.s.nx, .int .i64 c.s.sq, y5, .int .i64 c.now, y6, y7]] w fun e w' => e = .returned (.bool true) ∧ Below w.heap.size w w' := by
  have HLM : Hid (CaLim c) := hl
  have Ex_0 : Hid (CacheO (w) Bx x1 x2 x3 x4 x5 x6 x7 kvx fvx evx rvx c) := hx
  have Ey_0 : Hid (CacheO (w) By y1 y2 y3 y4 y5 y6 y7 kvy fvy evy rvy c) := hy
  clear hx hy hl
  have hnw : (c.now != c.now) = false := by simp
  have hb0 : Below w.heap.size w w := Below.refl _ _
  go_enter Try.func10, Try.ntmps10
  go_upto_region 1 with fail
  obtain ⟨qv1, hqv1⟩ : ∃ q, q = (w).heap.size := ⟨_, rfl⟩
  obtain ⟨w1, hW1⟩ : ∃ W, W = (w).alloc (.cells #[x1, x2, x3, x4, .int .i64 c.s.nx, .int .i64 c.s.sq, x5, .int .i64 c.now, x6, x7] 49) := ⟨_, rfl⟩
  have hz1 : (w).heap.size = qv1 := hqv1.symm
  first | rw [← hW1, ← hqv1] | rw [← hW1]
  have hs1 : w1.heap.size = qv1 + 1 := by rw [hW1, ← hz1]; simp
  have bw : Below (w).heap.size (w) w1 := by rw [hW1]; exact (Below.refl _ _).alloc (Nat.le_refl _) _
  have hb1 : Below w.heap.size w (w1) := hb0.trans (bw.mono hb0.size)
  have Ex_1 : Hid (CacheO (w1) Bx x1 x2 x3 x4 x5 x6 x7 kvx fvx evx rvx c) := Ex_0.out.below bw
  have Ey_1 : Hid (CacheO (w1) By y1 y2 y3 y4 y5 y6 y7 kvy fvy evy rvy c) := Ey_0.out.below bw
  have HBv1_1 : Hid ((w1).heap[qv1]? = some (.cells #[x1, x2, x3, x4, .int .i64 c.s.nx, .int .i64 c.s.sq, x5, .int .i64 c.now, x6, x7] 49)) := by show _ = _; rw [hW1, ← hz1]; exact heap_alloc_new _ _
  clear hb0 Ex_0 Ey_0 bw hW1 hz1
  obtain ⟨qv2, hqv2⟩ : ∃ q, q = qv1 + 1 := ⟨_, rfl⟩
  obtain ⟨w2, hW2⟩ : ∃ W, W = (w1).alloc (.cells #[y1, y2, y3, y4, .int .i64 c.s.nx, .int .i64 c.s.sq, y5, .int .i64 c.now, y6, y7] 49) := ⟨_, rfl⟩
  have hz2 : (w1).heap.size = qv2 := by rw [hqv2]; exact hs1
  first | rw [← hW2, ← hqv2] | rw [← hW2]
  have hs2 : w2.heap.size = qv2 + 1 := by rw [hW2, ← hz2]; simp
  have bw : Below (w1).heap.size (w1) w2 := by rw [hW2]; exact (Below.refl _ _).alloc (Nat.le_refl _) _
  have hb2 : Below w.heap.size w (w2) := hb1.trans (bw.mono hb1.size)
  have HBv1_2 : Hid ((w2).heap[qv1]? = some (.cells #[x1, x2, x3, x4, .int .i64 c.s.nx, .int .i64 c.s.sq, x5, .int .i64 c.now, x6, x7] 49)) := blk_below HBv1_1.out bw
  have Ex_2 : Hid (CacheO (w2) Bx x1 x2 x3 x4 x5 x6 x7 kvx fvx evx rvx c) := Ex_1.out.below bw
  have Ey_2 : Hid (CacheO (w2) By y1 y2 y3 y4 y5 y6 y7 kvy fvy evy rvy c) := Ey_1.out.below bw
  have HBv2_2 : Hid ((w2).heap[qv2]? = some (.cells #[y1, y2, y3, y4, .int .i64 c.s.nx, .int .i64 c.s.sq, y5, .int .i64 c.now, y6, y7] 49)) := by show _ = _; rw [hW2, ← hz2]; exact heap_alloc_new _ _
  clear hb1 HBv1_1 Ex_1 Ey_1 bw hW2 hz2
  clear hs2 hqv2 hs1 hqv1
  have cv1_0 : (w2).cell? ⟨qv1, 0, none⟩ = some (x1) := (cell_of HBv1_2.out 0).trans rfl
  have cv1_1 : (w2).cell? ⟨qv1, 1, none⟩ = some (x2) := (cell_of HBv1_2.out 1).trans rfl
  have cv1_2 : (w2).cell? ⟨qv1, 2, none⟩ = some (x3) := (cell_of HBv1_2.out 2).trans rfl
  have cv1_3 : (w2).cell? ⟨qv1, 3, none⟩ = some (x4) := (cell_of HBv1_2.out 3).trans rfl
  have cv1_4 : (w2).cell? ⟨qv1, 4, none⟩ = some (.int .i64 c.s.nx) := (cell_of HBv1_2.out 4).trans rfl
  have cv1_5 : (w2).cell? ⟨qv1, 5, none⟩ = some (.int .i64 c.s.sq) := (cell_of HBv1_2.out 5).trans rfl
  have cv2_0 : (w2).cell? ⟨qv2, 0, none⟩ = some (y1) := (cell_of HBv2_2.out 0).trans rfl
  have cv2_1 : (w2).cell? ⟨qv2, 1, none⟩ = some (y2) := (cell_of HBv2_2.out 1).trans rfl
  have cv2_2 : (w2).cell? ⟨qv2, 2, none⟩ = some (y3) := (cell_of HBv2_2.out 2).trans rfl
  have cv2_3 : (w2).cell? ⟨qv2, 3, none⟩ = some (y4) := (cell_of HBv2_2.out 3).trans rfl
  have cv2_4 : (w2).cell? ⟨qv2, 4, none⟩ = some (.int .i64 c.s.nx) := (cell_of HBv2_2.out 4).trans rfl
  have cv2_5 : (w2).cell? ⟨qv2, 5, none⟩ = some (.int .i64 c.s.sq) := (cell_of HBv2_2.out 5).trans rfl
  go_wp2_with fail
  refine (eqShelf_any c.s _ _ _ _ _ _ _ _ kvx kvy Bx By _ Ex_2.out.shelf Ey_2.out.shelf HLM.out.c HLM.out.w HLM.out.k HLM.out.b HLM.out.ks).mono ?_
  rintro e w3 ⟨rfl, bw⟩
  have hb3 : Below w.heap.size w (w3) := hb2.trans (bw.mono hb2.size)
  have HBv1_3 : Hid ((w3).heap[qv1]? = some (.cells #[x1, x2, x3, x4, .int .i64 c.s.nx, .int .i64 c.s.sq, x5, .int .i64 c.now, x6, x7] 49)) := blk_below HBv1_2.out bw
  have HBv2_3 : Hid ((w3).heap[qv2]? = some (.cells #[y1, y2, y3, y4, .int .i64 c.s.nx, .int .i64 c.s.sq, y5, .int .i64 c.now, y6, y7] 49)) := blk_below HBv2_2.out bw
  have Ex_3 : Hid (CacheO (w3) Bx x1 x2 x3 x4 x5 x6 x7 kvx fvx evx rvx c) := Ex_2.out.below bw
  have Ey_3 : Hid (CacheO (w3) By y1 y2 y3 y4 y5 y6 y7 kvy fvy evy rvy c) := Ey_2.out.below bw
  clear hb2 HBv1_2 HBv2_2 Ex_2 Ey_2 bw
  clear cv1_0 cv1_1 cv1_2 cv1_3 cv1_4 cv1_5 cv2_0 cv2_1 cv2_2 cv2_3 cv2_4 cv2_5
  have cv1_6 : (w3).cell? ⟨qv1, 6, none⟩ = some (x5) := (cell_of HBv1_3.out 6).trans rfl
  have cv2_6 : (w3).cell? ⟨qv2, 6, none⟩ = some (y5) := (cell_of HBv2_3.out 6).trans rfl
  go_wp2_with fail
  refine (eqFlightS_any _ _ fvx fvy Bx By _ (Ex_3.out.hf.trans Ey_3.out.hf.symm) Ex_3.out.fls Ey_3.out.fls (by rw [← List.length_map (f := (·.d)), Ex_3.out.hf]; exact HLM.out.nfl) (fun x hx => HLM.out.fl x.d (by rw [← Ex_3.out.hf]; exact List.mem_map.2 ⟨x, hx, rfl⟩))).mono ?_
  rintro e w4 ⟨rfl, bw⟩
  have hb4 : Below w.heap.size w (w4) := hb3.trans (bw.mono hb3.size)
  have HBv1_4 : Hid ((w4).heap[qv1]? = some (.cells #[x1, x2, x3, x4, .int .i64 c.s.nx, .int .i64 c.s.sq, x5, .int .i64 c.now, x6, x7] 49)) := blk_below HBv1_3.out bw
  have HBv2_4 : Hid ((w4).heap[qv2]? = some (.cells #[y1, y2, y3, y4, .int .i64 c.s.nx, .int .i64 c.s.sq, y5, .int .i64 c.now, y6, y7] 49)) := blk_below HBv2_3.out bw
  have Ex_4 : Hid (CacheO (w4) Bx x1 x2 x3 x4 x5 x6 x7 kvx fvx evx rvx c) := Ex_3.out.below bw
  have Ey_4 : Hid (CacheO (w4) By y1 y2 y3 y4 y5 y6 y7 kvy fvy evy rvy c) := Ey_3.out.below bw
  clear hb3 HBv1_3 HBv2_3 Ex_3 Ey_3 bw
  clear cv1_6 cv2_6
  have cv1_7 : (w4).cell? ⟨qv1, 7, none⟩ = some (.int .i64 c.now) := (cell_of HBv1_4.out 7).trans rfl
  have cv2_7 : (w4).cell? ⟨qv2, 7, none⟩ = some (.int .i64 c.now) := (cell_of HBv2_4.out 7).trans rfl
  have cv1_8 : (w4).cell? ⟨qv1, 8, none⟩ = some (x6) := (cell_of HBv1_4.out 8).trans rfl
  have cv2_8 : (w4).cell? ⟨qv2, 8, none⟩ = some (y6) := (cell_of HBv2_4.out 8).trans rfl
  go_wp2_with fail
  refine (eqSeenS_any _ _ evx evy Bx By _ (Ex_4.out.he.trans Ey_4.out.he.symm) Ex_4.out.ses Ey_4.out.ses (by rw [← List.length_map (f := (·.d)), Ex_4.out.he]; exact HLM.out.nse) (fun x hx => HLM.out.se x.d (by rw [← Ex_4.out.he]; exact List.mem_map.2 ⟨x, hx, rfl⟩))).mono ?_
  rintro e w5 ⟨rfl, bw⟩
  have hb5 : Below w.heap.size w (w5) := hb4.trans (bw.mono hb4.size)
  have HBv1_5 : Hid ((w5).heap[qv1]? = some (.cells #[x1, x2, x3, x4, .int .i64 c.s.nx, .int .i64 c.s.sq, x5, .int .i64 c.now, x6, x7] 49)) := blk_below HBv1_4.out bw
  have HBv2_5 : Hid ((w5).heap[qv2]? = some (.cells #[y1, y2, y3, y4, .int .i64 c.s.nx, .int .i64 c.s.sq, y5, .int .i64 c.now, y6, y7] 49)) := blk_below HBv2_4.out bw
  have Ex_5 : Hid (CacheO (w5) Bx x1 x2 x3 x4 x5 x6 x7 kvx fvx evx rvx c) := Ex_4.out.below bw
  have Ey_5 : Hid (CacheO (w5) By y1 y2 y3 y4 y5 y6 y7 kvy fvy evy rvy c) := Ey_4.out.below bw
  clear hb4 HBv1_4 HBv2_4 Ex_4 Ey_4 bw
  clear cv1_7 cv2_7 cv1_8 cv2_8
  have cv1_9 : (w5).cell? ⟨qv1, 9, none⟩ = some (x7) := (cell_of HBv1_5.out 9).trans rfl
  have cv2_9 : (w5).cell? ⟨qv2, 9, none⟩ = some (y7) := (cell_of HBv2_5.out 9).trans rfl
  go_wp2_with fail
  refine (eqReplyS_any _ _ rvx rvy Bx By _ (Ex_5.out.hr.trans Ey_5.out.hr.symm) Ex_5.out.rps Ey_5.out.rps (by rw [← List.length_map (f := (·.d)), Ex_5.out.hr]; exact HLM.out.nsn) (fun x hx => HLM.out.sn x.d (by rw [← Ex_5.out.hr]; exact List.mem_map.2 ⟨x, hx, rfl⟩))).mono ?_
  rintro e w6 ⟨rfl, bw⟩
  have hb6 : Below w.heap.size w (w6) := hb5.trans (bw.mono hb5.size)
  have HBv1_6 : Hid ((w6).heap[qv1]? = some (.cells #[x1, x2, x3, x4, .int .i64 c.s.nx, .int .i64 c.s.sq, x5, .int .i64 c.now, x6, x7] 49)) := blk_below HBv1_5.out bw
  have HBv2_6 : Hid ((w6).heap[qv2]? = some (.cells #[y1, y2, y3, y4, .int .i64 c.s.nx, .int .i64 c.s.sq, y5, .int .i64 c.now, y6, y7] 49)) := blk_below HBv2_5.out bw
  have Ex_6 : Hid (CacheO (w6) Bx x1 x2 x3 x4 x5 x6 x7 kvx fvx evx rvx c) := Ex_5.out.below bw
  have Ey_6 : Hid (CacheO (w6) By y1 y2 y3 y4 y5 y6 y7 kvy fvy evy rvy c) := Ey_5.out.below bw
  clear hb5 HBv1_5 HBv2_5 Ex_5 Ey_5 bw
  clear cv1_9 cv2_9
  go_wp2_with fail
  go_ret
  exact ⟨rfl, hb6⟩

end Go.Proofs.Ytajccgffallajaa

namespace Go.Proofs.Ytajccgffallajaa
open Go.RowKit
open Go.Lib hiding intOf

/-- 'wpAnyH_take', its place named. -/
theorem wpAnyH_takeD {P : Program} {ops : Array Oper} {Q : Exit → Act → World → Prop} {md : Region.Mode} {S : World → Prop} {i : Nat} {oi : Oper} {v : Value} {fuel : Nat} {listed : Array Bool} {a : Act} {w : World} (d : Option Tmp) (hi : ops[i]? = some oi) (hd : oi.dst = d)
    (hs : Region.noSelect ops = true) (hf : Region.free md ops listed i = true) (hr : (Region.ready md ops listed).contains i = true)
    (hQ : ∀ c a w, Q (.panic c) (a.put oi.dst v) w → Q (.panic c) a w) (hy : YieldsIf P ops S oi v a) (hS : S w)
    (h : wpAnyH P md ops Q S fuel (listed.setIfInBounds i true) (a.put d v) w) : wpAnyH P md ops Q S (fuel + 1) listed a w :=
  wpAnyH_take hi hs hf hr hQ hy hS (hd ▸ h)
end Go.Proofs.Ytajccgffallajaa

namespace Go.Proofs.Ytajccgffallajaa
open Go.RowKit
open Go.Lib hiding intOf

/-- A list whose cells can be read, nil or not. -/
def Src (w : World) (size : Nat) (v : Value) (m : Nat) (news : List Value) : Prop :=
  news.length = m * size ∧ (∀ u ∈ news, u.oneCell' = true) ∧ ((v = .slice none 0 0 ∧ m = 0) ∨ ∃ ad c, v = .slice (some ad) m c ∧ ∀ j u, news[j]? = some u → w.cell? (ad.add j) = some u)
theorem Src.of_owns {w : World} {base : Nat} {t : TypeId} {size n : Nat} {v : Value} {xs : List Value} (h : w.ownsRow base t size v n xs) (h1 : ∀ u ∈ xs, u.oneCell' = true) : Src w size v n xs := by
  obtain ⟨hl, hv⟩ := h
  refine ⟨hl, h1, ?_⟩
  rcases hv with ⟨rfl, h0⟩ | ⟨g, cap, cur, rfl, hb, hg, hn, hm, hcs, htk⟩
  · exact .inl ⟨rfl, h0⟩
  · refine .inr ⟨⟨g, 0, none⟩, cap, rfl, fun j u hj => ?_⟩
    have e : (⟨g, 0, none⟩ : Addr).add j = ⟨g, j, none⟩ := by unfold Addr.add; split <;> simp_all
    rw [e, ← htk, List.getElem?_take] at *
    split at hj
    · simpa [World.cell?, hg] using hj
    · cases hj
theorem run_append_src {P : Program} {w : World} (t ty : TypeId) (base : Nat) (e : TypeId) (i : TypeInfo) (z : Value) (size bytes : Nat) (ht : P.underlying t = some (.slice e)) (hi : P.info? e = some i) (hz : i.zero = some z)
    (hsize : i.size = size) (hby : i.bytes = bytes) (hzs : z.cells.size = size) (hsz : 0 < size)
    (v : Value) (n : Nat) (xs : List Value) (hown : w.ownsRow base e size v n xs) (x : Value) (m : Nat) (news : List Value) (hsrc : Src w size x m news)
    (h63 : n + m ≤ maxLen) (hbytes : (n + m) * bytes ≤ 140737488355328) (hbase : base ≤ w.heap.size) :
    ∃ v' w', (Builtin.append_ #[t, t] ty #[v, x]).run P w = .ok v' w' ∧ w'.ownsRow base e size v' (n + m) (xs ++ news) ∧ w.grownBy w' v.ownBlock := by
  obtain ⟨hl, h1, ⟨rfl, rfl⟩ | ⟨ad, c, rfl, hnews⟩⟩ := hsrc
  · have hn : news = [] := List.length_eq_zero_iff.1 (by omega)
    subst hn
    exact ⟨v, w, run_append_owned_none (P := P) (w := w) base t ty e i size ht hi v n xs hown, by simpa using hown, World.grownBy.refl _ _⟩
  · obtain ⟨v', w', hr, h2, h3, _, _⟩ := run_append_own_at (P := P) w base t ty e i z size bytes ht hi hz hsize hby hzs hsz v n xs hown ad m c news hl hnews h1 h63 hbytes hbase
    exact ⟨v', w', hr, h2, h3⟩
theorem wp_append_src {P : Program} {w : World} {o : Oper} {a : Act} {K : Act → World → Prop} {Q : Exit → Act → World → Prop} (s x : Operand) (t : TypeId)
    (ho : o.op = .call { callee := .builtin .append, args := #[s, x], argTypes := #[t, t] })
    (base : Nat) (e : TypeId) (i : TypeInfo) (z : Value) (size bytes : Nat) (ht : P.underlying t = some (.slice e)) (hi : P.info? e = some i) (hz : i.zero = some z)
    (hsize : i.size = size) (hby : i.bytes = bytes) (hzs : z.cells.size = size) (hsz : 0 < size)
    (v : Value) (n : Nat) (xs : List Value) (hs : a.eval s = v) (hown : w.ownsRow base e size v n xs) (y : Value) (m : Nat) (news : List Value) (hx : a.eval x = y) (hsrc : Src w size y m news)
    (h63 : n + m ≤ maxLen) (hbytes : (n + m) * bytes ≤ 140737488355328) (hbase : base ≤ w.heap.size)
    (h : ∀ v' w', w'.ownsRow base e size v' (n + m) (xs ++ news) → w.grownBy w' v.ownBlock → K (a.put o.dst v') w') : Oper.wp P o a w K Q := by
  obtain ⟨v', w', hr, h2, h3⟩ := run_append_src (P := P) (w := w) t o.type base e i z size bytes ht hi hz hsize hby hzs hsz v n xs hown y m news hsrc h63 hbytes hbase
  unfold Oper.wp execOp
  simp only [ho, resolve, invoke, builtin, Sem.run_bind, Sem.run_pure, Result.andThen_ok, List.map_toArray, List.map_cons, List.map_nil, hs, hx, hr]
  exact h v' w' h2 h3
theorem wpList_append_src {P : Program} {w : World} {ops : Array Oper} {rest : List Oper} {o : Oper} {a : Act} {Q : Exit → Act → World → Prop} (hgd : o.guard = none) (s x : Operand) (t : TypeId)
    (ho : o.op = .call { callee := .builtin .append, args := #[s, x], argTypes := #[t, t] })
    (base : Nat) (e : TypeId) (i : TypeInfo) (z : Value) (size bytes : Nat) (ht : P.underlying t = some (.slice e)) (hi : P.info? e = some i) (hz : i.zero = some z)
    (hsize : i.size = size) (hby : i.bytes = bytes) (hzs : z.cells.size = size) (hsz : 0 < size)
    (v : Value) (n : Nat) (xs : List Value) (hs : a.eval s = v) (hown : w.ownsRow base e size v n xs) (y : Value) (m : Nat) (news : List Value) (hx : a.eval x = y) (hsrc : Src w size y m news)
    (h63 : n + m ≤ maxLen) (hbytes : (n + m) * bytes ≤ 140737488355328) (hbase : base ≤ w.heap.size)
    (h : ∀ v' w', w'.ownsRow base e size v' (n + m) (xs ++ news) → w.grownBy w' v.ownBlock → wpList P ops Q rest (a.put o.dst v') w') : wpList P ops Q (o :: rest) a w :=
  wpList_plain hgd fun _ hK => wp_append_src s x t ho base e i z size bytes ht hi hz hsize hby hzs hsz v n xs hs hown y m news hx hsrc h63 hbytes hbase fun v' w' h2 h3 => hK _ _ (h v' w' h2 h3)
end Go.Proofs.Ytajccgffallajaa

namespace Go.Proofs.Ytajccgffallajaa
open Go.RowKit
open Go.Lib hiding intOf

/-- A store that was measured. -/
structure ShSmall (s : ShD) : Prop where
  c : s.cs.length ≤ 1048576
  w : s.ws.length ≤ 1048576
  k : s.ks.length ≤ 1048576
  b : s.bl.length ≤ 1048576
  ct : ∀ i, i < s.cs.length → (textAt s.cs i).size ≤ 1048576
  wt : ∀ x ∈ s.ws, x.2.size ≤ 1048576
  ks : ∀ k ∈ s.ks, KpSmall k
  bt : ∀ x ∈ s.bl, x.2.1.size ≤ 1048576 ∧ x.2.2.1.size ≤ 1048576
end Go.Proofs.Ytajccgffallajaa

namespace Go.Proofs.Ytajccgffallajaa
open Go.RowKit
open Go.Lib hiding intOf

/-- A cache that was measured. -/
structure CaSmall (y : CaD) : Prop where
  s : ShSmall y.s
  fl : ∀ k ∈ y.fl, FlSmall k
  se : ∀ k ∈ y.se, SeSmall k
  sn : ∀ k ∈ y.sn, RpSmall k
  nf : y.fl.length ≤ 1048576
  ne : y.se.length ≤ 1048576
  nr : y.sn.length ≤ 1048576
end Go.Proofs.Ytajccgffallajaa

namespace Go.Proofs.Ytajccgffallajaa
open Go.RowKit
open Go.Lib hiding intOf

theorem owns_cap {w : World} {B T z : Nat} {o : Option Addr} {n c : Nat} {cs : List Value} (h : w.ownsRow B T z (.slice o n c) n cs) : n ≤ c := by
  rcases h.2 with ⟨h1, _⟩ | ⟨g, cap, cur, h1, _, _, h2, _⟩
  · injection h1 with _ h3 _
    omega
  · injection h1 with _ h3 h4
    omega
theorem infoInt : (Try.prog.info? 3).map (fun i => (i.zero, i.size, i.bytes)) = some (some (.int .i64 0), 1, 8) := by kernel_rfl
theorem ints_ones (zs : List Int) : ∀ u ∈ zs.map (Value.int .i64), u.oneCell' = true := fun u hu => by obtain ⟨x, _, rfl⟩ := List.mem_map.1 hu; rfl

end Go.Proofs.Ytajccgffallajaa

namespace Go.Proofs.Ytajccgffallajaa
open Go.RowKit
open Go.Lib hiding intOf

/-- Who waits in the first flights, in order. -/
def whoTo (fl : List FlD) : Nat → List Int
  | 0 => []
  | i + 1 => whoTo fl i ++ (flAt fl i).who
theorem whoTo_succ (fl : List FlD) (i : Nat) (_ : i < fl.length) : whoTo fl (i + 1) = whoTo fl i ++ (flAt fl i).who := rfl
/-- A call answers a list of ints of its own. -/
def WaitIs (zs : List Int) (w : World) (e : Ending) (w' : World) : Prop := ∃ (o : Option Addr) (m p : Nat), e = .returned (.slice o m p) ∧ w'.ownsRow w.heap.size 3 1 (.slice o m p) m (zs.map (Value.int .i64)) ∧ zs.length = m ∧ Below w.heap.size w w'

set_option maxHeartbeats 8000000 in
set_option maxRecDepth 100000 in
theorem specWaiting_w (v1 v2 V VB F E R : Value) (kv : List (KpD × Value × Value × Value)) (fv : List FlV) (ev : List SeV) (rv : List RpV) (c : CaD) (B : Nat) (w : World) (h : CacheO w B v1 v2 V VB F E R kv fv ev rv c) (hz : CaSmall c) :
    Calls Try.prog 6 #[.agg #[v1, v2, V, VB, .int .i64 c.s.nx, .int .i64 c.s.sq, F, .int .i64 c.now, E, R]] w fun e w' => WaitIs (whoTo c.fl c.fl.length) w e w' := by
  obtain ⟨o1, c1, rfl⟩ := slice_of_owns h.shelf.disk.cells
  obtain ⟨o2, c2, rfl⟩ := slice_of_owns h.shelf.disk.pend
  obtain ⟨o3, c3, rfl⟩ := h.shelf.kept.len
  obtain ⟨o4, c4, rfl⟩ := slice_of_owns h.shelf.bans
  obtain ⟨o5, c5, rfl⟩ := h.fls.len
  obtain ⟨o6, c6, rfl⟩ := h.ses.len
  obtain ⟨o7, c7, rfl⟩ := h.rps.len
  obtain ⟨n3, hn3⟩ : ∃ n, n = kv.length := ⟨_, rfl⟩
  obtain ⟨n4, hn4⟩ : ∃ n, n = c.s.bl.length := ⟨_, rfl⟩
  obtain ⟨n5, hn5⟩ : ∃ n, n = fv.length := ⟨_, rfl⟩
  obtain ⟨n6, hn6⟩ : ∃ n, n = ev.length := ⟨_, rfl⟩
  obtain ⟨n7, hn7⟩ : ∃ n, n = rv.length := ⟨_, rfl⟩
  rw [← hn3, ← hn4, ← hn5, ← hn6, ← hn7] at h ⊢
  have HLK : Hid (kv.length = n3) := hn3.symm
  have HLB : Hid (c.s.bl.length = n4) := hn4.symm
  have HLF : Hid (fv.length = n5) := hn5.symm
  have HLE : Hid (ev.length = n6) := hn6.symm
  have HLR : Hid (rv.length = n7) := hn7.symm
  have HLC : Hid (c.fl.length = n5 ∧ c.se.length = n6 ∧ c.sn.length = n7 ∧ c.s.ks.length = n3) := ⟨by rw [← h.hf, List.length_map, hn5], by rw [← h.he, List.length_map, hn6], by rw [← h.hr, List.length_map, hn7], by rw [← h.hk, List.length_map, hn3]⟩
  have HFD : Hid (fv.map (·.d) = c.fl) := h.hf
  have HED : Hid (ev.map (·.d) = c.se) := h.he
  have HKS : Hid (kv.map (·.1) = c.s.ks) := h.hk
  have HZ : Hid (CaSmall c) := hz
  have bn3 : n3 ≤ 1048576 := by rw [← HLC.out.2.2.2]; exact hz.s.k
  have bn4 : n4 ≤ 1048576 := by rw [← HLB.out]; exact hz.s.b
  have bn5 : n5 ≤ 1048576 := by rw [← HLC.out.1]; exact hz.nf
  have bn6 : n6 ≤ 1048576 := by rw [← HLC.out.2.1]; exact hz.ne
  have bn7 : n7 ≤ 1048576 := by rw [← HLC.out.2.2.1]; exact hz.nr
  have HCA : Hid (∀ W, Below w.heap.size w W → CacheO W B (.slice o1 c.s.cs.length c1) (.slice o2 c.s.ws.length c2) (.slice o3 n3 c3) (.slice o4 n4 c4) (.slice o5 n5 c5) (.slice o6 n6 c6) (.slice o7 n7 c7) kv fv ev rv c) := fun W hb => h.below hb
  have HKP : Hid (∀ W, Below w.heap.size w W → KeptsO W B (.slice o3 n3 c3) kv) := fun W hb => (h.below hb).shelf.kept
  have HBN : Hid (∀ W, Below w.heap.size w W → BanA W o4 n4 c.s.bl) := fun W hb => by
    have h1 := (h.below hb).shelf.bans
    rw [HLB.out] at h1
    exact ban_view h1
  have HC4 : Hid (n4 ≤ c4) := by
    have h1 := h.shelf.bans
    rw [HLB.out] at h1
    exact owns_cap h1
  clear hn3 hn4 hn5 hn6 hn7 h hz
  have HFL : Hid (∀ W, Below w.heap.size w W → FlsO W B (.slice o5 n5 c5) fv) := fun W hb => (HCA.out W hb).fls
  have HFS : Hid (∀ x ∈ fv, FlSmall x.d) := fun x hx => HZ.out.fl _ (by rw [← HFD.out]; exact List.mem_map.2 ⟨x, hx, rfl⟩)
  obtain ⟨i0, hi, hz0, hz1, hz2⟩ := info_parts infoInt
  have hb0 : Below w.heap.size w w := Below.refl _ _
  go_enter Try.func6, Try.ntmps6
  go_upto_region 1 with fail
  obtain ⟨qv1, hqv1⟩ : ∃ q, q = (w).heap.size := ⟨_, rfl⟩
  obtain ⟨w1, hW1⟩ : ∃ W, W = (w).alloc (.cells #[.slice o1 c.s.cs.length c1, .slice o2 c.s.ws.length c2, .slice o3 n3 c3, .slice o4 n4 c4, .int .i64 c.s.nx, .int .i64 c.s.sq, .slice o5 n5 c5, .int .i64 c.now, .slice o6 n6 c6, .slice o7 n7 c7] 49) := ⟨_, rfl⟩
  have hz1 : (w).heap.size = qv1 := hqv1.symm
  first | rw [← hW1, ← hqv1] | rw [← hW1]
  have hs1 : w1.heap.size = qv1 + 1 := by rw [hW1, ← hz1]; simp
  have bw : Below (w).heap.size (w) w1 := by rw [hW1]; exact (Below.refl _ _).alloc (Nat.le_refl _) _
  have hb1 : Below w.heap.size w (w1) := hb0.trans (bw.mono hb0.size)
  have HBv1_1 : Hid ((w1).heap[qv1]? = some (.cells #[.slice o1 c.s.cs.length c1, .slice o2 c.s.ws.length c2, .slice o3 n3 c3, .slice o4 n4 c4, .int .i64 c.s.nx, .int .i64 c.s.sq, .slice o5 n5 c5, .int .i64 c.now, .slice o6 n6 c6, .slice o7 n7 c7] 49)) := by show _ = _; rw [hW1, ← hz1]; exact heap_alloc_new _ _
  clear hb0 bw hW1 hz1
  clear hs1 hqv1
  go_upto_region 2 with fail
  obtain ⟨qv2, hqv2⟩ : ∃ q, q = (w1).heap.size := ⟨_, rfl⟩
  obtain ⟨w2, hW2⟩ : ∃ W, W = (w1).alloc (.cells #[] 3) := ⟨_, rfl⟩
  have hz2 : (w1).heap.size = qv2 := hqv2.symm
  first | rw [← hW2, ← hqv2] | rw [← hW2]
  have hs2 : w2.heap.size = qv2 + 1 := by rw [hW2, ← hz2]; simp
  have bw : Below (w1).heap.size (w1) w2 := by rw [hW2]; exact (Below.refl _ _).alloc (Nat.le_refl _) _
  have hb2 : Below w.heap.size w (w2) := hb1.trans (bw.mono hb1.size)
  have HBv1_2 : Hid ((w2).heap[qv1]? = some (.cells #[.slice o1 c.s.cs.length c1, .slice o2 c.s.ws.length c2, .slice o3 n3 c3, .slice o4 n4 c4, .int .i64 c.s.nx, .int .i64 c.s.sq, .slice o5 n5 c5, .int .i64 c.now, .slice o6 n6 c6, .slice o7 n7 c7] 49)) := blk_below HBv1_1.out bw
  have HBv2_2 : Hid ((w2).heap[qv2]? = some (.cells #[] 3)) := by show _ = _; rw [hW2, ← hz2]; exact heap_alloc_new _ _
  have HGv2 : Hid (w.heap.size ≤ qv2) := by show _ ≤ _; rw [← hz2]; exact hb1.size
  have HQv2 : Hid ((w1).heap.size ≤ qv2) := by show _ ≤ _; omega
  clear hb1 HBv1_1 bw hW2 hz2
  clear hs2 hqv2
  go_wp2_with fail
  have HZ0 : Hid ((w2).ownsRow w.heap.size 3 1 (.slice (some ⟨qv2, 0, none⟩) 0 0) 0 (([] : List Int).map (Value.int .i64))) := by show World.ownsRow _ _ _ _ _ _ _; exact (⟨rfl, .inr ⟨_, 0, #[], rfl, HGv2.out, HBv2_2.out, Nat.le_refl _, Nat.zero_le _, rfl, rfl⟩⟩)
  obtain ⟨wL, hwL⟩ : ∃ W, W = w2 := ⟨_, rfl⟩
  rw [← hwL] at hb2 HBv1_2 HZ0 ⊢
  clear hwL
  go_loopw [3, 4] (fun x3 i wr => ∃ (i' mz : Nat) (oz : Option Addr) (pz : Nat) (zs : List Int), i' ≤ n5 ∧ mz ≤ 1048576 * i' ∧ i = .int .i64 (i' : Int) ∧ x3 = .slice oz mz pz ∧ Hid (Below w.heap.size w (wr) ∧ (wr).heap[qv1]? = some (.cells #[.slice o1 c.s.cs.length c1, .slice o2 c.s.ws.length c2, .slice o3 n3 c3, .slice o4 n4 c4, .int .i64 c.s.nx, .int .i64 c.s.sq, .slice o5 n5 c5, .int .i64 c.now, .slice o6 n6 c6, .slice o7 n7 c7] 49)) ∧ Hid (zs = whoTo c.fl i') ∧ Hid (wr.ownsRow w.heap.size 3 1 (.slice oz mz pz) mz ((zs).map (Value.int .i64)))) (fun _ i _ => n5 - (intOf i).toNat)
  case atStart => exact ⟨0, 0, (some ⟨qv2, 0, none⟩), 0, [], Nat.zero_le _, by omega, rfl, rfl, ⟨hb2, HBv1_2.out⟩, rfl, HZ0⟩
  case round =>
    clear HZ0
    obtain ⟨i, mz, oz, pz, zs, hi', hmz, rfl, rfl, HW, HE0, HR0⟩ := hrel
    by_cases hlt : (i : Int) < (n5 : Int)
    · have hb3 := HW.out.1
      have HBv1_3 : Hid ((wr).heap[qv1]? = some (.cells #[.slice o1 c.s.cs.length c1, .slice o2 c.s.ws.length c2, .slice o3 n3 c3, .slice o4 n4 c4, .int .i64 c.s.nx, .int .i64 c.s.sq, .slice o5 n5 c5, .int .i64 c.now, .slice o6 n6 c6, .slice o7 n7 c7] 49)) := HW.out.2
      clear HW hb2 HBv1_2
      have HOz_3 : Hid ((wr).ownsRow w.heap.size 3 1 (.slice oz mz pz) mz (zs.map (Value.int .i64))) := HR0.out
      clear HR0
      obtain ⟨g5, p5, hV, _, _⟩ := (HFL.out _ hb3).look i (by rw [HLF.out]; omega)
      rw [HLF.out] at hV
      injection hV with hV1 hV2 hV3
      subst hV1 hV3
      clear hV2
      obtain ⟨dX, hdX⟩ : ∃ x, x = flvAt fv i := ⟨_, rfl⟩
      have HMd : Hid (dX ∈ fv) := by show _ ∈ _; rw [hdX]; exact getD_mem0 _ fv i (by rw [HLF.out]; omega)
      have HEd : Hid (flAt c.fl i = dX.d) := by show _ = _; rw [hdX, ← HFD.out]; exact getD_map0 _ _ _ fv i (by rw [HLF.out]; omega)
      have HKd : Hid (∀ W, Below w.heap.size w W → FlAt W g5 i dX) := fun W hb => by
        obtain ⟨g', p', hV, _, hc⟩ := (HFL.out W hb).look i (by rw [HLF.out]; omega)
        injection hV with hV1 _ _
        cases hV1
        rw [hdX]
        exact hc
      have HRd : Hid (∀ W, Below w.heap.size w W → RowsO W B (flR dX)) := fun W hb => (HFL.out W hb).item HMd.out
      have HSd : Hid (FlSmall dX.d) := HFS.out _ HMd.out
      clear hdX
      obtain ⟨d, kuv2, kuv4, kuv6, kuv7, kuv9⟩ := dX
      obtain ⟨ku2, kuc2, hu⟩ := slice_of_owns ((HRd.out _ hb3).own (⟨167, 2, kuv2, d.qfs.length, flatF d.qfs⟩ : Rw) (by simp [flR]))
      obtain rfl : kuv2 = .slice ku2 d.qfs.length kuc2 := hu
      obtain ⟨ku4, kuc4, hu⟩ := slice_of_owns ((HRd.out _ hb3).own (⟨3, 1, kuv4, d.who.length, d.who.map (Value.int .i64)⟩ : Rw) (by simp [flR]))
      obtain rfl : kuv4 = .slice ku4 d.who.length kuc4 := hu
      obtain ⟨ku6, kuc6, hu⟩ := slice_of_owns ((HRd.out _ hb3).own (⟨9, 1, kuv6, d.oxs.length, d.oxs.map Value.string⟩ : Rw) (by simp [flR]))
      obtain rfl : kuv6 = .slice ku6 d.oxs.length kuc6 := hu
      obtain ⟨ku7, kuc7, hu⟩ := slice_of_owns ((HRd.out _ hb3).own (⟨9, 1, kuv7, d.oys.length, d.oys.map Value.string⟩ : Rw) (by simp [flR]))
      obtain rfl : kuv7 = .slice ku7 d.oys.length kuc7 := hu
      obtain ⟨ku9, kuc9, hu⟩ := slice_of_owns ((HRd.out _ hb3).own (⟨167, 2, kuv9, d.ofs.length, flatF d.ofs⟩ : Rw) (by simp [flR]))
      obtain rfl : kuv9 = .slice ku9 d.ofs.length kuc9 := hu
      have r0d := (HKd.out _ hb3).c0
      have r1d := (HKd.out _ hb3).c1
      have r2d := (HKd.out _ hb3).c2
      have r3d := (HKd.out _ hb3).c3
      have r4d := (HKd.out _ hb3).c4
      have r5d := (HKd.out _ hb3).c5
      have r6d := (HKd.out _ hb3).c6
      have r7d := (HKd.out _ hb3).c7
      have r8d := (HKd.out _ hb3).c8
      have r9d := (HKd.out _ hb3).c9
      have r10d := (HKd.out _ hb3).c10
      have r11d := (HKd.out _ hb3).c11
      have r12d := (HKd.out _ hb3).c12
      dsimp only at r0d r1d r2d r3d r4d r5d r6d r7d r8d r9d r10d r11d r12d
      have hwho : d.who.length ≤ 1048576 := HSd.out.who
      have cv1_6 : (wr).cell? ⟨qv1, 6, none⟩ = some (.slice (some ⟨g5, 0, none⟩) n5 c5) := (cell_of HBv1_3.out 6).trans rfl
      have h63 : mz + d.who.length ≤ maxLen := by unfold maxLen; omega
      have h47 : (mz + d.who.length) * 8 ≤ 140737488355328 := by omega
      go_wp2_with (at_builtin; refine wpList_append_src (by rfl) _ _ _ (by rfl) w.heap.size 3 i0 (.int .i64 0) 1 8 Try.underlying36 hi hz0 hz1 hz2 rfl (by decide) _ _ _ (by rfl) HOz_3.out _ _ _ (by rfl) (Src.of_owns ((HRd.out _ hb3).own (⟨3, 1, (.slice ku4 d.who.length kuc4), d.who.length, d.who.map (Value.int .i64)⟩ : Rw) (by simp [flR])) (ints_ones _)) h63 h47 hb3.size ?_)
      intro v1 w4 hown2 hgrow
      clear r0d r1d r2d r3d r4d r5d r6d r7d r8d r9d r10d r11d r12d cv1_6
      have hb4 : Below w.heap.size w (w4) := hb3.grown hgrow hb3.size (fun g hg => owns_ge HOz_3.out hg)
      have HBv1_4 : Hid ((w4).heap[qv1]? = some (.cells #[.slice o1 c.s.cs.length c1, .slice o2 c.s.ws.length c2, .slice o3 n3 c3, .slice o4 n4 c4, .int .i64 c.s.nx, .int .i64 c.s.sq, .slice (some ⟨g5, 0, none⟩) n5 c5, .int .i64 c.now, .slice o6 n6 c6, .slice o7 n7 c7] 49)) := (hgrow.block _ (Array.getElem?_eq_some_iff.1 HBv1_3.out).1 (fun e => own_ne HOz_3.out HBv1_3.out (by decide) _ e.symm rfl)).trans HBv1_3.out
      obtain ⟨ozp, pzp, rfl⟩ := slice_of_owns hown2
      have HOzp_4 : Hid ((w4).ownsRow w.heap.size 3 1 (.slice ozp (mz + d.who.length) pzp) (mz + d.who.length) ((zs.map (Value.int .i64)) ++ (d.who.map (Value.int .i64)))) := hown2
      clear hb3 HOz_3 HBv1_3 hown2 hgrow h63 h47
      have HR2 : Hid (w4.ownsRow w.heap.size 3 1 (.slice ozp (mz + d.who.length) pzp) (mz + d.who.length) ((zs ++ d.who).map (Value.int .i64))) := by
        show World.ownsRow _ _ _ _ _ _ _
        rw [List.map_append]
        exact HOzp_4.out
      have HE2 : Hid (zs ++ d.who = whoTo c.fl (i + 1)) := by
        show _ = _
        rw [whoTo_succ c.fl i (by rw [HLC.out.1]; omega), HEd.out, HE0.out]
      go_wp2_with fail
      go_roundw
      case rel => exact ⟨i + 1, (mz + d.who.length), ozp, pzp, zs ++ d.who, by omega, by omega, by go_num, rfl, ⟨hb4, HBv1_4.out⟩, HE2, HR2⟩
      case measure => simp [intOf]; omega
    · have hb3 := HW.out.1
      have HBv1_3 : Hid ((wr).heap[qv1]? = some (.cells #[.slice o1 c.s.cs.length c1, .slice o2 c.s.ws.length c2, .slice o3 n3 c3, .slice o4 n4 c4, .int .i64 c.s.nx, .int .i64 c.s.sq, .slice o5 n5 c5, .int .i64 c.now, .slice o6 n6 c6, .slice o7 n7 c7] 49)) := HW.out.2
      clear HW hb2 HBv1_2
      have HOz_3 : Hid ((wr).ownsRow w.heap.size 3 1 (.slice oz mz pz) mz (zs.map (Value.int .i64))) := HR0.out
      clear HR0
      obtain rfl : n5 = i := by omega
      have cv1_6 : (wr).cell? ⟨qv1, 6, none⟩ = some (.slice o5 n5 c5) := (cell_of HBv1_3.out 6).trans rfl
      go_wp2_with fail
      go_ret
      exact ⟨oz, mz, pz, rfl, by rw [HLC.out.1, ← HE0.out]; exact HOz_3.out, by rw [HLC.out.1, ← HE0.out]; have h1 := HOz_3.out.1; rw [List.length_map] at h1; omega, hb3⟩

set_option maxHeartbeats 1000000 in
theorem atomAdd_any (q : Nat) (x y : Int) (w : World) (hc : w.cell? ⟨q, 0, none⟩ = some (.int .i64 x)) (hz : w.frozen? ⟨q, 0, none⟩ = false) (h0 : 0 ≤ x) (h1 : 0 ≤ y) (h2 : x + y ≤ 9223372036854775807) :
    Calls Try.prog 45 #[.pointer (some ⟨q, 0, none⟩), .int .i64 y] w fun e w' => e = .returned (.int .i64 (x + y)) ∧ w' = w.setCell ⟨q, 0, none⟩ (.int .i64 (x + y)) := by
  have hwr : IntKind.i64.wrap (x + y) = x + y := IntWalk.i64_in _ ⟨by omega, h2⟩
  have hadd := run_call_add (P := Try.prog) Try.func75 (by kernel_rfl) (by kernel_rfl) (by kernel_rfl) .i64 (by kernel_rfl) (y := y) (s := x + y) hc hz (by simp [go_sem, hwr])
  go_enter Try.func45, Try.ntmps45
  go_wp2
  go_ret
  exact ⟨rfl, rfl⟩
set_option maxHeartbeats 1000000 in
theorem atomLoad_any (q : Nat) (x : Int) (w : World) (hc : w.cell? ⟨q, 0, none⟩ = some (.int .i64 x)) :
    Calls Try.prog 46 #[.pointer (some ⟨q, 0, none⟩)] w fun e w' => e = .returned (.int .i64 x) ∧ w' = w := by
  have hld := run_call_load (P := Try.prog) Try.func76 (by kernel_rfl) (by kernel_rfl) (by kernel_rfl) .i64 (by kernel_rfl) hc
  go_enter Try.func46, Try.ntmps46
  go_wp2
  go_ret
  exact ⟨rfl, rfl⟩

theorem grown_setq (w : World) (q o : Nat) (v : Value) : w.grownBy (w.setCell ⟨q, o, none⟩ v) (some q) :=
  ⟨rfl, rfl, rfl, by rw [World.size_setCell]; exact Nat.le_refl _, fun i _ hne => heap_setCell_other _ _ i _ (fun e => hne (by rw [e]))⟩

set_option maxHeartbeats 8000000 in
set_option maxRecDepth 100000 in
theorem howManyWait_any (F : Value) (fv : List FlV) (B : Nat) (w : World) (h : FlsO w B F fv) (hs : ∀ x ∈ fv, FlSmall x.d) (hn : fv.length ≤ 1048576) :
    Calls Try.prog 24 #[F] w fun e w' => ∃ x : Nat, e = .returned (.int .i64 (x : Int)) ∧ x ≤ 1048576 * 1048576 ∧ Below w.heap.size w w' := by
  obtain ⟨o5, c5, rfl⟩ := h.len
  obtain ⟨n5, hn5⟩ : ∃ n, n = fv.length := ⟨_, rfl⟩
  rw [← hn5] at h hn ⊢
  have HLF : Hid (fv.length = n5) := hn5.symm
  obtain ⟨fl, hfl⟩ : ∃ l, l = fv.map (·.d) := ⟨_, rfl⟩
  have HFD : Hid (fv.map (·.d) = fl) := hfl.symm
  clear hfl
  have HFL : Hid (∀ W, Below w.heap.size w W → FlsO W B (.slice o5 n5 c5) fv) := fun W hb => h.below hb
  have HFS : Hid (∀ x ∈ fv, FlSmall x.d) := hs
  clear hn5 h hs
  have hb0 : Below w.heap.size w w := Below.refl _ _
  go_enter Try.func24, Try.ntmps24
  go_upto_region 2 with fail
  obtain ⟨qat, hqat⟩ : ∃ q, q = (w).heap.size := ⟨_, rfl⟩
  obtain ⟨w1, hW1⟩ : ∃ W, W = (w).alloc (.cells #[.int .i64 0] 117) := ⟨_, rfl⟩
  have hz1 : (w).heap.size = qat := hqat.symm
  first | rw [← hW1, ← hqat] | rw [← hW1]
  have hs1 : w1.heap.size = qat + 1 := by rw [hW1, ← hz1]; simp
  have bw : Below (w).heap.size (w) w1 := by rw [hW1]; exact (Below.refl _ _).alloc (Nat.le_refl _) _
  have hb1 : Below w.heap.size w (w1) := hb0.trans (bw.mono hb0.size)
  have HBat_1 : Hid ((w1).heap[qat]? = some (.cells #[.int .i64 0] 117)) := by show _ = _; rw [hW1, ← hz1]; exact heap_alloc_new _ _
  have HGat : Hid (w.heap.size ≤ qat) := by show _ ≤ _; rw [← hz1]; exact hb0.size
  clear hb0 bw hW1 hz1
  clear hs1 hqat
  go_wp2_with fail
  obtain ⟨hbA, hcA⟩ : Hid (Below w.heap.size w (w1)) ∧ Hid ((w1).heap[qat]? = some (.cells #[.int .i64 0] 117)) := ⟨hb1, HBat_1.out⟩
  go_loopw [8] (fun i wr => ∃ (i' x : Nat), i' ≤ n5 ∧ x ≤ 1048576 * i' ∧ i = .int .i64 (i' : Int) ∧ Hid (Below w.heap.size w wr) ∧ Hid ((wr).heap[qat]? = some (.cells #[.int .i64 (x : Int)] 117))) (fun i _ => n5 - (intOf i).toNat)
  case atStart => exact ⟨0, 0, Nat.zero_le _, by omega, rfl, hbA, hcA⟩
  case round =>
    clear hbA hcA hb1 HBat_1
    obtain ⟨i, x, hi', hx, rfl, HW, HA⟩ := hrel
    by_cases hlt : (i : Int) < (n5 : Int)
    · have hb2 := HW.out
      have HBat_2 : Hid ((wr).heap[qat]? = some (.cells #[.int .i64 (x : Int)] 117)) := HA.out
      clear HW HA
      obtain ⟨g5, p5, hV, _, _⟩ := (HFL.out _ hb2).look i (by rw [HLF.out]; omega)
      rw [HLF.out] at hV
      injection hV with hV1 hV2 hV3
      subst hV1 hV3
      clear hV2
      obtain ⟨dX, hdX⟩ : ∃ x, x = flvAt fv i := ⟨_, rfl⟩
      have HMd : Hid (dX ∈ fv) := by show _ ∈ _; rw [hdX]; exact getD_mem0 _ fv i (by rw [HLF.out]; omega)
      have HEd : Hid (flAt fl i = dX.d) := by show _ = _; rw [hdX, ← HFD.out]; exact getD_map0 _ _ _ fv i (by rw [HLF.out]; omega)
      have HKd : Hid (∀ W, Below w.heap.size w W → FlAt W g5 i dX) := fun W hb => by
        obtain ⟨g', p', hV, _, hc⟩ := (HFL.out W hb).look i (by rw [HLF.out]; omega)
        injection hV with hV1 _ _
        cases hV1
        rw [hdX]
        exact hc
      have HRd : Hid (∀ W, Below w.heap.size w W → RowsO W B (flR dX)) := fun W hb => (HFL.out W hb).item HMd.out
      have HSd : Hid (FlSmall dX.d) := HFS.out _ HMd.out
      clear hdX
      obtain ⟨d, kuv2, kuv4, kuv6, kuv7, kuv9⟩ := dX
      obtain ⟨ku2, kuc2, hu⟩ := slice_of_owns ((HRd.out _ hb2).own (⟨167, 2, kuv2, d.qfs.length, flatF d.qfs⟩ : Rw) (by simp [flR]))
      obtain rfl : kuv2 = .slice ku2 d.qfs.length kuc2 := hu
      obtain ⟨ku4, kuc4, hu⟩ := slice_of_owns ((HRd.out _ hb2).own (⟨3, 1, kuv4, d.who.length, d.who.map (Value.int .i64)⟩ : Rw) (by simp [flR]))
      obtain rfl : kuv4 = .slice ku4 d.who.length kuc4 := hu
      obtain ⟨ku6, kuc6, hu⟩ := slice_of_owns ((HRd.out _ hb2).own (⟨9, 1, kuv6, d.oxs.length, d.oxs.map Value.string⟩ : Rw) (by simp [flR]))
      obtain rfl : kuv6 = .slice ku6 d.oxs.length kuc6 := hu
      obtain ⟨ku7, kuc7, hu⟩ := slice_of_owns ((HRd.out _ hb2).own (⟨9, 1, kuv7, d.oys.length, d.oys.map Value.string⟩ : Rw) (by simp [flR]))
      obtain rfl : kuv7 = .slice ku7 d.oys.length kuc7 := hu
      obtain ⟨ku9, kuc9, hu⟩ := slice_of_owns ((HRd.out _ hb2).own (⟨167, 2, kuv9, d.ofs.length, flatF d.ofs⟩ : Rw) (by simp [flR]))
      obtain rfl : kuv9 = .slice ku9 d.ofs.length kuc9 := hu
      have r0d := (HKd.out _ hb2).c0
      have r1d := (HKd.out _ hb2).c1
      have r2d := (HKd.out _ hb2).c2
      have r3d := (HKd.out _ hb2).c3
      have r4d := (HKd.out _ hb2).c4
      have r5d := (HKd.out _ hb2).c5
      have r6d := (HKd.out _ hb2).c6
      have r7d := (HKd.out _ hb2).c7
      have r8d := (HKd.out _ hb2).c8
      have r9d := (HKd.out _ hb2).c9
      have r10d := (HKd.out _ hb2).c10
      have r11d := (HKd.out _ hb2).c11
      have r12d := (HKd.out _ hb2).c12
      dsimp only at r0d r1d r2d r3d r4d r5d r6d r7d r8d r9d r10d r11d r12d
      have hwho : d.who.length ≤ 1048576 := HSd.out.who
      go_upto_region 5 with fail
      obtain ⟨qv2, hqv2⟩ : ∃ q, q = (wr).heap.size := ⟨_, rfl⟩
      obtain ⟨w3, hW3⟩ : ∃ W, W = (wr).alloc (.cells #[.int .i64 d.qmt, .string d.qpa, .slice ku2 d.qfs.length kuc2, .string d.qbd, .slice ku4 d.who.length kuc4, .string d.opa, .slice ku6 d.oxs.length kuc6, .slice ku7 d.oys.length kuc7, .int .i64 d.ost, .slice ku9 d.ofs.length kuc9, .string d.obd, .int .i64 d.otm, .bool d.has] 70) := ⟨_, rfl⟩
      have hz3 : (wr).heap.size = qv2 := hqv2.symm
      first | rw [← hW3, ← hqv2] | rw [← hW3]
      have hs3 : w3.heap.size = qv2 + 1 := by rw [hW3, ← hz3]; simp
      have bw : Below (wr).heap.size (wr) w3 := by rw [hW3]; exact (Below.refl _ _).alloc (Nat.le_refl _) _
      have hb3 : Below w.heap.size w (w3) := hb2.trans (bw.mono hb2.size)
      have HM3 : Hid ((wr).heap.size ≤ (w3).heap.size) := bw.size
      have HBat_3 : Hid ((w3).heap[qat]? = some (.cells #[.int .i64 (x : Int)] 117)) := blk_below HBat_2.out bw
      have HNatv2 : Hid (qat ≠ qv2) := fun e => by have h1 := (Array.getElem?_eq_some_iff.1 HBat_2.out).1; omega
      have HBv2_3 : Hid ((w3).heap[qv2]? = some (.cells #[.int .i64 d.qmt, .string d.qpa, .slice ku2 d.qfs.length kuc2, .string d.qbd, .slice ku4 d.who.length kuc4, .string d.opa, .slice ku6 d.oxs.length kuc6, .slice ku7 d.oys.length kuc7, .int .i64 d.ost, .slice ku9 d.ofs.length kuc9, .string d.obd, .int .i64 d.otm, .bool d.has] 70)) := by show _ = _; rw [hW3, ← hz3]; exact heap_alloc_new _ _
      clear hb2 HBat_2 bw hW3 hz3
      clear hs3 hqv2
      clear r0d r1d r2d r3d r4d r5d r6d r7d r8d r9d r10d r11d r12d
      have cv2_4 : (w3).cell? ⟨qv2, 4, none⟩ = some (.slice ku4 d.who.length kuc4) := (cell_of HBv2_3.out 4).trans rfl
      go_wp2_with fail
      refine (atomAdd_any qat (x : Int) (d.who.length : Int) _ ((cell_of HBat_3.out 0).trans rfl) (frozen_of HBat_3.out 0) (by omega) (by omega) (by omega)).mono ?_
      rintro e w4 ⟨rfl, hwe⟩
      have hrd : w4.heap[qat]? = some (.cells #[.int .i64 (x + (d.who.length : Int))] 117) := by rw [hwe]; have h := heap_set _ _ 0 _ _ _ (.int .i64 (x + (d.who.length : Int))) HBat_3.out; simpa using h
      have hg : (w3).grownBy w4 (some qat) := by rw [hwe]; exact grown_setq _ _ _ _
      clear hwe
      have hb4 : Below w.heap.size w (w4) := hb3.grown hg hb3.size (by intro k hk; cases hk; exact HGat.out)
      have HBv2_4 : Hid ((w4).heap[qv2]? = some (.cells #[.int .i64 d.qmt, .string d.qpa, .slice ku2 d.qfs.length kuc2, .string d.qbd, .slice ku4 d.who.length kuc4, .string d.opa, .slice ku6 d.oxs.length kuc6, .slice ku7 d.oys.length kuc7, .int .i64 d.ost, .slice ku9 d.ofs.length kuc9, .string d.obd, .int .i64 d.otm, .bool d.has] 70)) := (hg.block _ (Array.getElem?_eq_some_iff.1 HBv2_3.out).1 (fun e => HNatv2.out.symm (Option.some.inj e))).trans HBv2_3.out
      have HBat_4 : Hid ((w4).heap[qat]? = some (.cells #[.int .i64 ((x : Int) + (d.who.length : Int))] 117)) := hrd
      clear hb3 HBat_3 HBv2_3 hg hrd
      clear cv2_4
      go_wp2_with fail
      go_roundw
      case rel => exact ⟨i + 1, x + d.who.length, by omega, by omega, by go_num, hb4, by show _ = _; have h := HBat_4.out; first | exact h | (rw [h]; simp)⟩
      case measure => simp [intOf]; omega
    · have hb2 := HW.out
      have HBat_2 : Hid ((wr).heap[qat]? = some (.cells #[.int .i64 (x : Int)] 117)) := HA.out
      clear HW HA
      go_wp2_with fail
      refine (atomLoad_any qat (x : Int) _ ((cell_of HBat_2.out 0).trans rfl)).mono ?_
      rintro e w3 ⟨rfl, hwe⟩
      have bw : Below (wr).heap.size (wr) w3 := by rw [hwe]; exact Below.refl _ _
      clear hwe
      have hb3 : Below w.heap.size w (w3) := hb2.trans (bw.mono hb2.size)
      have HM3 : Hid ((wr).heap.size ≤ (w3).heap.size) := bw.size
      have HBat_3 : Hid ((w3).heap[qat]? = some (.cells #[.int .i64 (x : Int)] 117)) := blk_below HBat_2.out bw
      clear hb2 HBat_2 bw
      go_wp2_with fail
      go_ret
      exact ⟨x, rfl, by omega, hb3⟩

set_option maxHeartbeats 8000000 in
set_option maxRecDepth 100000 in
theorem implWaiting_w (v1 v2 V VB F E R : Value) (kv : List (KpD × Value × Value × Value)) (fv : List FlV) (ev : List SeV) (rv : List RpV) (c : CaD) (B : Nat) (w : World) (h : CacheO w B v1 v2 V VB F E R kv fv ev rv c) (hz : CaSmall c) :
    Calls Try.prog 8 #[.agg #[v1, v2, V, VB, .int .i64 c.s.nx, .int .i64 c.s.sq, F, .int .i64 c.now, E, R]] w fun e w' => WaitIs (whoTo c.fl c.fl.length) w e w' := by
  obtain ⟨o1, c1, rfl⟩ := slice_of_owns h.shelf.disk.cells
  obtain ⟨o2, c2, rfl⟩ := slice_of_owns h.shelf.disk.pend
  obtain ⟨o3, c3, rfl⟩ := h.shelf.kept.len
  obtain ⟨o4, c4, rfl⟩ := slice_of_owns h.shelf.bans
  obtain ⟨o5, c5, rfl⟩ := h.fls.len
  obtain ⟨o6, c6, rfl⟩ := h.ses.len
  obtain ⟨o7, c7, rfl⟩ := h.rps.len
  obtain ⟨n3, hn3⟩ : ∃ n, n = kv.length := ⟨_, rfl⟩
  obtain ⟨n4, hn4⟩ : ∃ n, n = c.s.bl.length := ⟨_, rfl⟩
  obtain ⟨n5, hn5⟩ : ∃ n, n = fv.length := ⟨_, rfl⟩
  obtain ⟨n6, hn6⟩ : ∃ n, n = ev.length := ⟨_, rfl⟩
  obtain ⟨n7, hn7⟩ : ∃ n, n = rv.length := ⟨_, rfl⟩
  rw [← hn3, ← hn4, ← hn5, ← hn6, ← hn7] at h ⊢
  have HLK : Hid (kv.length = n3) := hn3.symm
  have HLB : Hid (c.s.bl.length = n4) := hn4.symm
  have HLF : Hid (fv.length = n5) := hn5.symm
  have HLE : Hid (ev.length = n6) := hn6.symm
  have HLR : Hid (rv.length = n7) := hn7.symm
  have HLC : Hid (c.fl.length = n5 ∧ c.se.length = n6 ∧ c.sn.length = n7 ∧ c.s.ks.length = n3) := ⟨by rw [← h.hf, List.length_map, hn5], by rw [← h.he, List.length_map, hn6], by rw [← h.hr, List.length_map, hn7], by rw [← h.hk, List.length_map, hn3]⟩
  have HFD : Hid (fv.map (·.d) = c.fl) := h.hf
  have HED : Hid (ev.map (·.d) = c.se) := h.he
  have HKS : Hid (kv.map (·.1) = c.s.ks) := h.hk
  have HZ : Hid (CaSmall c) := hz
  have bn3 : n3 ≤ 1048576 := by rw [← HLC.out.2.2.2]; exact hz.s.k
  have bn4 : n4 ≤ 1048576 := by rw [← HLB.out]; exact hz.s.b
  have bn5 : n5 ≤ 1048576 := by rw [← HLC.out.1]; exact hz.nf
  have bn6 : n6 ≤ 1048576 := by rw [← HLC.out.2.1]; exact hz.ne
  have bn7 : n7 ≤ 1048576 := by rw [← HLC.out.2.2.1]; exact hz.nr
  have HCA : Hid (∀ W, Below w.heap.size w W → CacheO W B (.slice o1 c.s.cs.length c1) (.slice o2 c.s.ws.length c2) (.slice o3 n3 c3) (.slice o4 n4 c4) (.slice o5 n5 c5) (.slice o6 n6 c6) (.slice o7 n7 c7) kv fv ev rv c) := fun W hb => h.below hb
  have HKP : Hid (∀ W, Below w.heap.size w W → KeptsO W B (.slice o3 n3 c3) kv) := fun W hb => (h.below hb).shelf.kept
  have HBN : Hid (∀ W, Below w.heap.size w W → BanA W o4 n4 c.s.bl) := fun W hb => by
    have h1 := (h.below hb).shelf.bans
    rw [HLB.out] at h1
    exact ban_view h1
  have HC4 : Hid (n4 ≤ c4) := by
    have h1 := h.shelf.bans
    rw [HLB.out] at h1
    exact owns_cap h1
  clear hn3 hn4 hn5 hn6 hn7 h hz
  have HFL : Hid (∀ W, Below w.heap.size w W → FlsO W B (.slice o5 n5 c5) fv) := fun W hb => (HCA.out W hb).fls
  have HFS : Hid (∀ x ∈ fv, FlSmall x.d) := fun x hx => HZ.out.fl _ (by rw [← HFD.out]; exact List.mem_map.2 ⟨x, hx, rfl⟩)
  obtain ⟨i0, hi, hz0, hz1, hz2⟩ := info_parts infoInt
  have hb0 : Below w.heap.size w w := Below.refl _ _
  go_enter Try.func8, Try.ntmps8
  go_upto_region 1 with fail
  obtain ⟨qv1, hqv1⟩ : ∃ q, q = (w).heap.size := ⟨_, rfl⟩
  obtain ⟨w1, hW1⟩ : ∃ W, W = (w).alloc (.cells #[.slice o1 c.s.cs.length c1, .slice o2 c.s.ws.length c2, .slice o3 n3 c3, .slice o4 n4 c4, .int .i64 c.s.nx, .int .i64 c.s.sq, .slice o5 n5 c5, .int .i64 c.now, .slice o6 n6 c6, .slice o7 n7 c7] 49) := ⟨_, rfl⟩
  have hz1 : (w).heap.size = qv1 := hqv1.symm
  first | rw [← hW1, ← hqv1] | rw [← hW1]
  have hs1 : w1.heap.size = qv1 + 1 := by rw [hW1, ← hz1]; simp
  have bw : Below (w).heap.size (w) w1 := by rw [hW1]; exact (Below.refl _ _).alloc (Nat.le_refl _) _
  have hb1 : Below w.heap.size w (w1) := hb0.trans (bw.mono hb0.size)
  have HBv1_1 : Hid ((w1).heap[qv1]? = some (.cells #[.slice o1 c.s.cs.length c1, .slice o2 c.s.ws.length c2, .slice o3 n3 c3, .slice o4 n4 c4, .int .i64 c.s.nx, .int .i64 c.s.sq, .slice o5 n5 c5, .int .i64 c.now, .slice o6 n6 c6, .slice o7 n7 c7] 49)) := by show _ = _; rw [hW1, ← hz1]; exact heap_alloc_new _ _
  clear hb0 bw hW1 hz1
  clear hs1 hqv1
  have cv1_6 : (w1).cell? ⟨qv1, 6, none⟩ = some (.slice o5 n5 c5) := (cell_of HBv1_1.out 6).trans rfl
  go_wp2_with fail
  refine (howManyWait_any _ fv B _ (HFL.out _ hb1) HFS.out (by rw [HLF.out]; exact bn5)).mono ?_
  rintro e w2 ⟨cx, rfl, hcx, bw⟩
  obtain ⟨M, hM⟩ : ∃ M, M = madeCells (Value.int .i64 0).cells (((cx : Nat) : Int).toNat * i0.size) := ⟨_, rfl⟩
  have hmk : ∀ W : World, (Instr.makeSlice 36 (.int .i64 0) (.int .i64 (cx : Int))).run Try.prog W = .ok (.slice (some ⟨W.heap.size, 0, none⟩) 0 cx) (W.alloc (.cells M 3)) := fun W => by
    have h := run_make (P := Try.prog) W 36 3 i0 (.int .i64 0) Try.underlying36 hi hz0 .i64 .i64 0 (cx : Int) (by omega) (by omega) (by rw [hz2]; omega) (by omega)
    rw [← hM] at h
    simpa using h
  have HMs : Hid (M.size = cx) := by show _ = _; rw [hM, size_madeCells, hz1]; simp
  clear hM
  have hb2 : Below w.heap.size w (w2) := hb1.trans (bw.mono hb1.size)
  have HBv1_2 : Hid ((w2).heap[qv1]? = some (.cells #[.slice o1 c.s.cs.length c1, .slice o2 c.s.ws.length c2, .slice o3 n3 c3, .slice o4 n4 c4, .int .i64 c.s.nx, .int .i64 c.s.sq, .slice o5 n5 c5, .int .i64 c.now, .slice o6 n6 c6, .slice o7 n7 c7] 49)) := blk_below HBv1_1.out bw
  clear hb1 HBv1_1 bw
  clear cv1_6
  go_upto_region 2 with fail
  obtain ⟨qvm, hqvm⟩ : ∃ q, q = (w2).heap.size := ⟨_, rfl⟩
  obtain ⟨w3, hW3⟩ : ∃ W, W = (w2).alloc (.cells M 3) := ⟨_, rfl⟩
  have hz3 : (w2).heap.size = qvm := hqvm.symm
  first | rw [← hW3, ← hqvm] | rw [← hW3]
  have hs3 : w3.heap.size = qvm + 1 := by rw [hW3, ← hz3]; simp
  have bw : Below (w2).heap.size (w2) w3 := by rw [hW3]; exact (Below.refl _ _).alloc (Nat.le_refl _) _
  have hb3 : Below w.heap.size w (w3) := hb2.trans (bw.mono hb2.size)
  have HBv1_3 : Hid ((w3).heap[qv1]? = some (.cells #[.slice o1 c.s.cs.length c1, .slice o2 c.s.ws.length c2, .slice o3 n3 c3, .slice o4 n4 c4, .int .i64 c.s.nx, .int .i64 c.s.sq, .slice o5 n5 c5, .int .i64 c.now, .slice o6 n6 c6, .slice o7 n7 c7] 49)) := blk_below HBv1_2.out bw
  have HBvm_3 : Hid ((w3).heap[qvm]? = some (.cells M 3)) := by show _ = _; rw [hW3, ← hz3]; exact heap_alloc_new _ _
  have HGvm : Hid (w.heap.size ≤ qvm) := by show _ ≤ _; rw [← hz3]; exact hb2.size
  clear hb2 HBv1_2 bw hW3 hz3
  clear hs3 hqvm
  have cv1_6 : (w3).cell? ⟨qv1, 6, none⟩ = some (.slice o5 n5 c5) := (cell_of HBv1_3.out 6).trans rfl
  go_wp2_with fail
  clear cv1_6
  have HZ0 : Hid ((w3).ownsRow w.heap.size 3 1 (.slice (some ⟨qvm, 0, none⟩) 0 cx) 0 (([] : List Int).map (Value.int .i64))) := by show World.ownsRow _ _ _ _ _ _ _; exact (⟨rfl, .inr ⟨_, cx, M, rfl, HGvm.out, HBvm_3.out, Nat.zero_le _, by unfold maxLen; omega, by rw [HMs.out, Nat.mul_one], by simp⟩⟩)
  obtain ⟨wL, hwL⟩ : ∃ W, W = w3 := ⟨_, rfl⟩
  rw [← hwL] at hb3 HBv1_3 HZ0 ⊢
  clear hwL
  go_loopw [3, 13] (fun x3 i wr => ∃ (i' mz : Nat) (oz : Option Addr) (pz : Nat) (zs : List Int), i' ≤ n5 ∧ mz ≤ 1048576 * i' ∧ i = .int .i64 (i' : Int) ∧ x3 = .slice oz mz pz ∧ Hid (Below w.heap.size w (wr) ∧ (wr).heap[qv1]? = some (.cells #[.slice o1 c.s.cs.length c1, .slice o2 c.s.ws.length c2, .slice o3 n3 c3, .slice o4 n4 c4, .int .i64 c.s.nx, .int .i64 c.s.sq, .slice o5 n5 c5, .int .i64 c.now, .slice o6 n6 c6, .slice o7 n7 c7] 49)) ∧ Hid (zs = whoTo c.fl i') ∧ Hid (wr.ownsRow w.heap.size 3 1 (.slice oz mz pz) mz ((zs).map (Value.int .i64)))) (fun _ i _ => n5 - (intOf i).toNat)
  case atStart => exact ⟨0, 0, (some ⟨qvm, 0, none⟩), cx, [], Nat.zero_le _, by omega, rfl, rfl, ⟨hb3, HBv1_3.out⟩, rfl, HZ0⟩
  case round =>
    clear HZ0
    obtain ⟨i, mz, oz, pz, zs, hi', hmz, rfl, rfl, HW, HE0, HR0⟩ := hrel
    by_cases hlt : (i : Int) < (n5 : Int)
    · have hb4 := HW.out.1
      have HBv1_4 : Hid ((wr).heap[qv1]? = some (.cells #[.slice o1 c.s.cs.length c1, .slice o2 c.s.ws.length c2, .slice o3 n3 c3, .slice o4 n4 c4, .int .i64 c.s.nx, .int .i64 c.s.sq, .slice o5 n5 c5, .int .i64 c.now, .slice o6 n6 c6, .slice o7 n7 c7] 49)) := HW.out.2
      clear HW hb3 HBv1_3
      have HOz_4 : Hid ((wr).ownsRow w.heap.size 3 1 (.slice oz mz pz) mz (zs.map (Value.int .i64))) := HR0.out
      clear HR0
      obtain ⟨g5, p5, hV, _, _⟩ := (HFL.out _ hb4).look i (by rw [HLF.out]; omega)
      rw [HLF.out] at hV
      injection hV with hV1 hV2 hV3
      subst hV1 hV3
      clear hV2
      obtain ⟨dX, hdX⟩ : ∃ x, x = flvAt fv i := ⟨_, rfl⟩
      have HMd : Hid (dX ∈ fv) := by show _ ∈ _; rw [hdX]; exact getD_mem0 _ fv i (by rw [HLF.out]; omega)
      have HEd : Hid (flAt c.fl i = dX.d) := by show _ = _; rw [hdX, ← HFD.out]; exact getD_map0 _ _ _ fv i (by rw [HLF.out]; omega)
      have HKd : Hid (∀ W, Below w.heap.size w W → FlAt W g5 i dX) := fun W hb => by
        obtain ⟨g', p', hV, _, hc⟩ := (HFL.out W hb).look i (by rw [HLF.out]; omega)
        injection hV with hV1 _ _
        cases hV1
        rw [hdX]
        exact hc
      have HRd : Hid (∀ W, Below w.heap.size w W → RowsO W B (flR dX)) := fun W hb => (HFL.out W hb).item HMd.out
      have HSd : Hid (FlSmall dX.d) := HFS.out _ HMd.out
      clear hdX
      obtain ⟨d, kuv2, kuv4, kuv6, kuv7, kuv9⟩ := dX
      obtain ⟨ku2, kuc2, hu⟩ := slice_of_owns ((HRd.out _ hb4).own (⟨167, 2, kuv2, d.qfs.length, flatF d.qfs⟩ : Rw) (by simp [flR]))
      obtain rfl : kuv2 = .slice ku2 d.qfs.length kuc2 := hu
      obtain ⟨ku4, kuc4, hu⟩ := slice_of_owns ((HRd.out _ hb4).own (⟨3, 1, kuv4, d.who.length, d.who.map (Value.int .i64)⟩ : Rw) (by simp [flR]))
      obtain rfl : kuv4 = .slice ku4 d.who.length kuc4 := hu
      obtain ⟨ku6, kuc6, hu⟩ := slice_of_owns ((HRd.out _ hb4).own (⟨9, 1, kuv6, d.oxs.length, d.oxs.map Value.string⟩ : Rw) (by simp [flR]))
      obtain rfl : kuv6 = .slice ku6 d.oxs.length kuc6 := hu
      obtain ⟨ku7, kuc7, hu⟩ := slice_of_owns ((HRd.out _ hb4).own (⟨9, 1, kuv7, d.oys.length, d.oys.map Value.string⟩ : Rw) (by simp [flR]))
      obtain rfl : kuv7 = .slice ku7 d.oys.length kuc7 := hu
      obtain ⟨ku9, kuc9, hu⟩ := slice_of_owns ((HRd.out _ hb4).own (⟨167, 2, kuv9, d.ofs.length, flatF d.ofs⟩ : Rw) (by simp [flR]))
      obtain rfl : kuv9 = .slice ku9 d.ofs.length kuc9 := hu
      have r0d := (HKd.out _ hb4).c0
      have r1d := (HKd.out _ hb4).c1
      have r2d := (HKd.out _ hb4).c2
      have r3d := (HKd.out _ hb4).c3
      have r4d := (HKd.out _ hb4).c4
      have r5d := (HKd.out _ hb4).c5
      have r6d := (HKd.out _ hb4).c6
      have r7d := (HKd.out _ hb4).c7
      have r8d := (HKd.out _ hb4).c8
      have r9d := (HKd.out _ hb4).c9
      have r10d := (HKd.out _ hb4).c10
      have r11d := (HKd.out _ hb4).c11
      have r12d := (HKd.out _ hb4).c12
      dsimp only at r0d r1d r2d r3d r4d r5d r6d r7d r8d r9d r10d r11d r12d
      have hwho : d.who.length ≤ 1048576 := HSd.out.who
      go_upto_region 5 with fail
      obtain ⟨qv3, hqv3⟩ : ∃ q, q = (wr).heap.size := ⟨_, rfl⟩
      obtain ⟨w5, hW5⟩ : ∃ W, W = (wr).alloc (.cells #[.int .i64 d.qmt, .string d.qpa, .slice ku2 d.qfs.length kuc2, .string d.qbd, .slice ku4 d.who.length kuc4, .string d.opa, .slice ku6 d.oxs.length kuc6, .slice ku7 d.oys.length kuc7, .int .i64 d.ost, .slice ku9 d.ofs.length kuc9, .string d.obd, .int .i64 d.otm, .bool d.has] 70) := ⟨_, rfl⟩
      have hz5 : (wr).heap.size = qv3 := hqv3.symm
      first | rw [← hW5, ← hqv3] | rw [← hW5]
      have hs5 : w5.heap.size = qv3 + 1 := by rw [hW5, ← hz5]; simp
      have bw : Below (wr).heap.size (wr) w5 := by rw [hW5]; exact (Below.refl _ _).alloc (Nat.le_refl _) _
      have hb5 : Below w.heap.size w (w5) := hb4.trans (bw.mono hb4.size)
      have HOz_5 : Hid ((w5).ownsRow w.heap.size 3 1 (.slice oz mz pz) mz (zs.map (Value.int .i64))) := owns_below HOz_4.out bw (fun g hg => owns_lt HOz_4.out hg)
      have HBv1_5 : Hid ((w5).heap[qv1]? = some (.cells #[.slice o1 c.s.cs.length c1, .slice o2 c.s.ws.length c2, .slice o3 n3 c3, .slice o4 n4 c4, .int .i64 c.s.nx, .int .i64 c.s.sq, .slice (some ⟨g5, 0, none⟩) n5 c5, .int .i64 c.now, .slice o6 n6 c6, .slice o7 n7 c7] 49)) := blk_below HBv1_4.out bw
      have HBv3_5 : Hid ((w5).heap[qv3]? = some (.cells #[.int .i64 d.qmt, .string d.qpa, .slice ku2 d.qfs.length kuc2, .string d.qbd, .slice ku4 d.who.length kuc4, .string d.opa, .slice ku6 d.oxs.length kuc6, .slice ku7 d.oys.length kuc7, .int .i64 d.ost, .slice ku9 d.ofs.length kuc9, .string d.obd, .int .i64 d.otm, .bool d.has] 70)) := by show _ = _; rw [hW5, ← hz5]; exact heap_alloc_new _ _
      clear hb4 HOz_4 HBv1_4 bw hW5 hz5
      clear hs5 hqv3
      clear r0d r1d r2d r3d r4d r5d r6d r7d r8d r9d r10d r11d r12d
      have cv3_4 : (w5).cell? ⟨qv3, 4, none⟩ = some (.slice ku4 d.who.length kuc4) := (cell_of HBv3_5.out 4).trans rfl
      have h63 : mz + d.who.length ≤ maxLen := by unfold maxLen; omega
      have h47 : (mz + d.who.length) * 8 ≤ 140737488355328 := by omega
      go_wp2_with (at_builtin; refine wpList_append_src (by rfl) _ _ _ (by rfl) w.heap.size 3 i0 (.int .i64 0) 1 8 Try.underlying36 hi hz0 hz1 hz2 rfl (by decide) _ _ _ (by rfl) HOz_5.out _ _ _ (by rfl) (Src.of_owns ((HRd.out _ hb5).own (⟨3, 1, (.slice ku4 d.who.length kuc4), d.who.length, d.who.map (Value.int .i64)⟩ : Rw) (by simp [flR])) (ints_ones _)) h63 h47 hb5.size ?_)
      intro v1 w6 hown2 hgrow
      clear cv3_4
      have hb6 : Below w.heap.size w (w6) := hb5.grown hgrow hb5.size (fun g hg => owns_ge HOz_5.out hg)
      have HBv1_6 : Hid ((w6).heap[qv1]? = some (.cells #[.slice o1 c.s.cs.length c1, .slice o2 c.s.ws.length c2, .slice o3 n3 c3, .slice o4 n4 c4, .int .i64 c.s.nx, .int .i64 c.s.sq, .slice (some ⟨g5, 0, none⟩) n5 c5, .int .i64 c.now, .slice o6 n6 c6, .slice o7 n7 c7] 49)) := (hgrow.block _ (Array.getElem?_eq_some_iff.1 HBv1_5.out).1 (fun e => own_ne HOz_5.out HBv1_5.out (by decide) _ e.symm rfl)).trans HBv1_5.out
      have HBv3_6 : Hid ((w6).heap[qv3]? = some (.cells #[.int .i64 d.qmt, .string d.qpa, .slice ku2 d.qfs.length kuc2, .string d.qbd, .slice ku4 d.who.length kuc4, .string d.opa, .slice ku6 d.oxs.length kuc6, .slice ku7 d.oys.length kuc7, .int .i64 d.ost, .slice ku9 d.ofs.length kuc9, .string d.obd, .int .i64 d.otm, .bool d.has] 70)) := (hgrow.block _ (Array.getElem?_eq_some_iff.1 HBv3_5.out).1 (fun e => own_ne HOz_5.out HBv3_5.out (by decide) _ e.symm rfl)).trans HBv3_5.out
      obtain ⟨ozp, pzp, rfl⟩ := slice_of_owns hown2
      have HOzp_6 : Hid ((w6).ownsRow w.heap.size 3 1 (.slice ozp (mz + d.who.length) pzp) (mz + d.who.length) ((zs.map (Value.int .i64)) ++ (d.who.map (Value.int .i64)))) := hown2
      clear hb5 HOz_5 HBv1_5 HBv3_5 hown2 hgrow h63 h47
      have HR2 : Hid (w6.ownsRow w.heap.size 3 1 (.slice ozp (mz + d.who.length) pzp) (mz + d.who.length) ((zs ++ d.who).map (Value.int .i64))) := by
        show World.ownsRow _ _ _ _ _ _ _
        rw [List.map_append]
        exact HOzp_6.out
      have HE2 : Hid (zs ++ d.who = whoTo c.fl (i + 1)) := by
        show _ = _
        rw [whoTo_succ c.fl i (by rw [HLC.out.1]; omega), HEd.out, HE0.out]
      go_wp2_with fail
      go_roundw
      case rel => exact ⟨i + 1, (mz + d.who.length), ozp, pzp, zs ++ d.who, by omega, by omega, by go_num, rfl, ⟨hb6, HBv1_6.out⟩, HE2, HR2⟩
      case measure => simp [intOf]; omega
    · have hb4 := HW.out.1
      have HBv1_4 : Hid ((wr).heap[qv1]? = some (.cells #[.slice o1 c.s.cs.length c1, .slice o2 c.s.ws.length c2, .slice o3 n3 c3, .slice o4 n4 c4, .int .i64 c.s.nx, .int .i64 c.s.sq, .slice o5 n5 c5, .int .i64 c.now, .slice o6 n6 c6, .slice o7 n7 c7] 49)) := HW.out.2
      clear HW hb3 HBv1_3
      have HOz_4 : Hid ((wr).ownsRow w.heap.size 3 1 (.slice oz mz pz) mz (zs.map (Value.int .i64))) := HR0.out
      clear HR0
      obtain rfl : n5 = i := by omega
      go_wp2_with fail
      go_ret
      exact ⟨oz, mz, pz, rfl, by rw [HLC.out.1, ← HE0.out]; exact HOz_4.out, by rw [HLC.out.1, ← HE0.out]; have h1 := HOz_4.out.1; rw [List.length_map] at h1; omega, hb4⟩

end Go.Proofs.Ytajccgffallajaa

namespace Go.Proofs.Ytajccgffallajaa
open Go.RowKit Go.WideShapes
open Go.Lib hiding intOf

set_option maxRecDepth 100000 in
/-- An object's seven cells among the arguments. -/
theorem objCells {H : Type} {enc : TypeId × Value → H} {W : World} {fuel : Nat} {d0 d1 d2 d3 d4 d5 d6 : Value} {x : DataW H × List MemPlace} (hf : DataW.trod enc Try.prog W 0 (fun _ => true) true fuel 96 [d0, d1, d2, d3, d4, d5, d6] = some x) :
    ∃ (p : ByteArray) (a1 : Option Addr) (n1 c1 : Nat) (xs : List ByteArray) (a2 : Option Addr) (n2 c2 : Nat) (ys : List ByteArray) (st : Int) (a3 : Option Addr) (n3 c3 : Nat) (fs : List (ByteArray × ByteArray)) (b : ByteArray) (t : Int), (d0 = .string p ∧ d1 = .slice a1 n1 c1 ∧ d2 = .slice a2 n2 c2 ∧ d3 = .int .i64 st ∧ d4 = .slice a3 n3 c3 ∧ d5 = .string b ∧ d6 = .int .i64 t) ∧ ArgT W W.heap.size a1 n1 xs ∧ ArgT W W.heap.size a2 n2 ys ∧ ArgF W W.heap.size a3 n3 fs ∧ n1 ≤ maxLen ∧ n2 ≤ maxLen ∧ n3 ≤ maxLen ∧ (∀ i, i < n1 → (textAt xs i).size ≤ maxLen) ∧ (∀ i, i < n2 → (textAt ys i).size ≤ maxLen) ∧ WalkF n3 fs ∧ p.size ≤ maxLen ∧ b.size ≤ maxLen := by
  obtain ⟨ys, q, _, _, _, hyl, hg⟩ := DataW.trod_struct Try.underlying96 hf
  have hcR : Try.prog.cellsOf 94 = 3 := by kernel_rfl
  have e3 : Try.prog.cellsOf 3 = 1 := by kernel_rfl
  have e9 : Try.prog.cellsOf 9 = 1 := by kernel_rfl
  have eL : Try.prog.cellsOf 90 = 1 := by kernel_rfl
  have eS : Try.prog.cellsOf 22 = 1 := by kernel_rfl
  have g0 := hg 0 _ rfl
  have g1 := hg 1 _ rfl
  have g2 := hg 2 _ rfl
  have g3 := hg 3 _ rfl
  have g4 := hg 4 _ rfl
  simp [e3, e9, eS, hcR] at g0 g1 g2 g3 g4
  have hy5 : ys.length = 5 := hyl
  rw [List.getElem?_eq_getElem (show 0 < ys.length by omega)] at g0
  rw [List.getElem?_eq_getElem (show 1 < ys.length by omega)] at g1
  rw [List.getElem?_eq_getElem (show 2 < ys.length by omega)] at g2
  rw [List.getElem?_eq_getElem (show 3 < ys.length by omega)] at g3
  rw [List.getElem?_eq_getElem (show 4 < ys.length by omega)] at g4
  obtain ⟨zs, q2, _, _, _, hzl, hk⟩ := DataW.trod_struct Try.underlying94 g3
  have k0 := hk 0 _ rfl
  have k1 := hk 1 _ rfl
  have k2 := hk 2 _ rfl
  simp [e3, e9, eL] at k0 k1 k2
  have hz3 : zs.length = 3 := hzl
  rw [List.getElem?_eq_getElem (show 0 < zs.length by omega)] at k0
  rw [List.getElem?_eq_getElem (show 1 < zs.length by omega)] at k1
  rw [List.getElem?_eq_getElem (show 2 < zs.length by omega)] at k2
  obtain ⟨p, hp, _, hps⟩ := DataW.trod_string Try.underlying9 g0
  obtain ⟨t, ht, _, _⟩ := DataW.trod_int Try.underlying3 g4
  obtain ⟨st, hst, _, _⟩ := DataW.trod_int Try.underlying3 k0
  obtain ⟨b, hb, _, hbs⟩ := DataW.trod_string Try.underlying9 k2
  obtain ⟨a1, n1, c1, rfl⟩ : ∃ a n cap, d1 = .slice a n cap := by
    rcases DataW.trod_slice Try.underlying22 g1 with ⟨h, _⟩ | ⟨a, n, cap, _, _, _, _, h, _⟩
    · exact ⟨none, 0, 0, by simpa using h⟩
    · exact ⟨_, n, cap, by simpa using h⟩
  obtain ⟨a2, n2, c2, rfl⟩ : ∃ a n cap, d2 = .slice a n cap := by
    rcases DataW.trod_slice Try.underlying22 g2 with ⟨h, _⟩ | ⟨a, n, cap, _, _, _, _, h, _⟩
    · exact ⟨none, 0, 0, by simpa using h⟩
    · exact ⟨_, n, cap, by simpa using h⟩
  obtain ⟨a3, n3, c3, rfl⟩ : ∃ a n cap, d4 = .slice a n cap := by
    rcases DataW.trod_slice Try.underlying90 k1 with ⟨h, _⟩ | ⟨a, n, cap, _, _, _, _, h, _⟩
    · exact ⟨none, 0, 0, by simpa using h⟩
    · exact ⟨_, n, cap, by simpa using h⟩
  obtain ⟨xs, x1, x2, x3⟩ := openTexts g1
  obtain ⟨ws, y1, y2, y3⟩ := openTexts g2
  obtain ⟨fs, z1, z2, z3⟩ := openFields k1
  simp only [List.cons.injEq, and_true] at hp ht hst hb
  subst hp ht hst hb
  exact ⟨p, a1, n1, c1, xs, a2, n2, c2, ws, st, a3, n3, c3, fs, b, t, ⟨rfl, rfl, rfl, rfl, rfl, rfl, rfl⟩, x1, y1, z1, x2, y2, z2, x3, y3, z3, hps, hbs⟩

set_option maxRecDepth 100000 in
/-- A list of what is kept among the arguments. -/
theorem openKeptS {H : Type} {enc : TypeId × Value → H} {W : World} {fuel : Nat} {a : Option Addr} {n cap : Nat} {x : DataW H × List MemPlace} (h : DataW.trod enc Try.prog W 0 (fun _ => true) true fuel 26 [.slice a n cap] = some x) :
    ∃ ks, ArgKept W W.heap.size a n ks ∧ n ≤ maxLen ∧ ∀ k ∈ ks, KpMax k := by
  rcases Go.Deep.open_slice Try.underlying26 h with ⟨hcs, _⟩ | ⟨ad, len, c, m, q, Dd, Pl, hcs, _, hl, hm, hmm, _, hx⟩
  · simp at hcs
    obtain ⟨rfl, rfl, rfl⟩ := hcs
    exact ⟨[], ⟨rfl, fun i hi => absurd hi (by omega)⟩, Nat.zero_le _, fun x hx => by simp at hx⟩
  · simp at hcs
    obtain ⟨rfl, rfl, rfl⟩ := hcs
    have hm2 : m = cap := by simpa using hmm
    have ce : Try.prog.cellsOf 135 = 9 := by kernel_rfl
    have co : Try.prog.cellsOf 96 = 7 := by kernel_rfl
    have ci : Try.prog.cellsOf 3 = 1 := by kernel_rfl
    have each : ∀ i, i < n → ∃ y : KpD, (∃ (a1 : Option Addr) (n1 c1 : Nat) (a2 : Option Addr) (n2 c2 : Nat) (a3 : Option Addr) (n3 c3 : Nat), (W.cell? (ad.add (i * 9 + 0)) = some (.string y.p) ∧ W.cell? (ad.add (i * 9 + 1)) = some (.slice a1 n1 c1) ∧ W.cell? (ad.add (i * 9 + 2)) = some (.slice a2 n2 c2) ∧ W.cell? (ad.add (i * 9 + 3)) = some (.int .i64 y.st) ∧ W.cell? (ad.add (i * 9 + 4)) = some (.slice a3 n3 c3) ∧ W.cell? (ad.add (i * 9 + 5)) = some (.string y.b) ∧ W.cell? (ad.add (i * 9 + 6)) = some (.int .i64 y.t) ∧ W.cell? (ad.add (i * 9 + 7)) = some (.int .i64 y.a) ∧ W.cell? (ad.add (i * 9 + 8)) = some (.int .i64 y.q)) ∧ ArgT W W.heap.size a1 n1 y.xs ∧ ArgT W W.heap.size a2 n2 y.ys ∧ ArgF W W.heap.size a3 n3 y.fs) ∧ KpMax y := by
      intro i hi
      obtain ⟨cs', h1, h2⟩ := hx i (by omega)
      rw [ce] at h1
      obtain ⟨_, hlen, hcell⟩ := World.cells?_some h1
      obtain ⟨xs, k, hk, hxy, _, hxl, hf⟩ := DataW.trod_struct Try.underlying135 h2
      match xs, hxl, cs', hlen with
      | [x0, x1, x2], _, [v0, v1, v2, v3, v4, v5, v6, v7, v8], _ =>
        have g0 := hf 0 _ rfl
        have g1 := hf 1 _ rfl
        have g2 := hf 2 _ rfl
        simp [ci, co] at g0 g1 g2
        obtain ⟨p, a1, n1, c1, xs, a2, n2, c2, ys, st, a3, n3, c3, fs, b, t, ⟨rfl, rfl, rfl, rfl, rfl, rfl, rfl⟩, w1, w2, w3, m1, m2, m3, s1, s2, s3, s4, s5⟩ := objCells g0
        obtain ⟨ka, e1, _, _⟩ := DataW.trod_int Try.underlying3 g1
        obtain ⟨kq, e2, _, _⟩ := DataW.trod_int Try.underlying3 g2
        simp only [List.cons.injEq, and_true] at e1 e2
        subst e1 e2
        have c0x := hcell 0 (by omega)
        have c1x := hcell 1 (by omega)
        have c2x := hcell 2 (by omega)
        have c3x := hcell 3 (by omega)
        have c4x := hcell 4 (by omega)
        have c5x := hcell 5 (by omega)
        have c6x := hcell 6 (by omega)
        have c7x := hcell 7 (by omega)
        have c8x := hcell 8 (by omega)
        rw [Go.Deep.add_add] at c0x c1x c2x c3x c4x c5x c6x c7x c8x
        refine ⟨⟨p, xs, ys, st, fs, b, t, ka, kq⟩, ⟨a1, n1, c1, a2, n2, c2, a3, n3, c3, ⟨by simpa using c0x, by simpa using c1x, by simpa using c2x, by simpa using c3x, by simpa using c4x, by simpa using c5x, by simpa using c6x, by simpa using c7x, by simpa using c8x⟩, w1, w2, w3⟩, ?_⟩
        unfold KpMax
        show xs.length ≤ maxLen ∧ ys.length ≤ maxLen ∧ fs.length ≤ maxLen ∧ (∀ i, i < xs.length → (textAt xs i).size ≤ maxLen) ∧ (∀ i, i < ys.length → (textAt ys i).size ≤ maxLen) ∧ WalkF fs.length fs ∧ p.size ≤ maxLen ∧ b.size ≤ maxLen
        rw [w1.len, w2.len, w3.len]
        exact ⟨m1, m2, m3, s1, s2, s3, s4, s5⟩
    haveI : Inhabited KpD := ⟨zeroK⟩
    obtain ⟨q, hq⟩ := Go.Deep.choose_lt each
    have hat : ∀ i, i < n → kpAt ((List.range n).map q) i = q i := fun i hi => by
      unfold kpAt
      rw [List.getD_eq_getElem?_getD, List.getElem?_map, List.getElem?_range hi]
      rfl
    refine ⟨(List.range n).map q, ⟨by simp, fun i hi => ?_⟩, by omega, fun x hx => ?_⟩
    · obtain ⟨⟨a1, n1, c1, a2, n2, c2, a3, n3, c3, cc, w1, w2, w3⟩, _⟩ := hq i hi
      have hsp : ad.spot = none := by
        obtain ⟨⟨_, _, _, _, _, _, _, _, _, c3, _⟩, _⟩ := hq 0 (by omega)
        have := World.cell?_spot c3.1
        simpa [Addr.add] using this
      obtain ⟨b, off, sp⟩ := ad
      simp only at hsp
      subst hsp
      simp only [addr_add] at cc
      rw [hat i hi]
      have hlt := World.block_lt_of_cell? W _ cc.1
      exact ⟨b, off, rfl, hlt, a1, n1, c1, a2, n2, c2, a3, n3, c3, ⟨by simpa [Nat.add_assoc] using cc.1, by simpa [Nat.add_assoc] using cc.2.1, by simpa [Nat.add_assoc] using cc.2.2.1, by simpa [Nat.add_assoc] using cc.2.2.2.1, by simpa [Nat.add_assoc] using cc.2.2.2.2.1, by simpa [Nat.add_assoc] using cc.2.2.2.2.2.1, by simpa [Nat.add_assoc] using cc.2.2.2.2.2.2.1, by simpa [Nat.add_assoc] using cc.2.2.2.2.2.2.2.1, by simpa [Nat.add_assoc] using cc.2.2.2.2.2.2.2.2⟩, w1, w2, w3⟩
    · obtain ⟨i, hi, rfl⟩ := List.mem_map.1 hx
      exact (hq i (List.mem_range.1 hi)).2

end Go.Proofs.Ytajccgffallajaa

namespace Go.Proofs.Ytajccgffallajaa
open Go.RowKit
open Go.Lib hiding intOf

set_option maxRecDepth 100000 in
theorem cellsReq {H : Type} {enc : TypeId × Value → H} {W : World} {fuel : Nat} {d0 d1 d2 d3 : Value} {x : DataW H × List MemPlace} (hf : DataW.trod enc Try.prog W 0 (fun _ => true) true fuel 92 [d0, d1, d2, d3] = some x) :
    ∃ (mt : Int) (pa : ByteArray) (fs : List (ByteArray × ByteArray)) (bd : ByteArray) (a : Option Addr) (n cap : Nat), (d0 = .int .i64 mt ∧ d1 = .string pa ∧ d2 = .slice a n cap ∧ d3 = .string bd) ∧ ArgF W W.heap.size a n fs ∧ n ≤ maxLen ∧ WalkF n fs ∧ pa.size ≤ maxLen ∧ bd.size ≤ maxLen := by
  obtain ⟨ys, q, _, _, _, hyl, hg⟩ := DataW.trod_struct Try.underlying92 hf
  have e3 : Try.prog.cellsOf 3 = 1 := by kernel_rfl
  have e9 : Try.prog.cellsOf 9 = 1 := by kernel_rfl
  have eL : Try.prog.cellsOf 90 = 1 := by kernel_rfl
  have g0 := hg 0 _ rfl
  have g1 := hg 1 _ rfl
  have g2 := hg 2 _ rfl
  have g3 := hg 3 _ rfl
  simp [e3, e9, eL] at g0 g1 g2 g3
  have hyz : ys.length = 4 := hyl
  rw [List.getElem?_eq_getElem (show 0 < ys.length by omega)] at g0
  rw [List.getElem?_eq_getElem (show 1 < ys.length by omega)] at g1
  rw [List.getElem?_eq_getElem (show 2 < ys.length by omega)] at g2
  rw [List.getElem?_eq_getElem (show 3 < ys.length by omega)] at g3
  obtain ⟨mt, hmt, _, _⟩ := DataW.trod_int Try.underlying3 g0
  obtain ⟨pa, hpa, _, spa⟩ := DataW.trod_string Try.underlying9 g1
  obtain ⟨a, n, cap, rfl⟩ : ∃ a n cap, d2 = .slice a n cap := by
    rcases DataW.trod_slice Try.underlying90 g2 with ⟨h, _⟩ | ⟨a, n, cap, _, _, _, _, h, _⟩
    · exact ⟨none, 0, 0, by simpa using h⟩
    · exact ⟨_, n, cap, by simpa using h⟩
  obtain ⟨fs, h1, h2, h3⟩ := openFields g2
  obtain ⟨bd, hbd, _, sbd⟩ := DataW.trod_string Try.underlying9 g3
  simp only [List.cons.injEq, and_true] at hmt hpa hbd
  subst hmt hpa hbd
  exact ⟨mt, pa, fs, bd, a, n, cap, ⟨rfl, rfl, rfl, rfl⟩, h1, h2, h3, spa, sbd⟩

set_option maxRecDepth 100000 in
theorem cellsResp {H : Type} {enc : TypeId × Value → H} {W : World} {fuel : Nat} {d0 d1 d2 : Value} {x : DataW H × List MemPlace} (hf : DataW.trod enc Try.prog W 0 (fun _ => true) true fuel 94 [d0, d1, d2] = some x) :
    ∃ (st : Int) (fs : List (ByteArray × ByteArray)) (bd : ByteArray) (a : Option Addr) (n cap : Nat), (d0 = .int .i64 st ∧ d1 = .slice a n cap ∧ d2 = .string bd) ∧ ArgF W W.heap.size a n fs ∧ n ≤ maxLen ∧ WalkF n fs ∧ bd.size ≤ maxLen := by
  obtain ⟨ys, q, _, _, _, hyl, hg⟩ := DataW.trod_struct Try.underlying94 hf
  have e3 : Try.prog.cellsOf 3 = 1 := by kernel_rfl
  have e9 : Try.prog.cellsOf 9 = 1 := by kernel_rfl
  have eL : Try.prog.cellsOf 90 = 1 := by kernel_rfl
  have g0 := hg 0 _ rfl
  have g1 := hg 1 _ rfl
  have g2 := hg 2 _ rfl
  simp [e3, e9, eL] at g0 g1 g2
  have hyz : ys.length = 3 := hyl
  rw [List.getElem?_eq_getElem (show 0 < ys.length by omega)] at g0
  rw [List.getElem?_eq_getElem (show 1 < ys.length by omega)] at g1
  rw [List.getElem?_eq_getElem (show 2 < ys.length by omega)] at g2
  obtain ⟨st, hst, _, _⟩ := DataW.trod_int Try.underlying3 g0
  obtain ⟨a, n, cap, rfl⟩ : ∃ a n cap, d1 = .slice a n cap := by
    rcases DataW.trod_slice Try.underlying90 g1 with ⟨h, _⟩ | ⟨a, n, cap, _, _, _, _, h, _⟩
    · exact ⟨none, 0, 0, by simpa using h⟩
    · exact ⟨_, n, cap, by simpa using h⟩
  obtain ⟨fs, h1, h2, h3⟩ := openFields g1
  obtain ⟨bd, hbd, _, sbd⟩ := DataW.trod_string Try.underlying9 g2
  simp only [List.cons.injEq, and_true] at hst hbd
  subst hst hbd
  exact ⟨st, fs, bd, a, n, cap, ⟨rfl, rfl, rfl⟩, h1, h2, h3, sbd⟩

end Go.Proofs.Ytajccgffallajaa

namespace Go.Proofs.Ytajccgffallajaa
open Go.RowKit
open Go.Lib hiding intOf

set_option maxRecDepth 100000 in
set_option maxHeartbeats 4000000 in
/-- A list of Flight among the arguments. -/
theorem openFlightS {H : Type} {enc : TypeId × Value → H} {W : World} {fuel : Nat} {a : Option Addr} {n cap : Nat} {x : DataW H × List MemPlace} (h : DataW.trod enc Try.prog W 0 (fun _ => true) true fuel 30 [.slice a n cap] = some x) :
    ∃ ks, ArgFlight W W.heap.size a n ks ∧ n ≤ maxLen ∧ ∀ k ∈ ks, FlMax k := by
  rcases Go.Deep.open_slice Try.underlying30 h with ⟨hcs, _⟩ | ⟨ad, len, c, m, q, Dd, Pl, hcs, _, hl, hm, hmm, _, hx⟩
  · simp at hcs
    obtain ⟨rfl, rfl, rfl⟩ := hcs
    exact ⟨[], ⟨rfl, fun i hi => absurd hi (by omega)⟩, Nat.zero_le _, fun x hx => by simp at hx⟩
  · simp at hcs
    obtain ⟨rfl, rfl, rfl⟩ := hcs
    have hm2 : m = cap := by simpa using hmm
    have ce : Try.prog.cellsOf 98 = 13 := by kernel_rfl
    have cReq : Try.prog.cellsOf 92 = 4 := by kernel_rfl
    have cIntS : Try.prog.cellsOf 36 = 1 := by kernel_rfl
    have cObj : Try.prog.cellsOf 96 = 7 := by kernel_rfl
    have cb : Try.prog.cellsOf 4 = 1 := by kernel_rfl
    have each : ∀ i, i < n → ∃ y : FlD, (∃ (a2 : Option Addr) (c2 : Nat) (a4 : Option Addr) (c4 : Nat) (a6 : Option Addr) (c6 : Nat) (a7 : Option Addr) (c7 : Nat) (a9 : Option Addr) (c9 : Nat), (W.cell? (ad.add (i * 13 + 0)) = some (.int .i64 y.qmt) ∧ W.cell? (ad.add (i * 13 + 1)) = some (.string y.qpa) ∧ W.cell? (ad.add (i * 13 + 2)) = some (.slice a2 y.qfs.length c2) ∧ W.cell? (ad.add (i * 13 + 3)) = some (.string y.qbd) ∧ W.cell? (ad.add (i * 13 + 4)) = some (.slice a4 y.who.length c4) ∧ W.cell? (ad.add (i * 13 + 5)) = some (.string y.opa) ∧ W.cell? (ad.add (i * 13 + 6)) = some (.slice a6 y.oxs.length c6) ∧ W.cell? (ad.add (i * 13 + 7)) = some (.slice a7 y.oys.length c7) ∧ W.cell? (ad.add (i * 13 + 8)) = some (.int .i64 y.ost) ∧ W.cell? (ad.add (i * 13 + 9)) = some (.slice a9 y.ofs.length c9) ∧ W.cell? (ad.add (i * 13 + 10)) = some (.string y.obd) ∧ W.cell? (ad.add (i * 13 + 11)) = some (.int .i64 y.otm) ∧ W.cell? (ad.add (i * 13 + 12)) = some (.bool y.has)) ∧ ArgF W W.heap.size a2 y.qfs.length y.qfs ∧ ArgI W W.heap.size a4 y.who.length y.who ∧ ArgT W W.heap.size a6 y.oxs.length y.oxs ∧ ArgT W W.heap.size a7 y.oys.length y.oys ∧ ArgF W W.heap.size a9 y.ofs.length y.ofs) ∧ FlMax y := by
      intro i hi
      obtain ⟨cs', h1, h2⟩ := hx i (by omega)
      rw [ce] at h1
      obtain ⟨_, hlen, hcell⟩ := World.cells?_some h1
      obtain ⟨xs, k, hk, hxy, _, hxl, hf⟩ := DataW.trod_struct Try.underlying98 h2
      match xs, hxl, cs', hlen with
      | [x0, x1, x2, x3], _, [v0, v1, v2, v3, v4, v5, v6, v7, v8, v9, v10, v11, v12], _ =>
        have g0 := hf 0 _ rfl
        have g1 := hf 1 _ rfl
        have g2 := hf 2 _ rfl
        have g3 := hf 3 _ rfl
        simp [cReq, cIntS, cObj, cb] at g0 g1 g2 g3
        obtain ⟨qmt, qpa, qfs, qbd, a2, n2, c2, ⟨rfl, rfl, rfl, rfl⟩, w2, m2, s2, zqpa, zqbd⟩ := cellsReq g0
        obtain ⟨a4, n4, c4, rfl⟩ : ∃ a n cap, v4 = .slice a n cap := by
          rcases DataW.trod_slice Try.underlying36 g1 with ⟨h, _⟩ | ⟨a, n, cap, _, _, _, _, h, _⟩
          · exact ⟨none, 0, 0, by simpa using h⟩
          · exact ⟨_, n, cap, by simpa using h⟩
        obtain ⟨who, w4, m4⟩ := openIntsT g1
        obtain ⟨opa, a6, n6, c6, oxs, a7, n7, c7, oys, ost, a9, n9, c9, ofs, obd, otm, ⟨rfl, rfl, rfl, rfl, rfl, rfl, rfl⟩, w6, w7, w9, m6, m7, m9, s6, s7, s9, zopa, zobd⟩ := objCells g2
        obtain ⟨has, e3, _⟩ := DataW.trod_bool Try.underlying4 g3
        simp only [List.cons.injEq, and_true] at e3
        subst e3
        obtain rfl := w2.len
        obtain rfl := w4.len
        obtain rfl := w6.len
        obtain rfl := w7.len
        obtain rfl := w9.len
        have c0x := hcell 0 (by omega)
        have c1x := hcell 1 (by omega)
        have c2x := hcell 2 (by omega)
        have c3x := hcell 3 (by omega)
        have c4x := hcell 4 (by omega)
        have c5x := hcell 5 (by omega)
        have c6x := hcell 6 (by omega)
        have c7x := hcell 7 (by omega)
        have c8x := hcell 8 (by omega)
        have c9x := hcell 9 (by omega)
        have c10x := hcell 10 (by omega)
        have c11x := hcell 11 (by omega)
        have c12x := hcell 12 (by omega)
        rw [Go.Deep.add_add] at c0x c1x c2x c3x c4x c5x c6x c7x c8x c9x c10x c11x c12x
        refine ⟨⟨qmt, qpa, qfs, qbd, who, opa, oxs, oys, ost, ofs, obd, otm, has⟩, ⟨a2, c2, a4, c4, a6, c6, a7, c7, a9, c9, ⟨by simpa using c0x, by simpa using c1x, by simpa using c2x, by simpa using c3x, by simpa using c4x, by simpa using c5x, by simpa using c6x, by simpa using c7x, by simpa using c8x, by simpa using c9x, by simpa using c10x, by simpa using c11x, by simpa using c12x⟩, w2, w4, w6, w7, w9⟩, ⟨zqpa, ⟨m2, s2⟩, zqbd, m4, zopa, ⟨m6, s6⟩, ⟨m7, s7⟩, ⟨m9, s9⟩, zobd⟩⟩
    haveI : Inhabited FlD := ⟨zeroFl⟩
    obtain ⟨q, hq⟩ := Go.Deep.choose_lt each
    have hat : ∀ i, i < n → flAt ((List.range n).map q) i = q i := fun i hi => by
      unfold flAt
      rw [List.getD_eq_getElem?_getD, List.getElem?_map, List.getElem?_range hi]
      rfl
    refine ⟨(List.range n).map q, ⟨by simp, fun i hi => ?_⟩, by omega, fun x hx => ?_⟩
    · obtain ⟨⟨a2, c2, a4, c4, a6, c6, a7, c7, a9, c9, cc, w2, w4, w6, w7, w9⟩, _⟩ := hq i hi
      have hsp : ad.spot = none := by
        obtain ⟨⟨_, _, _, _, _, _, _, _, _, _, c3, _⟩, _⟩ := hq 0 (by omega)
        have := World.cell?_spot c3.1
        simpa [Addr.add] using this
      obtain ⟨b, off, sp⟩ := ad
      simp only at hsp
      subst hsp
      simp only [addr_add] at cc
      rw [hat i hi]
      have hlt := World.block_lt_of_cell? W _ cc.1
      exact ⟨b, off, rfl, hlt, a2, c2, a4, c4, a6, c6, a7, c7, a9, c9, ⟨by simpa [Nat.add_assoc] using cc.1, by simpa [Nat.add_assoc] using cc.2.1, by simpa [Nat.add_assoc] using cc.2.2.1, by simpa [Nat.add_assoc] using cc.2.2.2.1, by simpa [Nat.add_assoc] using cc.2.2.2.2.1, by simpa [Nat.add_assoc] using cc.2.2.2.2.2.1, by simpa [Nat.add_assoc] using cc.2.2.2.2.2.2.1, by simpa [Nat.add_assoc] using cc.2.2.2.2.2.2.2.1, by simpa [Nat.add_assoc] using cc.2.2.2.2.2.2.2.2.1, by simpa [Nat.add_assoc] using cc.2.2.2.2.2.2.2.2.2.1, by simpa [Nat.add_assoc] using cc.2.2.2.2.2.2.2.2.2.2.1, by simpa [Nat.add_assoc] using cc.2.2.2.2.2.2.2.2.2.2.2.1, by simpa [Nat.add_assoc] using cc.2.2.2.2.2.2.2.2.2.2.2.2⟩, w2, w4, w6, w7, w9⟩
    · obtain ⟨i, hi, rfl⟩ := List.mem_map.1 hx
      exact (hq i (List.mem_range.1 hi)).2

end Go.Proofs.Ytajccgffallajaa
