/- What the proof of FnExactServed leans on: contracts of the program's and the specification's functions, and plain facts (part 5 of 7). -/
import Derived.Test.YtajccgffallajaaGreatFnExactServedD
namespace Go.Proofs.YtajccgffallajaaGreat
open Go.RowKit
open Go.Lib hiding intOf

/-- One of a list that came in: its cells, and its lists. -/
def SeArg (w : World) (B b off i : Nat) (d : SeD) : Prop :=
  ∃ (a2 : Option Addr) (c2 : Nat) (a5 : Option Addr) (c5 : Nat), (w.cell? ⟨b, off + i * 8, none⟩ = some (.int .i64 d.qmt) ∧ w.cell? ⟨b, off + i * 8 + 1, none⟩ = some (.string d.qpa) ∧ w.cell? ⟨b, off + i * 8 + 2, none⟩ = some (.slice a2 d.qfs.length c2) ∧ w.cell? ⟨b, off + i * 8 + 3, none⟩ = some (.string d.qbd) ∧ w.cell? ⟨b, off + i * 8 + 4, none⟩ = some (.int .i64 d.rst) ∧ w.cell? ⟨b, off + i * 8 + 5, none⟩ = some (.slice a5 d.rfs.length c5) ∧ w.cell? ⟨b, off + i * 8 + 6, none⟩ = some (.string d.rbd) ∧ w.cell? ⟨b, off + i * 8 + 7, none⟩ = some (.int .i64 d.tim)) ∧ ArgF w B a2 d.qfs.length d.qfs ∧ ArgF w B a5 d.rfs.length d.rfs
/-- A list that came in, in blocks below B. -/
def ArgSeen (w : World) (B : Nat) (a : Option Addr) (n : Nat) (ks : List SeD) : Prop :=
  ks.length = n ∧ ∀ i, i < n → ∃ b off, a = some ⟨b, off, none⟩ ∧ b < B ∧ SeArg w B b off i (seAt ks i)
theorem ArgSeen.below {w w' : World} {B : Nat} {a : Option Addr} {n : Nat} {ks : List SeD} (h : ArgSeen w B a n ks) (hb : Below B w w') : ArgSeen w' B a n ks :=
  ⟨h.1, fun i hi => by
    obtain ⟨b, off, h1, h2, a2, c2, a5, c5, ⟨r0, r1, r2, r3, r4, r5, r6, r7⟩, g2, g5⟩ := h.2 i hi
    exact ⟨b, off, h1, h2, a2, c2, a5, c5, ⟨by rw [hb.cell (p := ⟨b, off + i * 8, none⟩) h2]; exact r0, by rw [hb.cell (p := ⟨b, off + i * 8 + 1, none⟩) h2]; exact r1, by rw [hb.cell (p := ⟨b, off + i * 8 + 2, none⟩) h2]; exact r2, by rw [hb.cell (p := ⟨b, off + i * 8 + 3, none⟩) h2]; exact r3, by rw [hb.cell (p := ⟨b, off + i * 8 + 4, none⟩) h2]; exact r4, by rw [hb.cell (p := ⟨b, off + i * 8 + 5, none⟩) h2]; exact r5, by rw [hb.cell (p := ⟨b, off + i * 8 + 6, none⟩) h2]; exact r6, by rw [hb.cell (p := ⟨b, off + i * 8 + 7, none⟩) h2]; exact r7⟩, g2.below hb, g5.below hb⟩⟩
/-- The measure is negative, or what is left of L. -/
def SzSeenS (L : Int) (ks : List SeD) (w : World) (e : Ending) (w' : World) : Prop :=
  ∃ r : Int, e = .returned (.int .i64 r) ∧ r ≤ L ∧ (0 ≤ r → r + (wtSe ks : Int) ≤ L ∧ ∀ k ∈ ks, SeSmall k) ∧ Below w.heap.size w w'

set_option maxHeartbeats 8000000 in
set_option maxRecDepth 100000 in
theorem szSeenS_any (L : Int) (hL0 : 0 ≤ L) (hL1 : L ≤ 1048576) (B : Nat) (a : Option Addr) (n cap : Nat) (ks : List SeD) (w : World) (harg : ArgSeen w B a n ks) (hB : B ≤ w.heap.size) (hn : n ≤ maxLen) (hsz : ∀ k ∈ ks, SeMax k) :
    Calls Tryz.prog 15 #[.slice a n cap, .int .i64 L] w fun e w' => SzSeenS L ks w e w' := by
  unfold maxLen at hn
  have HS : Hid (∀ k ∈ ks, SeMax k) := hsz
  have HLN : Hid (ks.length = n) := harg.1
  have HA : Hid (∀ W, Below w.heap.size w W → ArgSeen W B a n ks) := fun W h => harg.below (h.mono hB)
  have HBB : Hid (∀ W, Below w.heap.size w W → B ≤ W.heap.size) := fun W h => Nat.le_trans hB h.size
  clear hsz harg hB
  by_cases c1 : L - (n : Int) < 0
  · go_enter Tryz.func15, Tryz.ntmps15
    go_wp2
    go_ret
    exact ⟨-1, rfl, by omega, fun h => absurd h (by omega), Below.refl _ _⟩
  · go_enter Tryz.func15, Tryz.ntmps15
    go_wp2
    go_loopw [1, 5] (fun lf i wr => ∃ (k : Nat) (x : Int), k ≤ n ∧ i = .int .i64 (k : Int) ∧ lf = .int .i64 x ∧ 0 ≤ x ∧ x ≤ L ∧ Hid (x + (wtSe (ks.take k) : Int) + ((n : Int) - (k : Int)) ≤ L ∧ ∀ y ∈ ks.take k, SeSmall y) ∧ Hid (Below w.heap.size w wr)) (fun _ i _ => n - (intOf i).toNat)
    case atStart => exact ⟨0, _, Nat.zero_le _, rfl, rfl, by omega, by omega, ⟨by simp [wtSe], fun x hx => by simp at hx⟩, Below.refl _ _⟩
    case round =>
      obtain ⟨k, x, hk, rfl, rfl, hx0, hx1, HX, HBW⟩ := hrel
      by_cases hlt : k < n
      · have hlt2 : (k : Int) < (n : Int) := by omega
        obtain ⟨b, off, rfl, hbB, a2, c2, a5, c5, ⟨r0, r1, r2, r3, r4, r5, r6, r7⟩, g2, g5⟩ := (HA.out wr HBW.out).2 k hlt
        obtain ⟨y, hy⟩ : ∃ y, y = seAt ks k := ⟨_, rfl⟩
        have HM : Hid (y ∈ ks) := by show _ ∈ _; rw [hy]; exact getD_mem0 _ ks k (by rw [HLN.out]; exact hlt)
        have HTK : Hid (ks.take (k + 1) = ks.take k ++ [y]) := by show _ = _; rw [hy]; exact getD_take0 _ ks k (by rw [HLN.out]; exact hlt)
        rw [← hy] at r0 r1 r2 r3 r4 r5 r6 r7 g2 g5
        have HG2 : Hid (ArgF wr B a2 y.qfs.length y.qfs) := g2
        have HG5 : Hid (ArgF wr B a5 y.rfs.length y.rfs) := g5
        clear hy g2 g5
        go_wp2_with fail
        skip
        refine (szSeen_any x hx0 (by omega) y a2 c2 a5 c5 B _ HG2.out HG5.out (HBB.out _ HBW.out) (HS.out y HM.out)).mono ?_
        rintro e w1 ⟨r, rfl, hr1, hr2, bw⟩
        have HB2 : Hid (Below w.heap.size w w1) := HBW.out.trans (bw.mono HBW.out.size)
        clear r0 r1 r2 r3 r4 r5 r6 r7 bw
        by_cases d1 : r < 0
        · clear hr2
          go_wp2
          go_ret
          exact ⟨-1, rfl, by omega, fun h => absurd h (by omega), HB2.out⟩
        · have HX2 : Hid (r + (wtSe (ks.take (k + 1)) : Int) + ((n : Int) - ((k + 1 : Nat) : Int)) ≤ L ∧ ∀ y ∈ ks.take (k + 1), SeSmall y) := by
            obtain ⟨q1, q2⟩ := hr2 (by omega)
            obtain ⟨m1, m2⟩ := HX.out
            refine ⟨?_, fun z hz => ?_⟩
            · rw [HTK.out, wtSe_snoc]
              omega
            · rw [HTK.out] at hz
              rcases List.mem_append.1 hz with hz | hz
              · exact m2 z hz
              · rw [List.mem_singleton.1 hz]; exact q2
          clear hr2
          go_wp2
          go_roundw
          case rel => exact ⟨k + 1, r, by omega, by go_num, rfl, by omega, by omega, HX2, HB2⟩
          case measure => simp [intOf]; omega
      · have HF : Hid (x + (wtSe ks : Int) ≤ L ∧ ∀ k ∈ ks, SeSmall k) := by
          obtain ⟨m1, m2⟩ := HX.out
          rw [List.take_of_length_le (by rw [HLN.out]; omega)] at m1 m2
          exact ⟨by omega, m2⟩
        go_wp2
        go_ret
        exact ⟨x, rfl, by omega, fun _ => HF.out, HBW.out⟩

theorem infoSeen : (Tryz.prog.info? 116).map (fun i => (i.zero, i.size, i.bytes)) = some (some (.agg #[.int .i64 0, .string ⟨#[]⟩, .slice none 0 0, .string ⟨#[]⟩, .int .i64 0, .slice none 0 0, .string ⟨#[]⟩, .int .i64 0]), 8, 120) := by kernel_rfl
/-- A call answers a list of these, of its own. -/
def SeenIs (ks : List SeD) (w : World) (e : Ending) (w' : World) : Prop := ∃ (V : Value) (kv : List SeV), e = .returned V ∧ kv.map (·.d) = ks ∧ SesO w' w.heap.size V kv ∧ Below w.heap.size w w'
/-- Told item by item, and the items' own lists behind the row: a list of one's own. -/
theorem parts_Seen {w : World} {g n base : Nat} {kv : List SeV} (hp : PartO seC 8 116 w g n kv) (hl : kv.length = n) (hm : n ≤ maxLen) (hb : base ≤ g) (hr : RowsO w (g + 1) (kv.flatMap seR)) : SesO w base (.slice (some ⟨g, 0, none⟩) n n) kv := by
  have hrow : (seRow (.slice (some ⟨g, 0, none⟩) n n) kv).own w base := by
    have h := hp.owns seC_len (by decide) hl hm hb
    unfold Rw.own seRow
    rw [hl]
    exact h
  refine ⟨fun r h => ?_, List.pairwise_cons.2 ⟨fun r h g' h1 h2 => ?_, hr.apart⟩⟩
  · rcases List.mem_cons.1 h with h | h
    · rw [h]; exact hrow
    · exact owns_wide (hr.own r h) (by omega)
  · have e1 : some g = some g' := h1
    have e2 := hr.ge h h2
    have e3 := Option.some.inj e1
    omega

set_option maxHeartbeats 8000000 in
set_option maxRecDepth 100000 in
theorem toSeenS_any (B : Nat) (a : Option Addr) (n cap : Nat) (ks : List SeD) (w : World) (harg : ArgSeen w B a n ks) (hB : B ≤ w.heap.size) (hn : n ≤ 1048576) (hsm : ∀ k ∈ ks, SeLen k) :
    Calls Tryz.prog 20 #[.slice a n cap] w fun e w' => SeenIs ks w e w' := by
  obtain ⟨i0, hi, hz0, hz1, hz2⟩ := info_parts infoSeen
  obtain ⟨M, hM⟩ : ∃ M, M = madeCells (Value.agg #[.int .i64 0, .string ⟨#[]⟩, .slice none 0 0, .string ⟨#[]⟩, .int .i64 0, .slice none 0 0, .string ⟨#[]⟩, .int .i64 0]).cells (((n : Nat) : Int).toNat * i0.size) := ⟨_, rfl⟩
  have hmk : ∀ W : World, (Instr.makeSlice 49 (.int .i64 (n : Int)) (.int .i64 (n : Int))).run Tryz.prog W = .ok (.slice (some ⟨W.heap.size, 0, none⟩) n n) (W.alloc (.cells M 116)) := fun W => by
    have h := run_make (P := Tryz.prog) W 49 116 i0 (.agg #[.int .i64 0, .string ⟨#[]⟩, .slice none 0 0, .string ⟨#[]⟩, .int .i64 0, .slice none 0 0, .string ⟨#[]⟩, .int .i64 0]) Tryz.underlying49 hi hz0 .i64 .i64 (n : Int) (n : Int) (by omega) (by omega) (by rw [hz2]; omega) (by omega)
    rw [← hM] at h
    simpa using h
  have hMs : M.size = n * 8 := by rw [hM, size_madeCells, hz1]; simp
  have HLN : Hid (ks.length = n) := harg.1
  have HSM : Hid (∀ k ∈ ks, SeLen k) := hsm
  have HA : Hid (∀ W, Below w.heap.size w W → ArgSeen W B a n ks) := fun W h => harg.below (h.mono hB)
  have HBB : Hid (∀ W, Below w.heap.size w W → B ≤ W.heap.size) := fun W h => Nat.le_trans hB h.size
  clear hM harg hsm hB
  obtain ⟨g, hg⟩ : ∃ g, g = w.heap.size := ⟨_, rfl⟩
  have HG : Hid (w.heap.size = g) := hg.symm
  have HP : Hid (([] : List SeV).length = 0 ∧ ([] : List SeV).map (·.d) = ks.take 0 ∧ PartO seC 8 116 (w.alloc (.cells M 116)) g n [] ∧ RowsO (w.alloc (.cells M 116)) (g + 1) (([] : List SeV).flatMap seR)) := ⟨rfl, by simp, ⟨M, by rw [hg]; exact heap_alloc_new w _, hMs, fun i h => absurd h (by simp)⟩, RowsO.nil _ _⟩
  have HPB : Hid (Below w.heap.size w (w.alloc (.cells M 116))) := (Below.refl _ _).alloc (Nat.le_refl _) _
  go_enter Tryz.func20, Tryz.ntmps20
  go_wp2
  rw [HG.out]
  clear hg hMs
  go_loopw [4] (fun i wr => ∃ (k : Nat) (kv : List SeV), k ≤ n ∧ i = .int .i64 (k : Int) ∧ Hid (kv.length = k ∧ kv.map (·.d) = ks.take k ∧ PartO seC 8 116 wr g n kv ∧ RowsO wr (g + 1) (kv.flatMap seR)) ∧ Hid (Below w.heap.size w wr)) (fun i _ => n - (intOf i).toNat)
  case atStart => exact ⟨0, [], Nat.zero_le _, rfl, HP, HPB⟩
  case round =>
    obtain ⟨k, kv, hk, rfl, hpr, HBW⟩ := hrel
    by_cases hlt : k < n
    · have hlt2 : (k : Int) < (n : Int) := by omega
      obtain ⟨b, off, rfl, hbB, a2, c2, a5, c5, ⟨r0, r1, r2, r3, r4, r5, r6, r7⟩, g2, g5⟩ := (HA.out wr HBW.out).2 k hlt
      obtain ⟨y, hy⟩ : ∃ y, y = seAt ks k := ⟨_, rfl⟩
      have HM : Hid (y ∈ ks) := by show _ ∈ _; rw [hy]; exact getD_mem0 _ ks k (by rw [HLN.out]; exact hlt)
      have HTK : Hid (ks.take (k + 1) = ks.take k ++ [y]) := by show _ = _; rw [hy]; exact getD_take0 _ ks k (by rw [HLN.out]; exact hlt)
      rw [← hy] at r0 r1 r2 r3 r4 r5 r6 r7 g2 g5
      have HG2 : Hid (ArgF wr B a2 y.qfs.length y.qfs) := g2
      have HG5 : Hid (ArgF wr B a5 y.rfs.length y.rfs) := g5
      clear hy g2 g5
      go_wp2_with fail
      skip
      refine (toSeen_any y a2 c2 a5 c5 B _ HG2.out HG5.out (HBB.out _ HBW.out) (HSM.out y HM.out)).mono ?_
      rintro e w1 ⟨⟨xd, v2, v5⟩, rfl, hxd, hrows, bw⟩
      clear r0 r1 r2 r3 r4 r5 r6 r7
      obtain rfl : xd = y := hxd
      obtain ⟨o2, p2, hv⟩ := slice_of_owns (hrows.own (⟨135, 2, v2, xd.qfs.length, flatF xd.qfs⟩ : Rw) (by simp [seR]))
      obtain rfl : v2 = .slice o2 xd.qfs.length p2 := hv
      obtain ⟨o5, p5, hv⟩ := slice_of_owns (hrows.own (⟨135, 2, v5, xd.rfs.length, flatF xd.rfs⟩ : Rw) (by simp [seR]))
      obtain rfl : v5 = .slice o5 xd.rfs.length p5 := hv
      obtain ⟨x, hx⟩ : ∃ x : SeV, x = ⟨xd, .slice o2 xd.qfs.length p2, .slice o5 xd.rfs.length p5⟩ := ⟨_, rfl⟩
      rw [← hx] at hrows
      obtain ⟨q1, q2, q3, q4⟩ := hpr.out
      have hgl : g < wr.heap.size := q3.lt
      have HB2 : Hid (Below w.heap.size w w1) := HBW.out.trans (bw.mono HBW.out.size)
      have hpr1 := q3.below bw
      have hall : RowsO w1 (g + 1) (kv.flatMap seR ++ seR x) := q4.more bw hrows (Nat.le_refl _) hgl
      have HALL : Hid ((kv ++ [x]).length = k + 1 ∧ (kv ++ [x]).map (·.d) = ks.take (k + 1) ∧ PartO seC 8 116 (setW w1 g (k * 8) (seC x)) g n (kv ++ [x]) ∧ RowsO (setW w1 g (k * 8) (seC x)) (g + 1) ((kv ++ [x]).flatMap seR)) := by
        refine ⟨by rw [List.length_append, q1]; rfl, by rw [List.map_append, q2, HTK.out, hx]; rfl, ?_, ?_⟩
        · have h := hpr1.put seC_len x (by omega)
          rw [q1] at h
          exact h
        · rw [List.flatMap_append]
          have h2 : RowsO (setW w1 g (k * 8) (seC x)) (g + 1) (kv.flatMap seR ++ seR x) := hall.same (fun r hr j hj => setW_other g j (by have := hall.ge hr hj; omega) _ _ _)
          simpa using h2
      have HBE : Hid (Below w.heap.size w (setW w1 g (k * 8) (seC x))) := setW_below (by rw [HG.out]; exact Nat.le_refl _) _ _ _ _ HB2.out
      rw [hx] at HALL HBE
      obtain ⟨u0, hu0⟩ := hpr1.cell (k * 8) (by omega)
      have f0 := hpr1.frozen (k * 8)
      obtain ⟨u1, hu1⟩ := hpr1.cell (k * 8 + 1) (by omega)
      have f1 := hpr1.frozen (k * 8 + 1)
      obtain ⟨u2, hu2⟩ := hpr1.cell (k * 8 + 2) (by omega)
      have f2 := hpr1.frozen (k * 8 + 2)
      obtain ⟨u3, hu3⟩ := hpr1.cell (k * 8 + 3) (by omega)
      have f3 := hpr1.frozen (k * 8 + 3)
      obtain ⟨u4, hu4⟩ := hpr1.cell (k * 8 + 4) (by omega)
      have f4 := hpr1.frozen (k * 8 + 4)
      obtain ⟨u5, hu5⟩ := hpr1.cell (k * 8 + 5) (by omega)
      have f5 := hpr1.frozen (k * 8 + 5)
      obtain ⟨u6, hu6⟩ := hpr1.cell (k * 8 + 6) (by omega)
      have f6 := hpr1.frozen (k * 8 + 6)
      obtain ⟨u7, hu7⟩ := hpr1.cell (k * 8 + 7) (by omega)
      have f7 := hpr1.frozen (k * 8 + 7)
      clear hpr1 hall hrows hx q1 q2 q3 q4 bw hpr
      go_wp2
      go_roundw
      case rel => exact ⟨k + 1, _, by omega, by go_num, HALL, HBE⟩
      case measure => simp [intOf]; omega
    · obtain rfl : k = n := by omega
      obtain ⟨q1, q2, q3, q4⟩ := hpr.out
      have HF : Hid (kv.map (·.d) = ks ∧ SesO wr w.heap.size (.slice (some ⟨g, 0, none⟩) k k) kv) := by
        refine ⟨?_, parts_Seen q3 q1 (by unfold maxLen; omega) (by rw [HG.out]; exact Nat.le_refl _) q4⟩
        rw [q2, List.take_of_length_le (by rw [HLN.out]; exact Nat.le_refl _)]
      clear q1 q2 q3 q4
      go_wp2
      go_ret
      exact ⟨_, kv, rfl, HF.out.1, HF.out.2, HBW.out⟩

end Go.Proofs.YtajccgffallajaaGreat

namespace Go.Proofs.YtajccgffallajaaGreat
open Go.RowKit
open Go.Lib hiding intOf

set_option maxHeartbeats 8000000 in
set_option maxRecDepth 100000 in
theorem eqSeenS_any (V1 V2 : Value) (kv1 kv2 : List SeV) (B1 B2 : Nat) (w : World) (he : kv1.map (·.d) = kv2.map (·.d)) (h1 : SesO w B1 V1 kv1) (h2 : SesO w B2 V2 kv2) (hn : kv1.length ≤ 2000000) (hs : ∀ x ∈ kv1, SeLim x.d) :
    Calls Tryz.prog 28 #[V1, V2] w fun e w' => e = .returned (.bool true) ∧ Below w.heap.size w w' := by
  have hlen : kv2.length = kv1.length := by have := congrArg List.length he; simpa using this.symm
  obtain ⟨n, hnn⟩ : ∃ n, n = kv1.length := ⟨_, rfl⟩
  obtain ⟨o1, c1, e1⟩ := h1.len
  obtain ⟨o2, c2, e2⟩ := h2.len
  rw [← hnn] at e1 hn
  rw [hlen, ← hnn] at e2
  subst e1 e2
  have HL1 : Hid (kv1.length = n) := hnn.symm
  have HL2 : Hid (kv2.length = n) := hlen.trans hnn.symm
  have HE : Hid (kv1.map (·.d) = kv2.map (·.d)) := he
  have HS : Hid (∀ x ∈ kv1, SeLim x.d) := hs
  have H1 : Hid (∀ W, Below w.heap.size w W → SesO W B1 (.slice o1 n c1) kv1) := fun W h => h1.below h
  have H2 : Hid (∀ W, Below w.heap.size w W → SesO W B2 (.slice o2 n c2) kv2) := fun W h => h2.below h
  clear h1 h2 hlen hnn he hs
  go_enter Tryz.func28, Tryz.ntmps28
  go_wp2
  go_loopw [5] (fun i wr => ∃ k : Nat, k ≤ n ∧ i = .int .i64 (k : Int) ∧ Hid (Below w.heap.size w wr)) (fun i _ => n - (intOf i).toNat)
  case atStart => exact ⟨0, Nat.zero_le _, rfl, Below.refl _ _⟩
  case round =>
    obtain ⟨k, hk, rfl, HBW⟩ := hrel
    by_cases hlt : k < n
    · have hlt2 : (k : Int) < (n : Int) := by omega
      obtain ⟨g1, cp1, ev1, hg1, at1⟩ := (H1.out wr HBW.out).at k (by rw [HL1.out]; exact hlt)
      obtain ⟨g2, cp2, ev2, hg2, at2⟩ := (H2.out wr HBW.out).at k (by rw [HL2.out]; exact hlt)
      obtain rfl : o1 = some ⟨g1, 0, none⟩ := (Value.slice.inj ev1).1
      obtain rfl : o2 = some ⟨g2, 0, none⟩ := (Value.slice.inj ev2).1
      have exy : (kv1[k]'(by rw [HL1.out]; exact hlt)).d = (kv2[k]'(by rw [HL2.out]; exact hlt)).d := by
        have h := congrArg (fun l : List SeD => l[k]?) HE.out
        simpa [List.getElem?_map, List.getElem?_eq_getElem (show k < kv1.length by rw [HL1.out]; exact hlt), List.getElem?_eq_getElem (show k < kv2.length by rw [HL2.out]; exact hlt)] using h
      have m1 : kv1[k]'(by rw [HL1.out]; exact hlt) ∈ kv1 := List.getElem_mem _
      have m2 : kv2[k]'(by rw [HL2.out]; exact hlt) ∈ kv2 := List.getElem_mem _
      generalize kv1[k]'(by rw [HL1.out]; exact hlt) = x at at1 exy m1
      generalize kv2[k]'(by rw [HL2.out]; exact hlt) = y at at2 exy m2
      have HXY : Hid (x.d = y.d) := exy
      have HO1 : Hid (∀ W, Below wr.heap.size wr W → RowsO W B1 (seR x)) := fun W h => ((H1.out wr HBW.out).below h).item m1
      have HO2 : Hid (∀ W, Below wr.heap.size wr W → RowsO W B2 (seR y)) := fun W h => ((H2.out wr HBW.out).below h).item m2
      have HSZ : Hid (SeLim x.d) := HS.out _ m1
      have a0 : wr.cell? ⟨g1, k * 8, none⟩ = some (.int .i64 x.d.qmt) := at1.c0
      have a1 : wr.cell? ⟨g1, k * 8 + 1, none⟩ = some (.string x.d.qpa) := at1.c1
      have a2 : wr.cell? ⟨g1, k * 8 + 2, none⟩ = some (x.v2) := at1.c2
      have a3 : wr.cell? ⟨g1, k * 8 + 3, none⟩ = some (.string x.d.qbd) := at1.c3
      have a4 : wr.cell? ⟨g1, k * 8 + 4, none⟩ = some (.int .i64 x.d.rst) := at1.c4
      have a5 : wr.cell? ⟨g1, k * 8 + 5, none⟩ = some (x.v5) := at1.c5
      have a6 : wr.cell? ⟨g1, k * 8 + 6, none⟩ = some (.string x.d.rbd) := at1.c6
      have a7 : wr.cell? ⟨g1, k * 8 + 7, none⟩ = some (.int .i64 x.d.tim) := at1.c7
      have b0 : wr.cell? ⟨g2, k * 8, none⟩ = some (.int .i64 y.d.qmt) := at2.c0
      have b1 : wr.cell? ⟨g2, k * 8 + 1, none⟩ = some (.string y.d.qpa) := at2.c1
      have b2 : wr.cell? ⟨g2, k * 8 + 2, none⟩ = some (y.v2) := at2.c2
      have b3 : wr.cell? ⟨g2, k * 8 + 3, none⟩ = some (.string y.d.qbd) := at2.c3
      have b4 : wr.cell? ⟨g2, k * 8 + 4, none⟩ = some (.int .i64 y.d.rst) := at2.c4
      have b5 : wr.cell? ⟨g2, k * 8 + 5, none⟩ = some (y.v5) := at2.c5
      have b6 : wr.cell? ⟨g2, k * 8 + 6, none⟩ = some (.string y.d.rbd) := at2.c6
      have b7 : wr.cell? ⟨g2, k * 8 + 7, none⟩ = some (.int .i64 y.d.tim) := at2.c7
      clear at1 at2 m1 m2 ev1 ev2 exy
      have HA : Hid (∀ w0 w1, Below wr.heap.size wr w0 → Below w0.heap.size w0 w1 → (w1.cell? ⟨g1, k * 8, none⟩ = some (.int .i64 x.d.qmt) ∧ w1.cell? ⟨g1, k * 8 + 1, none⟩ = some (.string x.d.qpa) ∧ w1.cell? ⟨g1, k * 8 + 2, none⟩ = some (x.v2) ∧ w1.cell? ⟨g1, k * 8 + 3, none⟩ = some (.string x.d.qbd) ∧ w1.cell? ⟨g1, k * 8 + 4, none⟩ = some (.int .i64 x.d.rst) ∧ w1.cell? ⟨g1, k * 8 + 5, none⟩ = some (x.v5) ∧ w1.cell? ⟨g1, k * 8 + 6, none⟩ = some (.string x.d.rbd) ∧ w1.cell? ⟨g1, k * 8 + 7, none⟩ = some (.int .i64 x.d.tim) ∧ w1.cell? ⟨g2, k * 8, none⟩ = some (.int .i64 y.d.qmt) ∧ w1.cell? ⟨g2, k * 8 + 1, none⟩ = some (.string y.d.qpa) ∧ w1.cell? ⟨g2, k * 8 + 2, none⟩ = some (y.v2) ∧ w1.cell? ⟨g2, k * 8 + 3, none⟩ = some (.string y.d.qbd) ∧ w1.cell? ⟨g2, k * 8 + 4, none⟩ = some (.int .i64 y.d.rst) ∧ w1.cell? ⟨g2, k * 8 + 5, none⟩ = some (y.v5) ∧ w1.cell? ⟨g2, k * 8 + 6, none⟩ = some (.string y.d.rbd) ∧ w1.cell? ⟨g2, k * 8 + 7, none⟩ = some (.int .i64 y.d.tim)) ∧ Below wr.heap.size wr w1) := fun w0 w1 h h' => by
        have hx := h.trans (h'.mono h.size)
        exact ⟨⟨by rw [hx.cell (p := ⟨g1, k * 8, none⟩) hg1]; exact a0, by rw [hx.cell (p := ⟨g1, k * 8 + 1, none⟩) hg1]; exact a1, by rw [hx.cell (p := ⟨g1, k * 8 + 2, none⟩) hg1]; exact a2, by rw [hx.cell (p := ⟨g1, k * 8 + 3, none⟩) hg1]; exact a3, by rw [hx.cell (p := ⟨g1, k * 8 + 4, none⟩) hg1]; exact a4, by rw [hx.cell (p := ⟨g1, k * 8 + 5, none⟩) hg1]; exact a5, by rw [hx.cell (p := ⟨g1, k * 8 + 6, none⟩) hg1]; exact a6, by rw [hx.cell (p := ⟨g1, k * 8 + 7, none⟩) hg1]; exact a7, by rw [hx.cell (p := ⟨g2, k * 8, none⟩) hg2]; exact b0, by rw [hx.cell (p := ⟨g2, k * 8 + 1, none⟩) hg2]; exact b1, by rw [hx.cell (p := ⟨g2, k * 8 + 2, none⟩) hg2]; exact b2, by rw [hx.cell (p := ⟨g2, k * 8 + 3, none⟩) hg2]; exact b3, by rw [hx.cell (p := ⟨g2, k * 8 + 4, none⟩) hg2]; exact b4, by rw [hx.cell (p := ⟨g2, k * 8 + 5, none⟩) hg2]; exact b5, by rw [hx.cell (p := ⟨g2, k * 8 + 6, none⟩) hg2]; exact b6, by rw [hx.cell (p := ⟨g2, k * 8 + 7, none⟩) hg2]; exact b7⟩, hx⟩
      go_wp2
      go_region_held3 (fun w' => w'.cell? ⟨g1, k * 8, none⟩ = some (.int .i64 x.d.qmt) ∧ w'.cell? ⟨g1, k * 8 + 1, none⟩ = some (.string x.d.qpa) ∧ w'.cell? ⟨g1, k * 8 + 2, none⟩ = some (x.v2) ∧ w'.cell? ⟨g1, k * 8 + 3, none⟩ = some (.string x.d.qbd) ∧ w'.cell? ⟨g1, k * 8 + 4, none⟩ = some (.int .i64 x.d.rst) ∧ w'.cell? ⟨g1, k * 8 + 5, none⟩ = some (x.v5) ∧ w'.cell? ⟨g1, k * 8 + 6, none⟩ = some (.string x.d.rbd) ∧ w'.cell? ⟨g1, k * 8 + 7, none⟩ = some (.int .i64 x.d.tim) ∧ w'.cell? ⟨g2, k * 8, none⟩ = some (.int .i64 y.d.qmt) ∧ w'.cell? ⟨g2, k * 8 + 1, none⟩ = some (.string y.d.qpa) ∧ w'.cell? ⟨g2, k * 8 + 2, none⟩ = some (y.v2) ∧ w'.cell? ⟨g2, k * 8 + 3, none⟩ = some (.string y.d.qbd) ∧ w'.cell? ⟨g2, k * 8 + 4, none⟩ = some (.int .i64 y.d.rst) ∧ w'.cell? ⟨g2, k * 8 + 5, none⟩ = some (y.v5) ∧ w'.cell? ⟨g2, k * 8 + 6, none⟩ = some (.string y.d.rbd) ∧ w'.cell? ⟨g2, k * 8 + 7, none⟩ = some (.int .i64 y.d.tim)) (first | assumption | go_keep) (first | (go_at_call 59; refine (eqSeen_any x.d x y B1 B2 _ rfl HXY.out.symm (HO1.out _ ((Below.refl _ wr).drew)) (HO2.out _ ((Below.refl _ wr).drew)) HSZ.out).mono ?_; rintro e w1 ⟨rfl, hb1⟩; obtain ⟨hcc, hbx⟩ := HA.out _ w1 ((Below.refl _ wr).drew) hb1))
      go_wp2
      go_roundw
      case rel => exact ⟨k + 1, by omega, by go_num, HBW.out.trans (hbx.mono HBW.out.size)⟩
      case measure => simp [intOf]; omega
    · go_wp2
      go_ret
      exact ⟨rfl, HBW.out⟩

end Go.Proofs.YtajccgffallajaaGreat

namespace Go.Proofs.YtajccgffallajaaGreat
open Go.RowKit
open Go.Lib hiding intOf

/-- Short enough to be copied. -/
structure RpLen (d : RpD) : Prop where
  qfs : d.qfs.length ≤ 1048576
  rfs : d.rfs.length ≤ 1048576
  oxs : d.oxs.length ≤ 1048576
  oys : d.oys.length ≤ 1048576
  ofs : d.ofs.length ≤ 1048576

set_option maxHeartbeats 8000000 in
set_option maxRecDepth 100000 in
theorem toReply_any (d : RpD) (a3 : Option Addr) (c3 : Nat) (a6 : Option Addr) (c6 : Nat) (a11 : Option Addr) (c11 : Nat) (a12 : Option Addr) (c12 : Nat) (a14 : Option Addr) (c14 : Nat) (B : Nat) (w : World) (h3 : ArgF w B a3 d.qfs.length d.qfs) (h6 : ArgF w B a6 d.rfs.length d.rfs) (h11 : ArgT w B a11 d.oxs.length d.oxs) (h12 : ArgT w B a12 d.oys.length d.oys) (h14 : ArgF w B a14 d.ofs.length d.ofs) (hB : B ≤ w.heap.size) (hn : RpLen d) :
    Calls Tryz.prog 48 #[.agg #[.int .i64 d.cli, .int .i64 d.qmt, .string d.qpa, .slice a3 d.qfs.length c3, .string d.qbd, .int .i64 d.rst, .slice a6 d.rfs.length c6, .string d.rbd, .int .i64 d.knd, .int .i64 d.tim, .string d.opa, .slice a11 d.oxs.length c11, .slice a12 d.oys.length c12, .int .i64 d.ost, .slice a14 d.ofs.length c14, .string d.obd, .int .i64 d.otm, .int .i64 d.bns]] w fun e w' => ∃ x : RpV, e = .returned (.agg #[.int .i64 x.d.cli, .int .i64 x.d.qmt, .string x.d.qpa, x.v3, .string x.d.qbd, .int .i64 x.d.rst, x.v6, .string x.d.rbd, .int .i64 x.d.knd, .int .i64 x.d.tim, .string x.d.opa, x.v11, x.v12, .int .i64 x.d.ost, x.v14, .string x.d.obd, .int .i64 x.d.otm, .int .i64 x.d.bns]) ∧ x.d = d ∧ RowsO w' w.heap.size (rpR x) ∧ Below w.heap.size w w' := by
  have HA3 : Hid (∀ W, Below w.heap.size w W → ArgF W B a3 d.qfs.length d.qfs) := fun W h => h3.below (h.mono hB)
  have HA6 : Hid (∀ W, Below w.heap.size w W → ArgF W B a6 d.rfs.length d.rfs) := fun W h => h6.below (h.mono hB)
  have HA11 : Hid (∀ W, Below w.heap.size w W → ArgT W B a11 d.oxs.length d.oxs) := fun W h => h11.below (h.mono hB)
  have HA12 : Hid (∀ W, Below w.heap.size w W → ArgT W B a12 d.oys.length d.oys) := fun W h => h12.below (h.mono hB)
  have HA14 : Hid (∀ W, Below w.heap.size w W → ArgF W B a14 d.ofs.length d.ofs) := fun W h => h14.below (h.mono hB)
  have HBB : Hid (∀ W, Below w.heap.size w W → B ≤ W.heap.size) := fun W h => Nat.le_trans hB h.size
  clear h3 h6 h11 h12 h14
  have hb0 : Below w.heap.size w w := Below.refl _ _
  go_enter Tryz.func48, Tryz.ntmps48
  go_upto_region 1 with fail
  obtain ⟨qv1, hqv1⟩ : ∃ q, q = (w).heap.size := ⟨_, rfl⟩
  obtain ⟨w1, hW1⟩ : ∃ W, W = (w).alloc (.cells #[.int .i64 d.cli, .int .i64 d.qmt, .string d.qpa, .slice a3 d.qfs.length c3, .string d.qbd, .int .i64 d.rst, .slice a6 d.rfs.length c6, .string d.rbd, .int .i64 d.knd, .int .i64 d.tim, .string d.opa, .slice a11 d.oxs.length c11, .slice a12 d.oys.length c12, .int .i64 d.ost, .slice a14 d.ofs.length c14, .string d.obd, .int .i64 d.otm, .int .i64 d.bns] 107) := ⟨_, rfl⟩
  have hz1 : (w).heap.size = qv1 := hqv1.symm
  first | rw [← hW1, ← hqv1] | rw [← hW1]
  have hs1 : w1.heap.size = qv1 + 1 := by rw [hW1, ← hz1]; simp
  have bw : Below (w).heap.size (w) w1 := by rw [hW1]; exact (Below.refl _ _).alloc (Nat.le_refl _) _
  have hb1 : Below w.heap.size w (w1) := hb0.trans (bw.mono hb0.size)
  have HBv1_1 : Hid ((w1).heap[qv1]? = some (.cells #[.int .i64 d.cli, .int .i64 d.qmt, .string d.qpa, .slice a3 d.qfs.length c3, .string d.qbd, .int .i64 d.rst, .slice a6 d.rfs.length c6, .string d.rbd, .int .i64 d.knd, .int .i64 d.tim, .string d.opa, .slice a11 d.oxs.length c11, .slice a12 d.oys.length c12, .int .i64 d.ost, .slice a14 d.ofs.length c14, .string d.obd, .int .i64 d.otm, .int .i64 d.bns] 107)) := by show _ = _; rw [hW1, ← hz1]; exact heap_alloc_new _ _
  clear hb0 bw hW1 hz1
  obtain ⟨qv2, hqv2⟩ : ∃ q, q = qv1 + 1 := ⟨_, rfl⟩
  obtain ⟨w2, hW2⟩ : ∃ W, W = (w1).alloc (.cells #[.int .i64 0, .int .i64 0, .string ⟨#[]⟩, .slice none 0 0, .string ⟨#[]⟩, .int .i64 0, .slice none 0 0, .string ⟨#[]⟩, .int .i64 0, .int .i64 0, .string ⟨#[]⟩, .slice none 0 0, .slice none 0 0, .int .i64 0, .slice none 0 0, .string ⟨#[]⟩, .int .i64 0, .int .i64 0] 68) := ⟨_, rfl⟩
  have hz2 : (w1).heap.size = qv2 := by rw [hqv2]; exact hs1
  first | rw [← hW2, ← hqv2] | rw [← hW2]
  have hs2 : w2.heap.size = qv2 + 1 := by rw [hW2, ← hz2]; simp
  have bw : Below (w1).heap.size (w1) w2 := by rw [hW2]; exact (Below.refl _ _).alloc (Nat.le_refl _) _
  have hb2 : Below w.heap.size w (w2) := hb1.trans (bw.mono hb1.size)
  have HBv1_2 : Hid ((w2).heap[qv1]? = some (.cells #[.int .i64 d.cli, .int .i64 d.qmt, .string d.qpa, .slice a3 d.qfs.length c3, .string d.qbd, .int .i64 d.rst, .slice a6 d.rfs.length c6, .string d.rbd, .int .i64 d.knd, .int .i64 d.tim, .string d.opa, .slice a11 d.oxs.length c11, .slice a12 d.oys.length c12, .int .i64 d.ost, .slice a14 d.ofs.length c14, .string d.obd, .int .i64 d.otm, .int .i64 d.bns] 107)) := blk_below HBv1_1.out bw
  have HNv1v2 : Hid (qv1 ≠ qv2) := fun e => by have h1 := (Array.getElem?_eq_some_iff.1 HBv1_1.out).1; omega
  have HBv2_2 : Hid ((w2).heap[qv2]? = some (.cells #[.int .i64 0, .int .i64 0, .string ⟨#[]⟩, .slice none 0 0, .string ⟨#[]⟩, .int .i64 0, .slice none 0 0, .string ⟨#[]⟩, .int .i64 0, .int .i64 0, .string ⟨#[]⟩, .slice none 0 0, .slice none 0 0, .int .i64 0, .slice none 0 0, .string ⟨#[]⟩, .int .i64 0, .int .i64 0] 68)) := by show _ = _; rw [hW2, ← hz2]; exact heap_alloc_new _ _
  have HGv2 : Hid (w.heap.size ≤ qv2) := by show _ ≤ _; rw [← hz2]; exact hb1.size
  clear hb1 HBv1_1 bw hW2 hz2
  clear hs2 hqv2 hs1 hqv1
  go_upto_region 2 with fail
  obtain ⟨qv3, hqv3⟩ : ∃ q, q = (w2).heap.size := ⟨_, rfl⟩
  obtain ⟨w3, hW3⟩ : ∃ W, W = (w2).alloc (.cells #[.int .i64 0, .int .i64 0, .string ⟨#[]⟩, .slice none 0 0, .string ⟨#[]⟩, .int .i64 0, .slice none 0 0, .string ⟨#[]⟩, .int .i64 0, .int .i64 0, .string ⟨#[]⟩, .slice none 0 0, .slice none 0 0, .int .i64 0, .slice none 0 0, .string ⟨#[]⟩, .int .i64 0, .int .i64 0] 68) := ⟨_, rfl⟩
  have hz3 : (w2).heap.size = qv3 := hqv3.symm
  first | rw [← hW3, ← hqv3] | rw [← hW3]
  have hs3 : w3.heap.size = qv3 + 1 := by rw [hW3, ← hz3]; simp
  have bw : Below (w2).heap.size (w2) w3 := by rw [hW3]; exact (Below.refl _ _).alloc (Nat.le_refl _) _
  have hb3 : Below w.heap.size w (w3) := hb2.trans (bw.mono hb2.size)
  have HBv1_3 : Hid ((w3).heap[qv1]? = some (.cells #[.int .i64 d.cli, .int .i64 d.qmt, .string d.qpa, .slice a3 d.qfs.length c3, .string d.qbd, .int .i64 d.rst, .slice a6 d.rfs.length c6, .string d.rbd, .int .i64 d.knd, .int .i64 d.tim, .string d.opa, .slice a11 d.oxs.length c11, .slice a12 d.oys.length c12, .int .i64 d.ost, .slice a14 d.ofs.length c14, .string d.obd, .int .i64 d.otm, .int .i64 d.bns] 107)) := blk_below HBv1_2.out bw
  have HBv2_3 : Hid ((w3).heap[qv2]? = some (.cells #[.int .i64 0, .int .i64 0, .string ⟨#[]⟩, .slice none 0 0, .string ⟨#[]⟩, .int .i64 0, .slice none 0 0, .string ⟨#[]⟩, .int .i64 0, .int .i64 0, .string ⟨#[]⟩, .slice none 0 0, .slice none 0 0, .int .i64 0, .slice none 0 0, .string ⟨#[]⟩, .int .i64 0, .int .i64 0] 68)) := blk_below HBv2_2.out bw
  have HNv1v3 : Hid (qv1 ≠ qv3) := fun e => by have h1 := (Array.getElem?_eq_some_iff.1 HBv1_2.out).1; omega
  have HNv2v3 : Hid (qv2 ≠ qv3) := fun e => by have h1 := (Array.getElem?_eq_some_iff.1 HBv2_2.out).1; omega
  have HBv3_3 : Hid ((w3).heap[qv3]? = some (.cells #[.int .i64 0, .int .i64 0, .string ⟨#[]⟩, .slice none 0 0, .string ⟨#[]⟩, .int .i64 0, .slice none 0 0, .string ⟨#[]⟩, .int .i64 0, .int .i64 0, .string ⟨#[]⟩, .slice none 0 0, .slice none 0 0, .int .i64 0, .slice none 0 0, .string ⟨#[]⟩, .int .i64 0, .int .i64 0] 68)) := by show _ = _; rw [hW3, ← hz3]; exact heap_alloc_new _ _
  have HGv3 : Hid (w.heap.size ≤ qv3) := by show _ ≤ _; rw [← hz3]; exact hb2.size
  clear hb2 HBv1_2 HBv2_2 bw hW3 hz3
  clear hs3 hqv3
  have cv1_0 : (w3).cell? ⟨qv1, 0, none⟩ = some (.int .i64 d.cli) := (cell_of HBv1_3.out 0).trans rfl
  have cv3_0 : (w3).cell? ⟨qv3, 0, none⟩ = some (.int .i64 0) := (cell_of HBv3_3.out 0).trans rfl
  have fcv3_0 : (w3).frozen? ⟨qv3, 0, none⟩ = false := frozen_of HBv3_3.out 0
  go_upto_region 3 with fail
  obtain ⟨w4, hW4⟩ : ∃ W, W = (w3).setCell ⟨qv3, 0, none⟩ (.int .i64 d.cli) := ⟨_, rfl⟩
  rw [← hW4]
  have hb4 : Below w.heap.size w (w4) := by rw [hW4]; exact (hb3.setCell (p := ⟨qv3, 0, none⟩) HGv3.out _)
  have HBv1_4 : Hid ((w4).heap[qv1]? = some (.cells #[.int .i64 d.cli, .int .i64 d.qmt, .string d.qpa, .slice a3 d.qfs.length c3, .string d.qbd, .int .i64 d.rst, .slice a6 d.rfs.length c6, .string d.rbd, .int .i64 d.knd, .int .i64 d.tim, .string d.opa, .slice a11 d.oxs.length c11, .slice a12 d.oys.length c12, .int .i64 d.ost, .slice a14 d.ofs.length c14, .string d.obd, .int .i64 d.otm, .int .i64 d.bns] 107)) := by show _ = _; rw [hW4, heap_setCell_other _ _ _ _ HNv1v3.out]; exact HBv1_3.out
  have HBv2_4 : Hid ((w4).heap[qv2]? = some (.cells #[.int .i64 0, .int .i64 0, .string ⟨#[]⟩, .slice none 0 0, .string ⟨#[]⟩, .int .i64 0, .slice none 0 0, .string ⟨#[]⟩, .int .i64 0, .int .i64 0, .string ⟨#[]⟩, .slice none 0 0, .slice none 0 0, .int .i64 0, .slice none 0 0, .string ⟨#[]⟩, .int .i64 0, .int .i64 0] 68)) := by show _ = _; rw [hW4, heap_setCell_other _ _ _ _ HNv2v3.out]; exact HBv2_3.out
  have HBv3_4 : Hid ((w4).heap[qv3]? = some (.cells #[.int .i64 d.cli, .int .i64 0, .string ⟨#[]⟩, .slice none 0 0, .string ⟨#[]⟩, .int .i64 0, .slice none 0 0, .string ⟨#[]⟩, .int .i64 0, .int .i64 0, .string ⟨#[]⟩, .slice none 0 0, .slice none 0 0, .int .i64 0, .slice none 0 0, .string ⟨#[]⟩, .int .i64 0, .int .i64 0] 68)) := by show _ = _; rw [hW4]; have h := heap_set _ _ 0 _ _ _ (.int .i64 d.cli) HBv3_3.out; simpa using h
  clear hb3 HBv1_3 HBv2_3 HBv3_3 hW4
  clear cv1_0 cv3_0 fcv3_0
  have cv1_1 : (w4).cell? ⟨qv1, 1, none⟩ = some (.int .i64 d.qmt) := (cell_of HBv1_4.out 1).trans rfl
  have cv1_2 : (w4).cell? ⟨qv1, 2, none⟩ = some (.string d.qpa) := (cell_of HBv1_4.out 2).trans rfl
  have cv1_3 : (w4).cell? ⟨qv1, 3, none⟩ = some (.slice a3 d.qfs.length c3) := (cell_of HBv1_4.out 3).trans rfl
  have cv1_4 : (w4).cell? ⟨qv1, 4, none⟩ = some (.string d.qbd) := (cell_of HBv1_4.out 4).trans rfl
  go_wp2_with fail
  refine (toReq_any d.qmt d.qpa a3 d.qfs.length c3 d.qbd d.qfs B _ (HA3.out _ hb4) (HBB.out _ hb4) hn.qfs).mono ?_
  rintro e w5 ⟨vv, rfl, hown, bw⟩
  obtain ⟨o3, p3, rfl⟩ := slice_of_owns hown
  have HRN : Hid (RowsO w5 w.heap.size ([(⟨135, 2, (.slice o3 d.qfs.length p3), d.qfs.length, flatF d.qfs⟩ : Rw)])) := RowsO.wide (RowsO.one (r := (⟨135, 2, (.slice o3 d.qfs.length p3), d.qfs.length, flatF d.qfs⟩ : Rw)) hown) hb4.size
  have HT1 : Hid (∀ r ∈ ([(⟨135, 2, (.slice o3 d.qfs.length p3), d.qfs.length, flatF d.qfs⟩ : Rw)]), 68 ≠ r.T) := by
    intro r hr
    simp only [List.mem_cons, List.not_mem_nil, or_false] at hr
    rcases hr with rfl
    · exact (by decide : (68 : TypeId) ≠ 135)
  clear hown
  have hb5 : Below w.heap.size w (w5) := hb4.trans (bw.mono hb4.size)
  have HBv1_5 : Hid ((w5).heap[qv1]? = some (.cells #[.int .i64 d.cli, .int .i64 d.qmt, .string d.qpa, .slice a3 d.qfs.length c3, .string d.qbd, .int .i64 d.rst, .slice a6 d.rfs.length c6, .string d.rbd, .int .i64 d.knd, .int .i64 d.tim, .string d.opa, .slice a11 d.oxs.length c11, .slice a12 d.oys.length c12, .int .i64 d.ost, .slice a14 d.ofs.length c14, .string d.obd, .int .i64 d.otm, .int .i64 d.bns] 107)) := blk_below HBv1_4.out bw
  have HBv2_5 : Hid ((w5).heap[qv2]? = some (.cells #[.int .i64 0, .int .i64 0, .string ⟨#[]⟩, .slice none 0 0, .string ⟨#[]⟩, .int .i64 0, .slice none 0 0, .string ⟨#[]⟩, .int .i64 0, .int .i64 0, .string ⟨#[]⟩, .slice none 0 0, .slice none 0 0, .int .i64 0, .slice none 0 0, .string ⟨#[]⟩, .int .i64 0, .int .i64 0] 68)) := blk_below HBv2_4.out bw
  have HBv3_5 : Hid ((w5).heap[qv3]? = some (.cells #[.int .i64 d.cli, .int .i64 0, .string ⟨#[]⟩, .slice none 0 0, .string ⟨#[]⟩, .int .i64 0, .slice none 0 0, .string ⟨#[]⟩, .int .i64 0, .int .i64 0, .string ⟨#[]⟩, .slice none 0 0, .slice none 0 0, .int .i64 0, .slice none 0 0, .string ⟨#[]⟩, .int .i64 0, .int .i64 0] 68)) := blk_below HBv3_4.out bw
  clear hb4 HBv1_4 HBv2_4 HBv3_4 bw
  have ER_5 : Hid (RowsO (w5) w.heap.size ([(⟨135, 2, (.slice o3 d.qfs.length p3), d.qfs.length, flatF d.qfs⟩ : Rw)])) := HRN.out
  clear HRN
  clear cv1_1 cv1_2 cv1_3 cv1_4
  have cv3_1 : (w5).cell? ⟨qv3, 1, none⟩ = some (.int .i64 0) := (cell_of HBv3_5.out 1).trans rfl
  have fcv3_1 : (w5).frozen? ⟨qv3, 1, none⟩ = false := frozen_of HBv3_5.out 1
  have cv3_2 : (w5).cell? ⟨qv3, 2, none⟩ = some (.string ⟨#[]⟩) := (cell_of HBv3_5.out 2).trans rfl
  have fcv3_2 : (w5).frozen? ⟨qv3, 2, none⟩ = false := frozen_of HBv3_5.out 2
  have cv3_3 : (w5).cell? ⟨qv3, 3, none⟩ = some (.slice none 0 0) := (cell_of HBv3_5.out 3).trans rfl
  have fcv3_3 : (w5).frozen? ⟨qv3, 3, none⟩ = false := frozen_of HBv3_5.out 3
  have cv3_4 : (w5).cell? ⟨qv3, 4, none⟩ = some (.string ⟨#[]⟩) := (cell_of HBv3_5.out 4).trans rfl
  have fcv3_4 : (w5).frozen? ⟨qv3, 4, none⟩ = false := frozen_of HBv3_5.out 4
  go_upto_region 4 with fail
  obtain ⟨w6, hW6⟩ : ∃ W, W = (w5).setCell ⟨qv3, 1, none⟩ (.int .i64 d.qmt) := ⟨_, rfl⟩
  rw [← hW6]
  have hb6 : Below w.heap.size w (w6) := by rw [hW6]; exact (hb5.setCell (p := ⟨qv3, 1, none⟩) HGv3.out _)
  have HBv1_6 : Hid ((w6).heap[qv1]? = some (.cells #[.int .i64 d.cli, .int .i64 d.qmt, .string d.qpa, .slice a3 d.qfs.length c3, .string d.qbd, .int .i64 d.rst, .slice a6 d.rfs.length c6, .string d.rbd, .int .i64 d.knd, .int .i64 d.tim, .string d.opa, .slice a11 d.oxs.length c11, .slice a12 d.oys.length c12, .int .i64 d.ost, .slice a14 d.ofs.length c14, .string d.obd, .int .i64 d.otm, .int .i64 d.bns] 107)) := by show _ = _; rw [hW6, heap_setCell_other _ _ _ _ HNv1v3.out]; exact HBv1_5.out
  have HBv2_6 : Hid ((w6).heap[qv2]? = some (.cells #[.int .i64 0, .int .i64 0, .string ⟨#[]⟩, .slice none 0 0, .string ⟨#[]⟩, .int .i64 0, .slice none 0 0, .string ⟨#[]⟩, .int .i64 0, .int .i64 0, .string ⟨#[]⟩, .slice none 0 0, .slice none 0 0, .int .i64 0, .slice none 0 0, .string ⟨#[]⟩, .int .i64 0, .int .i64 0] 68)) := by show _ = _; rw [hW6, heap_setCell_other _ _ _ _ HNv2v3.out]; exact HBv2_5.out
  have ER_6 : Hid (RowsO (w6) w.heap.size ([(⟨135, 2, (.slice o3 d.qfs.length p3), d.qfs.length, flatF d.qfs⟩ : Rw)])) := by show RowsO _ _ _; rw [hW6]; exact RowsO.other ER_5.out HBv3_5.out HT1.out
  have HBv3_6 : Hid ((w6).heap[qv3]? = some (.cells #[.int .i64 d.cli, .int .i64 d.qmt, .string ⟨#[]⟩, .slice none 0 0, .string ⟨#[]⟩, .int .i64 0, .slice none 0 0, .string ⟨#[]⟩, .int .i64 0, .int .i64 0, .string ⟨#[]⟩, .slice none 0 0, .slice none 0 0, .int .i64 0, .slice none 0 0, .string ⟨#[]⟩, .int .i64 0, .int .i64 0] 68)) := by show _ = _; rw [hW6]; have h := heap_set _ _ 1 _ _ _ (.int .i64 d.qmt) HBv3_5.out; simpa using h
  clear hb5 HBv1_5 HBv2_5 HBv3_5 ER_5 hW6
  obtain ⟨w7, hW7⟩ : ∃ W, W = (w6).setCell ⟨qv3, 2, none⟩ (.string d.qpa) := ⟨_, rfl⟩
  rw [← hW7]
  have hb7 : Below w.heap.size w (w7) := by rw [hW7]; exact (hb6.setCell (p := ⟨qv3, 2, none⟩) HGv3.out _)
  have HBv1_7 : Hid ((w7).heap[qv1]? = some (.cells #[.int .i64 d.cli, .int .i64 d.qmt, .string d.qpa, .slice a3 d.qfs.length c3, .string d.qbd, .int .i64 d.rst, .slice a6 d.rfs.length c6, .string d.rbd, .int .i64 d.knd, .int .i64 d.tim, .string d.opa, .slice a11 d.oxs.length c11, .slice a12 d.oys.length c12, .int .i64 d.ost, .slice a14 d.ofs.length c14, .string d.obd, .int .i64 d.otm, .int .i64 d.bns] 107)) := by show _ = _; rw [hW7, heap_setCell_other _ _ _ _ HNv1v3.out]; exact HBv1_6.out
  have HBv2_7 : Hid ((w7).heap[qv2]? = some (.cells #[.int .i64 0, .int .i64 0, .string ⟨#[]⟩, .slice none 0 0, .string ⟨#[]⟩, .int .i64 0, .slice none 0 0, .string ⟨#[]⟩, .int .i64 0, .int .i64 0, .string ⟨#[]⟩, .slice none 0 0, .slice none 0 0, .int .i64 0, .slice none 0 0, .string ⟨#[]⟩, .int .i64 0, .int .i64 0] 68)) := by show _ = _; rw [hW7, heap_setCell_other _ _ _ _ HNv2v3.out]; exact HBv2_6.out
  have ER_7 : Hid (RowsO (w7) w.heap.size ([(⟨135, 2, (.slice o3 d.qfs.length p3), d.qfs.length, flatF d.qfs⟩ : Rw)])) := by show RowsO _ _ _; rw [hW7]; exact RowsO.other ER_6.out HBv3_6.out HT1.out
  have HBv3_7 : Hid ((w7).heap[qv3]? = some (.cells #[.int .i64 d.cli, .int .i64 d.qmt, .string d.qpa, .slice none 0 0, .string ⟨#[]⟩, .int .i64 0, .slice none 0 0, .string ⟨#[]⟩, .int .i64 0, .int .i64 0, .string ⟨#[]⟩, .slice none 0 0, .slice none 0 0, .int .i64 0, .slice none 0 0, .string ⟨#[]⟩, .int .i64 0, .int .i64 0] 68)) := by show _ = _; rw [hW7]; have h := heap_set _ _ 2 _ _ _ (.string d.qpa) HBv3_6.out; simpa using h
  clear hb6 HBv1_6 HBv2_6 HBv3_6 ER_6 hW7
  obtain ⟨w8, hW8⟩ : ∃ W, W = (w7).setCell ⟨qv3, 3, none⟩ (.slice o3 d.qfs.length p3) := ⟨_, rfl⟩
  rw [← hW8]
  have hb8 : Below w.heap.size w (w8) := by rw [hW8]; exact (hb7.setCell (p := ⟨qv3, 3, none⟩) HGv3.out _)
  have HBv1_8 : Hid ((w8).heap[qv1]? = some (.cells #[.int .i64 d.cli, .int .i64 d.qmt, .string d.qpa, .slice a3 d.qfs.length c3, .string d.qbd, .int .i64 d.rst, .slice a6 d.rfs.length c6, .string d.rbd, .int .i64 d.knd, .int .i64 d.tim, .string d.opa, .slice a11 d.oxs.length c11, .slice a12 d.oys.length c12, .int .i64 d.ost, .slice a14 d.ofs.length c14, .string d.obd, .int .i64 d.otm, .int .i64 d.bns] 107)) := by show _ = _; rw [hW8, heap_setCell_other _ _ _ _ HNv1v3.out]; exact HBv1_7.out
  have HBv2_8 : Hid ((w8).heap[qv2]? = some (.cells #[.int .i64 0, .int .i64 0, .string ⟨#[]⟩, .slice none 0 0, .string ⟨#[]⟩, .int .i64 0, .slice none 0 0, .string ⟨#[]⟩, .int .i64 0, .int .i64 0, .string ⟨#[]⟩, .slice none 0 0, .slice none 0 0, .int .i64 0, .slice none 0 0, .string ⟨#[]⟩, .int .i64 0, .int .i64 0] 68)) := by show _ = _; rw [hW8, heap_setCell_other _ _ _ _ HNv2v3.out]; exact HBv2_7.out
  have ER_8 : Hid (RowsO (w8) w.heap.size ([(⟨135, 2, (.slice o3 d.qfs.length p3), d.qfs.length, flatF d.qfs⟩ : Rw)])) := by show RowsO _ _ _; rw [hW8]; exact RowsO.other ER_7.out HBv3_7.out HT1.out
  have HBv3_8 : Hid ((w8).heap[qv3]? = some (.cells #[.int .i64 d.cli, .int .i64 d.qmt, .string d.qpa, .slice o3 d.qfs.length p3, .string ⟨#[]⟩, .int .i64 0, .slice none 0 0, .string ⟨#[]⟩, .int .i64 0, .int .i64 0, .string ⟨#[]⟩, .slice none 0 0, .slice none 0 0, .int .i64 0, .slice none 0 0, .string ⟨#[]⟩, .int .i64 0, .int .i64 0] 68)) := by show _ = _; rw [hW8]; have h := heap_set _ _ 3 _ _ _ (.slice o3 d.qfs.length p3) HBv3_7.out; simpa using h
  clear hb7 HBv1_7 HBv2_7 HBv3_7 ER_7 hW8
  obtain ⟨w9, hW9⟩ : ∃ W, W = (w8).setCell ⟨qv3, 4, none⟩ (.string d.qbd) := ⟨_, rfl⟩
  rw [← hW9]
  have hb9 : Below w.heap.size w (w9) := by rw [hW9]; exact (hb8.setCell (p := ⟨qv3, 4, none⟩) HGv3.out _)
  have HBv1_9 : Hid ((w9).heap[qv1]? = some (.cells #[.int .i64 d.cli, .int .i64 d.qmt, .string d.qpa, .slice a3 d.qfs.length c3, .string d.qbd, .int .i64 d.rst, .slice a6 d.rfs.length c6, .string d.rbd, .int .i64 d.knd, .int .i64 d.tim, .string d.opa, .slice a11 d.oxs.length c11, .slice a12 d.oys.length c12, .int .i64 d.ost, .slice a14 d.ofs.length c14, .string d.obd, .int .i64 d.otm, .int .i64 d.bns] 107)) := by show _ = _; rw [hW9, heap_setCell_other _ _ _ _ HNv1v3.out]; exact HBv1_8.out
  have HBv2_9 : Hid ((w9).heap[qv2]? = some (.cells #[.int .i64 0, .int .i64 0, .string ⟨#[]⟩, .slice none 0 0, .string ⟨#[]⟩, .int .i64 0, .slice none 0 0, .string ⟨#[]⟩, .int .i64 0, .int .i64 0, .string ⟨#[]⟩, .slice none 0 0, .slice none 0 0, .int .i64 0, .slice none 0 0, .string ⟨#[]⟩, .int .i64 0, .int .i64 0] 68)) := by show _ = _; rw [hW9, heap_setCell_other _ _ _ _ HNv2v3.out]; exact HBv2_8.out
  have ER_9 : Hid (RowsO (w9) w.heap.size ([(⟨135, 2, (.slice o3 d.qfs.length p3), d.qfs.length, flatF d.qfs⟩ : Rw)])) := by show RowsO _ _ _; rw [hW9]; exact RowsO.other ER_8.out HBv3_8.out HT1.out
  have HBv3_9 : Hid ((w9).heap[qv3]? = some (.cells #[.int .i64 d.cli, .int .i64 d.qmt, .string d.qpa, .slice o3 d.qfs.length p3, .string d.qbd, .int .i64 0, .slice none 0 0, .string ⟨#[]⟩, .int .i64 0, .int .i64 0, .string ⟨#[]⟩, .slice none 0 0, .slice none 0 0, .int .i64 0, .slice none 0 0, .string ⟨#[]⟩, .int .i64 0, .int .i64 0] 68)) := by show _ = _; rw [hW9]; have h := heap_set _ _ 4 _ _ _ (.string d.qbd) HBv3_8.out; simpa using h
  clear hb8 HBv1_8 HBv2_8 HBv3_8 ER_8 hW9
  clear cv3_1 fcv3_1 cv3_2 fcv3_2 cv3_3 fcv3_3 cv3_4 fcv3_4
  have cv1_5 : (w9).cell? ⟨qv1, 5, none⟩ = some (.int .i64 d.rst) := (cell_of HBv1_9.out 5).trans rfl
  have cv1_6 : (w9).cell? ⟨qv1, 6, none⟩ = some (.slice a6 d.rfs.length c6) := (cell_of HBv1_9.out 6).trans rfl
  have cv1_7 : (w9).cell? ⟨qv1, 7, none⟩ = some (.string d.rbd) := (cell_of HBv1_9.out 7).trans rfl
  go_wp2_with fail
  refine (toResp_any d.rst a6 d.rfs.length c6 d.rbd d.rfs B _ (HA6.out _ hb9) (HBB.out _ hb9) hn.rfs).mono ?_
  rintro e w10 ⟨vv, rfl, hown, bw⟩
  obtain ⟨o6, p6, rfl⟩ := slice_of_owns hown
  have HRN : Hid (RowsO w10 w.heap.size ([(⟨135, 2, (.slice o3 d.qfs.length p3), d.qfs.length, flatF d.qfs⟩ : Rw), (⟨135, 2, (.slice o6 d.rfs.length p6), d.rfs.length, flatF d.rfs⟩ : Rw)])) := ER_9.out.more bw (RowsO.one (r := (⟨135, 2, (.slice o6 d.rfs.length p6), d.rfs.length, flatF d.rfs⟩ : Rw)) hown) (Nat.le_refl _) hb9.size
  have HT2 : Hid (∀ r ∈ ([(⟨135, 2, (.slice o3 d.qfs.length p3), d.qfs.length, flatF d.qfs⟩ : Rw), (⟨135, 2, (.slice o6 d.rfs.length p6), d.rfs.length, flatF d.rfs⟩ : Rw)]), 68 ≠ r.T) := by
    intro r hr
    simp only [List.mem_cons, List.not_mem_nil, or_false] at hr
    rcases hr with rfl | rfl
    · exact (by decide : (68 : TypeId) ≠ 135)
    · exact (by decide : (68 : TypeId) ≠ 135)
  clear hown
  have hb10 : Below w.heap.size w (w10) := hb9.trans (bw.mono hb9.size)
  have HBv1_10 : Hid ((w10).heap[qv1]? = some (.cells #[.int .i64 d.cli, .int .i64 d.qmt, .string d.qpa, .slice a3 d.qfs.length c3, .string d.qbd, .int .i64 d.rst, .slice a6 d.rfs.length c6, .string d.rbd, .int .i64 d.knd, .int .i64 d.tim, .string d.opa, .slice a11 d.oxs.length c11, .slice a12 d.oys.length c12, .int .i64 d.ost, .slice a14 d.ofs.length c14, .string d.obd, .int .i64 d.otm, .int .i64 d.bns] 107)) := blk_below HBv1_9.out bw
  have HBv2_10 : Hid ((w10).heap[qv2]? = some (.cells #[.int .i64 0, .int .i64 0, .string ⟨#[]⟩, .slice none 0 0, .string ⟨#[]⟩, .int .i64 0, .slice none 0 0, .string ⟨#[]⟩, .int .i64 0, .int .i64 0, .string ⟨#[]⟩, .slice none 0 0, .slice none 0 0, .int .i64 0, .slice none 0 0, .string ⟨#[]⟩, .int .i64 0, .int .i64 0] 68)) := blk_below HBv2_9.out bw
  have HBv3_10 : Hid ((w10).heap[qv3]? = some (.cells #[.int .i64 d.cli, .int .i64 d.qmt, .string d.qpa, .slice o3 d.qfs.length p3, .string d.qbd, .int .i64 0, .slice none 0 0, .string ⟨#[]⟩, .int .i64 0, .int .i64 0, .string ⟨#[]⟩, .slice none 0 0, .slice none 0 0, .int .i64 0, .slice none 0 0, .string ⟨#[]⟩, .int .i64 0, .int .i64 0] 68)) := blk_below HBv3_9.out bw
  have ER_10 : Hid (RowsO (w10) w.heap.size ([(⟨135, 2, (.slice o3 d.qfs.length p3), d.qfs.length, flatF d.qfs⟩ : Rw)])) := ER_9.out.below bw
  clear hb9 HBv1_9 HBv2_9 HBv3_9 ER_9 bw
  clear ER_10
  have ER_10 : Hid (RowsO (w10) w.heap.size ([(⟨135, 2, (.slice o3 d.qfs.length p3), d.qfs.length, flatF d.qfs⟩ : Rw), (⟨135, 2, (.slice o6 d.rfs.length p6), d.rfs.length, flatF d.rfs⟩ : Rw)])) := HRN.out
  clear HRN
  clear cv1_5 cv1_6 cv1_7
  have cv3_5 : (w10).cell? ⟨qv3, 5, none⟩ = some (.int .i64 0) := (cell_of HBv3_10.out 5).trans rfl
  have fcv3_5 : (w10).frozen? ⟨qv3, 5, none⟩ = false := frozen_of HBv3_10.out 5
  have cv3_6 : (w10).cell? ⟨qv3, 6, none⟩ = some (.slice none 0 0) := (cell_of HBv3_10.out 6).trans rfl
  have fcv3_6 : (w10).frozen? ⟨qv3, 6, none⟩ = false := frozen_of HBv3_10.out 6
  have cv3_7 : (w10).cell? ⟨qv3, 7, none⟩ = some (.string ⟨#[]⟩) := (cell_of HBv3_10.out 7).trans rfl
  have fcv3_7 : (w10).frozen? ⟨qv3, 7, none⟩ = false := frozen_of HBv3_10.out 7
  go_upto_region 5 with fail
  obtain ⟨w11, hW11⟩ : ∃ W, W = (w10).setCell ⟨qv3, 5, none⟩ (.int .i64 d.rst) := ⟨_, rfl⟩
  rw [← hW11]
  have hb11 : Below w.heap.size w (w11) := by rw [hW11]; exact (hb10.setCell (p := ⟨qv3, 5, none⟩) HGv3.out _)
  have HBv1_11 : Hid ((w11).heap[qv1]? = some (.cells #[.int .i64 d.cli, .int .i64 d.qmt, .string d.qpa, .slice a3 d.qfs.length c3, .string d.qbd, .int .i64 d.rst, .slice a6 d.rfs.length c6, .string d.rbd, .int .i64 d.knd, .int .i64 d.tim, .string d.opa, .slice a11 d.oxs.length c11, .slice a12 d.oys.length c12, .int .i64 d.ost, .slice a14 d.ofs.length c14, .string d.obd, .int .i64 d.otm, .int .i64 d.bns] 107)) := by show _ = _; rw [hW11, heap_setCell_other _ _ _ _ HNv1v3.out]; exact HBv1_10.out
  have HBv2_11 : Hid ((w11).heap[qv2]? = some (.cells #[.int .i64 0, .int .i64 0, .string ⟨#[]⟩, .slice none 0 0, .string ⟨#[]⟩, .int .i64 0, .slice none 0 0, .string ⟨#[]⟩, .int .i64 0, .int .i64 0, .string ⟨#[]⟩, .slice none 0 0, .slice none 0 0, .int .i64 0, .slice none 0 0, .string ⟨#[]⟩, .int .i64 0, .int .i64 0] 68)) := by show _ = _; rw [hW11, heap_setCell_other _ _ _ _ HNv2v3.out]; exact HBv2_10.out
  have ER_11 : Hid (RowsO (w11) w.heap.size ([(⟨135, 2, (.slice o3 d.qfs.length p3), d.qfs.length, flatF d.qfs⟩ : Rw), (⟨135, 2, (.slice o6 d.rfs.length p6), d.rfs.length, flatF d.rfs⟩ : Rw)])) := by show RowsO _ _ _; rw [hW11]; exact RowsO.other ER_10.out HBv3_10.out HT2.out
  have HBv3_11 : Hid ((w11).heap[qv3]? = some (.cells #[.int .i64 d.cli, .int .i64 d.qmt, .string d.qpa, .slice o3 d.qfs.length p3, .string d.qbd, .int .i64 d.rst, .slice none 0 0, .string ⟨#[]⟩, .int .i64 0, .int .i64 0, .string ⟨#[]⟩, .slice none 0 0, .slice none 0 0, .int .i64 0, .slice none 0 0, .string ⟨#[]⟩, .int .i64 0, .int .i64 0] 68)) := by show _ = _; rw [hW11]; have h := heap_set _ _ 5 _ _ _ (.int .i64 d.rst) HBv3_10.out; simpa using h
  clear hb10 HBv1_10 HBv2_10 HBv3_10 ER_10 hW11
  obtain ⟨w12, hW12⟩ : ∃ W, W = (w11).setCell ⟨qv3, 6, none⟩ (.slice o6 d.rfs.length p6) := ⟨_, rfl⟩
  rw [← hW12]
  have hb12 : Below w.heap.size w (w12) := by rw [hW12]; exact (hb11.setCell (p := ⟨qv3, 6, none⟩) HGv3.out _)
  have HBv1_12 : Hid ((w12).heap[qv1]? = some (.cells #[.int .i64 d.cli, .int .i64 d.qmt, .string d.qpa, .slice a3 d.qfs.length c3, .string d.qbd, .int .i64 d.rst, .slice a6 d.rfs.length c6, .string d.rbd, .int .i64 d.knd, .int .i64 d.tim, .string d.opa, .slice a11 d.oxs.length c11, .slice a12 d.oys.length c12, .int .i64 d.ost, .slice a14 d.ofs.length c14, .string d.obd, .int .i64 d.otm, .int .i64 d.bns] 107)) := by show _ = _; rw [hW12, heap_setCell_other _ _ _ _ HNv1v3.out]; exact HBv1_11.out
  have HBv2_12 : Hid ((w12).heap[qv2]? = some (.cells #[.int .i64 0, .int .i64 0, .string ⟨#[]⟩, .slice none 0 0, .string ⟨#[]⟩, .int .i64 0, .slice none 0 0, .string ⟨#[]⟩, .int .i64 0, .int .i64 0, .string ⟨#[]⟩, .slice none 0 0, .slice none 0 0, .int .i64 0, .slice none 0 0, .string ⟨#[]⟩, .int .i64 0, .int .i64 0] 68)) := by show _ = _; rw [hW12, heap_setCell_other _ _ _ _ HNv2v3.out]; exact HBv2_11.out
  have ER_12 : Hid (RowsO (w12) w.heap.size ([(⟨135, 2, (.slice o3 d.qfs.length p3), d.qfs.length, flatF d.qfs⟩ : Rw), (⟨135, 2, (.slice o6 d.rfs.length p6), d.rfs.length, flatF d.rfs⟩ : Rw)])) := by show RowsO _ _ _; rw [hW12]; exact RowsO.other ER_11.out HBv3_11.out HT2.out
  have HBv3_12 : Hid ((w12).heap[qv3]? = some (.cells #[.int .i64 d.cli, .int .i64 d.qmt, .string d.qpa, .slice o3 d.qfs.length p3, .string d.qbd, .int .i64 d.rst, .slice o6 d.rfs.length p6, .string ⟨#[]⟩, .int .i64 0, .int .i64 0, .string ⟨#[]⟩, .slice none 0 0, .slice none 0 0, .int .i64 0, .slice none 0 0, .string ⟨#[]⟩, .int .i64 0, .int .i64 0] 68)) := by show _ = _; rw [hW12]; have h := heap_set _ _ 6 _ _ _ (.slice o6 d.rfs.length p6) HBv3_11.out; simpa using h
  clear hb11 HBv1_11 HBv2_11 HBv3_11 ER_11 hW12
  obtain ⟨w13, hW13⟩ : ∃ W, W = (w12).setCell ⟨qv3, 7, none⟩ (.string d.rbd) := ⟨_, rfl⟩
  rw [← hW13]
  have hb13 : Below w.heap.size w (w13) := by rw [hW13]; exact (hb12.setCell (p := ⟨qv3, 7, none⟩) HGv3.out _)
  have HBv1_13 : Hid ((w13).heap[qv1]? = some (.cells #[.int .i64 d.cli, .int .i64 d.qmt, .string d.qpa, .slice a3 d.qfs.length c3, .string d.qbd, .int .i64 d.rst, .slice a6 d.rfs.length c6, .string d.rbd, .int .i64 d.knd, .int .i64 d.tim, .string d.opa, .slice a11 d.oxs.length c11, .slice a12 d.oys.length c12, .int .i64 d.ost, .slice a14 d.ofs.length c14, .string d.obd, .int .i64 d.otm, .int .i64 d.bns] 107)) := by show _ = _; rw [hW13, heap_setCell_other _ _ _ _ HNv1v3.out]; exact HBv1_12.out
  have HBv2_13 : Hid ((w13).heap[qv2]? = some (.cells #[.int .i64 0, .int .i64 0, .string ⟨#[]⟩, .slice none 0 0, .string ⟨#[]⟩, .int .i64 0, .slice none 0 0, .string ⟨#[]⟩, .int .i64 0, .int .i64 0, .string ⟨#[]⟩, .slice none 0 0, .slice none 0 0, .int .i64 0, .slice none 0 0, .string ⟨#[]⟩, .int .i64 0, .int .i64 0] 68)) := by show _ = _; rw [hW13, heap_setCell_other _ _ _ _ HNv2v3.out]; exact HBv2_12.out
  have ER_13 : Hid (RowsO (w13) w.heap.size ([(⟨135, 2, (.slice o3 d.qfs.length p3), d.qfs.length, flatF d.qfs⟩ : Rw), (⟨135, 2, (.slice o6 d.rfs.length p6), d.rfs.length, flatF d.rfs⟩ : Rw)])) := by show RowsO _ _ _; rw [hW13]; exact RowsO.other ER_12.out HBv3_12.out HT2.out
  have HBv3_13 : Hid ((w13).heap[qv3]? = some (.cells #[.int .i64 d.cli, .int .i64 d.qmt, .string d.qpa, .slice o3 d.qfs.length p3, .string d.qbd, .int .i64 d.rst, .slice o6 d.rfs.length p6, .string d.rbd, .int .i64 0, .int .i64 0, .string ⟨#[]⟩, .slice none 0 0, .slice none 0 0, .int .i64 0, .slice none 0 0, .string ⟨#[]⟩, .int .i64 0, .int .i64 0] 68)) := by show _ = _; rw [hW13]; have h := heap_set _ _ 7 _ _ _ (.string d.rbd) HBv3_12.out; simpa using h
  clear hb12 HBv1_12 HBv2_12 HBv3_12 ER_12 hW13
  clear cv3_5 fcv3_5 cv3_6 fcv3_6 cv3_7 fcv3_7
  have cv1_8 : (w13).cell? ⟨qv1, 8, none⟩ = some (.int .i64 d.knd) := (cell_of HBv1_13.out 8).trans rfl
  have cv3_8 : (w13).cell? ⟨qv3, 8, none⟩ = some (.int .i64 0) := (cell_of HBv3_13.out 8).trans rfl
  have fcv3_8 : (w13).frozen? ⟨qv3, 8, none⟩ = false := frozen_of HBv3_13.out 8
  go_upto_region 6 with fail
  obtain ⟨w14, hW14⟩ : ∃ W, W = (w13).setCell ⟨qv3, 8, none⟩ (.int .i64 d.knd) := ⟨_, rfl⟩
  rw [← hW14]
  have hb14 : Below w.heap.size w (w14) := by rw [hW14]; exact (hb13.setCell (p := ⟨qv3, 8, none⟩) HGv3.out _)
  have HBv1_14 : Hid ((w14).heap[qv1]? = some (.cells #[.int .i64 d.cli, .int .i64 d.qmt, .string d.qpa, .slice a3 d.qfs.length c3, .string d.qbd, .int .i64 d.rst, .slice a6 d.rfs.length c6, .string d.rbd, .int .i64 d.knd, .int .i64 d.tim, .string d.opa, .slice a11 d.oxs.length c11, .slice a12 d.oys.length c12, .int .i64 d.ost, .slice a14 d.ofs.length c14, .string d.obd, .int .i64 d.otm, .int .i64 d.bns] 107)) := by show _ = _; rw [hW14, heap_setCell_other _ _ _ _ HNv1v3.out]; exact HBv1_13.out
  have HBv2_14 : Hid ((w14).heap[qv2]? = some (.cells #[.int .i64 0, .int .i64 0, .string ⟨#[]⟩, .slice none 0 0, .string ⟨#[]⟩, .int .i64 0, .slice none 0 0, .string ⟨#[]⟩, .int .i64 0, .int .i64 0, .string ⟨#[]⟩, .slice none 0 0, .slice none 0 0, .int .i64 0, .slice none 0 0, .string ⟨#[]⟩, .int .i64 0, .int .i64 0] 68)) := by show _ = _; rw [hW14, heap_setCell_other _ _ _ _ HNv2v3.out]; exact HBv2_13.out
  have ER_14 : Hid (RowsO (w14) w.heap.size ([(⟨135, 2, (.slice o3 d.qfs.length p3), d.qfs.length, flatF d.qfs⟩ : Rw), (⟨135, 2, (.slice o6 d.rfs.length p6), d.rfs.length, flatF d.rfs⟩ : Rw)])) := by show RowsO _ _ _; rw [hW14]; exact RowsO.other ER_13.out HBv3_13.out HT2.out
  have HBv3_14 : Hid ((w14).heap[qv3]? = some (.cells #[.int .i64 d.cli, .int .i64 d.qmt, .string d.qpa, .slice o3 d.qfs.length p3, .string d.qbd, .int .i64 d.rst, .slice o6 d.rfs.length p6, .string d.rbd, .int .i64 d.knd, .int .i64 0, .string ⟨#[]⟩, .slice none 0 0, .slice none 0 0, .int .i64 0, .slice none 0 0, .string ⟨#[]⟩, .int .i64 0, .int .i64 0] 68)) := by show _ = _; rw [hW14]; have h := heap_set _ _ 8 _ _ _ (.int .i64 d.knd) HBv3_13.out; simpa using h
  clear hb13 HBv1_13 HBv2_13 HBv3_13 ER_13 hW14
  clear cv1_8 cv3_8 fcv3_8
  have cv1_9 : (w14).cell? ⟨qv1, 9, none⟩ = some (.int .i64 d.tim) := (cell_of HBv1_14.out 9).trans rfl
  have cv3_9 : (w14).cell? ⟨qv3, 9, none⟩ = some (.int .i64 0) := (cell_of HBv3_14.out 9).trans rfl
  have fcv3_9 : (w14).frozen? ⟨qv3, 9, none⟩ = false := frozen_of HBv3_14.out 9
  go_upto_region 7 with fail
  obtain ⟨w15, hW15⟩ : ∃ W, W = (w14).setCell ⟨qv3, 9, none⟩ (.int .i64 d.tim) := ⟨_, rfl⟩
  rw [← hW15]
  have hb15 : Below w.heap.size w (w15) := by rw [hW15]; exact (hb14.setCell (p := ⟨qv3, 9, none⟩) HGv3.out _)
  have HBv1_15 : Hid ((w15).heap[qv1]? = some (.cells #[.int .i64 d.cli, .int .i64 d.qmt, .string d.qpa, .slice a3 d.qfs.length c3, .string d.qbd, .int .i64 d.rst, .slice a6 d.rfs.length c6, .string d.rbd, .int .i64 d.knd, .int .i64 d.tim, .string d.opa, .slice a11 d.oxs.length c11, .slice a12 d.oys.length c12, .int .i64 d.ost, .slice a14 d.ofs.length c14, .string d.obd, .int .i64 d.otm, .int .i64 d.bns] 107)) := by show _ = _; rw [hW15, heap_setCell_other _ _ _ _ HNv1v3.out]; exact HBv1_14.out
  have HBv2_15 : Hid ((w15).heap[qv2]? = some (.cells #[.int .i64 0, .int .i64 0, .string ⟨#[]⟩, .slice none 0 0, .string ⟨#[]⟩, .int .i64 0, .slice none 0 0, .string ⟨#[]⟩, .int .i64 0, .int .i64 0, .string ⟨#[]⟩, .slice none 0 0, .slice none 0 0, .int .i64 0, .slice none 0 0, .string ⟨#[]⟩, .int .i64 0, .int .i64 0] 68)) := by show _ = _; rw [hW15, heap_setCell_other _ _ _ _ HNv2v3.out]; exact HBv2_14.out
  have ER_15 : Hid (RowsO (w15) w.heap.size ([(⟨135, 2, (.slice o3 d.qfs.length p3), d.qfs.length, flatF d.qfs⟩ : Rw), (⟨135, 2, (.slice o6 d.rfs.length p6), d.rfs.length, flatF d.rfs⟩ : Rw)])) := by show RowsO _ _ _; rw [hW15]; exact RowsO.other ER_14.out HBv3_14.out HT2.out
  have HBv3_15 : Hid ((w15).heap[qv3]? = some (.cells #[.int .i64 d.cli, .int .i64 d.qmt, .string d.qpa, .slice o3 d.qfs.length p3, .string d.qbd, .int .i64 d.rst, .slice o6 d.rfs.length p6, .string d.rbd, .int .i64 d.knd, .int .i64 d.tim, .string ⟨#[]⟩, .slice none 0 0, .slice none 0 0, .int .i64 0, .slice none 0 0, .string ⟨#[]⟩, .int .i64 0, .int .i64 0] 68)) := by show _ = _; rw [hW15]; have h := heap_set _ _ 9 _ _ _ (.int .i64 d.tim) HBv3_14.out; simpa using h
  clear hb14 HBv1_14 HBv2_14 HBv3_14 ER_14 hW15
  clear cv1_9 cv3_9 fcv3_9
  have cv1_10 : (w15).cell? ⟨qv1, 10, none⟩ = some (.string d.opa) := (cell_of HBv1_15.out 10).trans rfl
  have cv1_11 : (w15).cell? ⟨qv1, 11, none⟩ = some (.slice a11 d.oxs.length c11) := (cell_of HBv1_15.out 11).trans rfl
  have cv1_12 : (w15).cell? ⟨qv1, 12, none⟩ = some (.slice a12 d.oys.length c12) := (cell_of HBv1_15.out 12).trans rfl
  have cv1_13 : (w15).cell? ⟨qv1, 13, none⟩ = some (.int .i64 d.ost) := (cell_of HBv1_15.out 13).trans rfl
  have cv1_14 : (w15).cell? ⟨qv1, 14, none⟩ = some (.slice a14 d.ofs.length c14) := (cell_of HBv1_15.out 14).trans rfl
  have cv1_15 : (w15).cell? ⟨qv1, 15, none⟩ = some (.string d.obd) := (cell_of HBv1_15.out 15).trans rfl
  have cv1_16 : (w15).cell? ⟨qv1, 16, none⟩ = some (.int .i64 d.otm) := (cell_of HBv1_15.out 16).trans rfl
  go_wp2_with fail
  refine (toObj_any d.opa a11 d.oxs.length c11 d.oxs a12 d.oys.length c12 d.oys d.ost a14 d.ofs.length c14 d.ofs d.obd d.otm B _ (HA11.out _ hb15) (HA12.out _ hb15) (HA14.out _ hb15) (HBB.out _ hb15) hn.oxs hn.oys hn.ofs).mono ?_
  rintro e w16 ⟨vv1, vv2, vv3, rfl, hobj, bw⟩
  obtain ⟨o11, p11, rfl⟩ := slice_of_owns hobj.names
  obtain ⟨o12, p12, rfl⟩ := slice_of_owns hobj.vals
  obtain ⟨o14, p14, rfl⟩ := slice_of_owns hobj.flds
  have HRN : Hid (RowsO w16 w.heap.size ([(⟨135, 2, (.slice o3 d.qfs.length p3), d.qfs.length, flatF d.qfs⟩ : Rw), (⟨135, 2, (.slice o6 d.rfs.length p6), d.rfs.length, flatF d.rfs⟩ : Rw), (⟨9, 1, (.slice o11 d.oxs.length p11), d.oxs.length, d.oxs.map Value.string⟩ : Rw), (⟨9, 1, (.slice o12 d.oys.length p12), d.oys.length, d.oys.map Value.string⟩ : Rw), (⟨135, 2, (.slice o14 d.ofs.length p14), d.ofs.length, flatF d.ofs⟩ : Rw)])) := ER_15.out.more bw (obj_rows3 hobj) (Nat.le_refl _) hb15.size
  have HT5 : Hid (∀ r ∈ ([(⟨135, 2, (.slice o3 d.qfs.length p3), d.qfs.length, flatF d.qfs⟩ : Rw), (⟨135, 2, (.slice o6 d.rfs.length p6), d.rfs.length, flatF d.rfs⟩ : Rw), (⟨9, 1, (.slice o11 d.oxs.length p11), d.oxs.length, d.oxs.map Value.string⟩ : Rw), (⟨9, 1, (.slice o12 d.oys.length p12), d.oys.length, d.oys.map Value.string⟩ : Rw), (⟨135, 2, (.slice o14 d.ofs.length p14), d.ofs.length, flatF d.ofs⟩ : Rw)]), 68 ≠ r.T) := by
    intro r hr
    simp only [List.mem_cons, List.not_mem_nil, or_false] at hr
    rcases hr with rfl | rfl | rfl | rfl | rfl
    · exact (by decide : (68 : TypeId) ≠ 135)
    · exact (by decide : (68 : TypeId) ≠ 135)
    · exact (by decide : (68 : TypeId) ≠ 9)
    · exact (by decide : (68 : TypeId) ≠ 9)
    · exact (by decide : (68 : TypeId) ≠ 135)
  clear hobj
  have hb16 : Below w.heap.size w (w16) := hb15.trans (bw.mono hb15.size)
  have HBv1_16 : Hid ((w16).heap[qv1]? = some (.cells #[.int .i64 d.cli, .int .i64 d.qmt, .string d.qpa, .slice a3 d.qfs.length c3, .string d.qbd, .int .i64 d.rst, .slice a6 d.rfs.length c6, .string d.rbd, .int .i64 d.knd, .int .i64 d.tim, .string d.opa, .slice a11 d.oxs.length c11, .slice a12 d.oys.length c12, .int .i64 d.ost, .slice a14 d.ofs.length c14, .string d.obd, .int .i64 d.otm, .int .i64 d.bns] 107)) := blk_below HBv1_15.out bw
  have HBv2_16 : Hid ((w16).heap[qv2]? = some (.cells #[.int .i64 0, .int .i64 0, .string ⟨#[]⟩, .slice none 0 0, .string ⟨#[]⟩, .int .i64 0, .slice none 0 0, .string ⟨#[]⟩, .int .i64 0, .int .i64 0, .string ⟨#[]⟩, .slice none 0 0, .slice none 0 0, .int .i64 0, .slice none 0 0, .string ⟨#[]⟩, .int .i64 0, .int .i64 0] 68)) := blk_below HBv2_15.out bw
  have HBv3_16 : Hid ((w16).heap[qv3]? = some (.cells #[.int .i64 d.cli, .int .i64 d.qmt, .string d.qpa, .slice o3 d.qfs.length p3, .string d.qbd, .int .i64 d.rst, .slice o6 d.rfs.length p6, .string d.rbd, .int .i64 d.knd, .int .i64 d.tim, .string ⟨#[]⟩, .slice none 0 0, .slice none 0 0, .int .i64 0, .slice none 0 0, .string ⟨#[]⟩, .int .i64 0, .int .i64 0] 68)) := blk_below HBv3_15.out bw
  have ER_16 : Hid (RowsO (w16) w.heap.size ([(⟨135, 2, (.slice o3 d.qfs.length p3), d.qfs.length, flatF d.qfs⟩ : Rw), (⟨135, 2, (.slice o6 d.rfs.length p6), d.rfs.length, flatF d.rfs⟩ : Rw)])) := ER_15.out.below bw
  clear hb15 HBv1_15 HBv2_15 HBv3_15 ER_15 bw
  clear ER_16
  have ER_16 : Hid (RowsO (w16) w.heap.size ([(⟨135, 2, (.slice o3 d.qfs.length p3), d.qfs.length, flatF d.qfs⟩ : Rw), (⟨135, 2, (.slice o6 d.rfs.length p6), d.rfs.length, flatF d.rfs⟩ : Rw), (⟨9, 1, (.slice o11 d.oxs.length p11), d.oxs.length, d.oxs.map Value.string⟩ : Rw), (⟨9, 1, (.slice o12 d.oys.length p12), d.oys.length, d.oys.map Value.string⟩ : Rw), (⟨135, 2, (.slice o14 d.ofs.length p14), d.ofs.length, flatF d.ofs⟩ : Rw)])) := HRN.out
  clear HRN
  clear cv1_10 cv1_11 cv1_12 cv1_13 cv1_14 cv1_15 cv1_16
  have cv3_10 : (w16).cell? ⟨qv3, 10, none⟩ = some (.string ⟨#[]⟩) := (cell_of HBv3_16.out 10).trans rfl
  have fcv3_10 : (w16).frozen? ⟨qv3, 10, none⟩ = false := frozen_of HBv3_16.out 10
  have cv3_11 : (w16).cell? ⟨qv3, 11, none⟩ = some (.slice none 0 0) := (cell_of HBv3_16.out 11).trans rfl
  have fcv3_11 : (w16).frozen? ⟨qv3, 11, none⟩ = false := frozen_of HBv3_16.out 11
  have cv3_12 : (w16).cell? ⟨qv3, 12, none⟩ = some (.slice none 0 0) := (cell_of HBv3_16.out 12).trans rfl
  have fcv3_12 : (w16).frozen? ⟨qv3, 12, none⟩ = false := frozen_of HBv3_16.out 12
  have cv3_13 : (w16).cell? ⟨qv3, 13, none⟩ = some (.int .i64 0) := (cell_of HBv3_16.out 13).trans rfl
  have fcv3_13 : (w16).frozen? ⟨qv3, 13, none⟩ = false := frozen_of HBv3_16.out 13
  have cv3_14 : (w16).cell? ⟨qv3, 14, none⟩ = some (.slice none 0 0) := (cell_of HBv3_16.out 14).trans rfl
  have fcv3_14 : (w16).frozen? ⟨qv3, 14, none⟩ = false := frozen_of HBv3_16.out 14
  have cv3_15 : (w16).cell? ⟨qv3, 15, none⟩ = some (.string ⟨#[]⟩) := (cell_of HBv3_16.out 15).trans rfl
  have fcv3_15 : (w16).frozen? ⟨qv3, 15, none⟩ = false := frozen_of HBv3_16.out 15
  have cv3_16 : (w16).cell? ⟨qv3, 16, none⟩ = some (.int .i64 0) := (cell_of HBv3_16.out 16).trans rfl
  have fcv3_16 : (w16).frozen? ⟨qv3, 16, none⟩ = false := frozen_of HBv3_16.out 16
  go_upto_region 8 with fail
  obtain ⟨w17, hW17⟩ : ∃ W, W = (w16).setCell ⟨qv3, 10, none⟩ (.string d.opa) := ⟨_, rfl⟩
  rw [← hW17]
  have hb17 : Below w.heap.size w (w17) := by rw [hW17]; exact (hb16.setCell (p := ⟨qv3, 10, none⟩) HGv3.out _)
  have HBv1_17 : Hid ((w17).heap[qv1]? = some (.cells #[.int .i64 d.cli, .int .i64 d.qmt, .string d.qpa, .slice a3 d.qfs.length c3, .string d.qbd, .int .i64 d.rst, .slice a6 d.rfs.length c6, .string d.rbd, .int .i64 d.knd, .int .i64 d.tim, .string d.opa, .slice a11 d.oxs.length c11, .slice a12 d.oys.length c12, .int .i64 d.ost, .slice a14 d.ofs.length c14, .string d.obd, .int .i64 d.otm, .int .i64 d.bns] 107)) := by show _ = _; rw [hW17, heap_setCell_other _ _ _ _ HNv1v3.out]; exact HBv1_16.out
  have HBv2_17 : Hid ((w17).heap[qv2]? = some (.cells #[.int .i64 0, .int .i64 0, .string ⟨#[]⟩, .slice none 0 0, .string ⟨#[]⟩, .int .i64 0, .slice none 0 0, .string ⟨#[]⟩, .int .i64 0, .int .i64 0, .string ⟨#[]⟩, .slice none 0 0, .slice none 0 0, .int .i64 0, .slice none 0 0, .string ⟨#[]⟩, .int .i64 0, .int .i64 0] 68)) := by show _ = _; rw [hW17, heap_setCell_other _ _ _ _ HNv2v3.out]; exact HBv2_16.out
  have ER_17 : Hid (RowsO (w17) w.heap.size ([(⟨135, 2, (.slice o3 d.qfs.length p3), d.qfs.length, flatF d.qfs⟩ : Rw), (⟨135, 2, (.slice o6 d.rfs.length p6), d.rfs.length, flatF d.rfs⟩ : Rw), (⟨9, 1, (.slice o11 d.oxs.length p11), d.oxs.length, d.oxs.map Value.string⟩ : Rw), (⟨9, 1, (.slice o12 d.oys.length p12), d.oys.length, d.oys.map Value.string⟩ : Rw), (⟨135, 2, (.slice o14 d.ofs.length p14), d.ofs.length, flatF d.ofs⟩ : Rw)])) := by show RowsO _ _ _; rw [hW17]; exact RowsO.other ER_16.out HBv3_16.out HT5.out
  have HBv3_17 : Hid ((w17).heap[qv3]? = some (.cells #[.int .i64 d.cli, .int .i64 d.qmt, .string d.qpa, .slice o3 d.qfs.length p3, .string d.qbd, .int .i64 d.rst, .slice o6 d.rfs.length p6, .string d.rbd, .int .i64 d.knd, .int .i64 d.tim, .string d.opa, .slice none 0 0, .slice none 0 0, .int .i64 0, .slice none 0 0, .string ⟨#[]⟩, .int .i64 0, .int .i64 0] 68)) := by show _ = _; rw [hW17]; have h := heap_set _ _ 10 _ _ _ (.string d.opa) HBv3_16.out; simpa using h
  clear hb16 HBv1_16 HBv2_16 HBv3_16 ER_16 hW17
  obtain ⟨w18, hW18⟩ : ∃ W, W = (w17).setCell ⟨qv3, 11, none⟩ (.slice o11 d.oxs.length p11) := ⟨_, rfl⟩
  rw [← hW18]
  have hb18 : Below w.heap.size w (w18) := by rw [hW18]; exact (hb17.setCell (p := ⟨qv3, 11, none⟩) HGv3.out _)
  have HBv1_18 : Hid ((w18).heap[qv1]? = some (.cells #[.int .i64 d.cli, .int .i64 d.qmt, .string d.qpa, .slice a3 d.qfs.length c3, .string d.qbd, .int .i64 d.rst, .slice a6 d.rfs.length c6, .string d.rbd, .int .i64 d.knd, .int .i64 d.tim, .string d.opa, .slice a11 d.oxs.length c11, .slice a12 d.oys.length c12, .int .i64 d.ost, .slice a14 d.ofs.length c14, .string d.obd, .int .i64 d.otm, .int .i64 d.bns] 107)) := by show _ = _; rw [hW18, heap_setCell_other _ _ _ _ HNv1v3.out]; exact HBv1_17.out
  have HBv2_18 : Hid ((w18).heap[qv2]? = some (.cells #[.int .i64 0, .int .i64 0, .string ⟨#[]⟩, .slice none 0 0, .string ⟨#[]⟩, .int .i64 0, .slice none 0 0, .string ⟨#[]⟩, .int .i64 0, .int .i64 0, .string ⟨#[]⟩, .slice none 0 0, .slice none 0 0, .int .i64 0, .slice none 0 0, .string ⟨#[]⟩, .int .i64 0, .int .i64 0] 68)) := by show _ = _; rw [hW18, heap_setCell_other _ _ _ _ HNv2v3.out]; exact HBv2_17.out
  have ER_18 : Hid (RowsO (w18) w.heap.size ([(⟨135, 2, (.slice o3 d.qfs.length p3), d.qfs.length, flatF d.qfs⟩ : Rw), (⟨135, 2, (.slice o6 d.rfs.length p6), d.rfs.length, flatF d.rfs⟩ : Rw), (⟨9, 1, (.slice o11 d.oxs.length p11), d.oxs.length, d.oxs.map Value.string⟩ : Rw), (⟨9, 1, (.slice o12 d.oys.length p12), d.oys.length, d.oys.map Value.string⟩ : Rw), (⟨135, 2, (.slice o14 d.ofs.length p14), d.ofs.length, flatF d.ofs⟩ : Rw)])) := by show RowsO _ _ _; rw [hW18]; exact RowsO.other ER_17.out HBv3_17.out HT5.out
  have HBv3_18 : Hid ((w18).heap[qv3]? = some (.cells #[.int .i64 d.cli, .int .i64 d.qmt, .string d.qpa, .slice o3 d.qfs.length p3, .string d.qbd, .int .i64 d.rst, .slice o6 d.rfs.length p6, .string d.rbd, .int .i64 d.knd, .int .i64 d.tim, .string d.opa, .slice o11 d.oxs.length p11, .slice none 0 0, .int .i64 0, .slice none 0 0, .string ⟨#[]⟩, .int .i64 0, .int .i64 0] 68)) := by show _ = _; rw [hW18]; have h := heap_set _ _ 11 _ _ _ (.slice o11 d.oxs.length p11) HBv3_17.out; simpa using h
  clear hb17 HBv1_17 HBv2_17 HBv3_17 ER_17 hW18
  obtain ⟨w19, hW19⟩ : ∃ W, W = (w18).setCell ⟨qv3, 12, none⟩ (.slice o12 d.oys.length p12) := ⟨_, rfl⟩
  rw [← hW19]
  have hb19 : Below w.heap.size w (w19) := by rw [hW19]; exact (hb18.setCell (p := ⟨qv3, 12, none⟩) HGv3.out _)
  have HBv1_19 : Hid ((w19).heap[qv1]? = some (.cells #[.int .i64 d.cli, .int .i64 d.qmt, .string d.qpa, .slice a3 d.qfs.length c3, .string d.qbd, .int .i64 d.rst, .slice a6 d.rfs.length c6, .string d.rbd, .int .i64 d.knd, .int .i64 d.tim, .string d.opa, .slice a11 d.oxs.length c11, .slice a12 d.oys.length c12, .int .i64 d.ost, .slice a14 d.ofs.length c14, .string d.obd, .int .i64 d.otm, .int .i64 d.bns] 107)) := by show _ = _; rw [hW19, heap_setCell_other _ _ _ _ HNv1v3.out]; exact HBv1_18.out
  have HBv2_19 : Hid ((w19).heap[qv2]? = some (.cells #[.int .i64 0, .int .i64 0, .string ⟨#[]⟩, .slice none 0 0, .string ⟨#[]⟩, .int .i64 0, .slice none 0 0, .string ⟨#[]⟩, .int .i64 0, .int .i64 0, .string ⟨#[]⟩, .slice none 0 0, .slice none 0 0, .int .i64 0, .slice none 0 0, .string ⟨#[]⟩, .int .i64 0, .int .i64 0] 68)) := by show _ = _; rw [hW19, heap_setCell_other _ _ _ _ HNv2v3.out]; exact HBv2_18.out
  have ER_19 : Hid (RowsO (w19) w.heap.size ([(⟨135, 2, (.slice o3 d.qfs.length p3), d.qfs.length, flatF d.qfs⟩ : Rw), (⟨135, 2, (.slice o6 d.rfs.length p6), d.rfs.length, flatF d.rfs⟩ : Rw), (⟨9, 1, (.slice o11 d.oxs.length p11), d.oxs.length, d.oxs.map Value.string⟩ : Rw), (⟨9, 1, (.slice o12 d.oys.length p12), d.oys.length, d.oys.map Value.string⟩ : Rw), (⟨135, 2, (.slice o14 d.ofs.length p14), d.ofs.length, flatF d.ofs⟩ : Rw)])) := by show RowsO _ _ _; rw [hW19]; exact RowsO.other ER_18.out HBv3_18.out HT5.out
  have HBv3_19 : Hid ((w19).heap[qv3]? = some (.cells #[.int .i64 d.cli, .int .i64 d.qmt, .string d.qpa, .slice o3 d.qfs.length p3, .string d.qbd, .int .i64 d.rst, .slice o6 d.rfs.length p6, .string d.rbd, .int .i64 d.knd, .int .i64 d.tim, .string d.opa, .slice o11 d.oxs.length p11, .slice o12 d.oys.length p12, .int .i64 0, .slice none 0 0, .string ⟨#[]⟩, .int .i64 0, .int .i64 0] 68)) := by show _ = _; rw [hW19]; have h := heap_set _ _ 12 _ _ _ (.slice o12 d.oys.length p12) HBv3_18.out; simpa using h
  clear hb18 HBv1_18 HBv2_18 HBv3_18 ER_18 hW19
  obtain ⟨w20, hW20⟩ : ∃ W, W = (w19).setCell ⟨qv3, 13, none⟩ (.int .i64 d.ost) := ⟨_, rfl⟩
  rw [← hW20]
  have hb20 : Below w.heap.size w (w20) := by rw [hW20]; exact (hb19.setCell (p := ⟨qv3, 13, none⟩) HGv3.out _)
  have HBv1_20 : Hid ((w20).heap[qv1]? = some (.cells #[.int .i64 d.cli, .int .i64 d.qmt, .string d.qpa, .slice a3 d.qfs.length c3, .string d.qbd, .int .i64 d.rst, .slice a6 d.rfs.length c6, .string d.rbd, .int .i64 d.knd, .int .i64 d.tim, .string d.opa, .slice a11 d.oxs.length c11, .slice a12 d.oys.length c12, .int .i64 d.ost, .slice a14 d.ofs.length c14, .string d.obd, .int .i64 d.otm, .int .i64 d.bns] 107)) := by show _ = _; rw [hW20, heap_setCell_other _ _ _ _ HNv1v3.out]; exact HBv1_19.out
  have HBv2_20 : Hid ((w20).heap[qv2]? = some (.cells #[.int .i64 0, .int .i64 0, .string ⟨#[]⟩, .slice none 0 0, .string ⟨#[]⟩, .int .i64 0, .slice none 0 0, .string ⟨#[]⟩, .int .i64 0, .int .i64 0, .string ⟨#[]⟩, .slice none 0 0, .slice none 0 0, .int .i64 0, .slice none 0 0, .string ⟨#[]⟩, .int .i64 0, .int .i64 0] 68)) := by show _ = _; rw [hW20, heap_setCell_other _ _ _ _ HNv2v3.out]; exact HBv2_19.out
  have ER_20 : Hid (RowsO (w20) w.heap.size ([(⟨135, 2, (.slice o3 d.qfs.length p3), d.qfs.length, flatF d.qfs⟩ : Rw), (⟨135, 2, (.slice o6 d.rfs.length p6), d.rfs.length, flatF d.rfs⟩ : Rw), (⟨9, 1, (.slice o11 d.oxs.length p11), d.oxs.length, d.oxs.map Value.string⟩ : Rw), (⟨9, 1, (.slice o12 d.oys.length p12), d.oys.length, d.oys.map Value.string⟩ : Rw), (⟨135, 2, (.slice o14 d.ofs.length p14), d.ofs.length, flatF d.ofs⟩ : Rw)])) := by show RowsO _ _ _; rw [hW20]; exact RowsO.other ER_19.out HBv3_19.out HT5.out
  have HBv3_20 : Hid ((w20).heap[qv3]? = some (.cells #[.int .i64 d.cli, .int .i64 d.qmt, .string d.qpa, .slice o3 d.qfs.length p3, .string d.qbd, .int .i64 d.rst, .slice o6 d.rfs.length p6, .string d.rbd, .int .i64 d.knd, .int .i64 d.tim, .string d.opa, .slice o11 d.oxs.length p11, .slice o12 d.oys.length p12, .int .i64 d.ost, .slice none 0 0, .string ⟨#[]⟩, .int .i64 0, .int .i64 0] 68)) := by show _ = _; rw [hW20]; have h := heap_set _ _ 13 _ _ _ (.int .i64 d.ost) HBv3_19.out; simpa using h
  clear hb19 HBv1_19 HBv2_19 HBv3_19 ER_19 hW20
  obtain ⟨w21, hW21⟩ : ∃ W, W = (w20).setCell ⟨qv3, 14, none⟩ (.slice o14 d.ofs.length p14) := ⟨_, rfl⟩
  rw [← hW21]
  have hb21 : Below w.heap.size w (w21) := by rw [hW21]; exact (hb20.setCell (p := ⟨qv3, 14, none⟩) HGv3.out _)
  have HBv1_21 : Hid ((w21).heap[qv1]? = some (.cells #[.int .i64 d.cli, .int .i64 d.qmt, .string d.qpa, .slice a3 d.qfs.length c3, .string d.qbd, .int .i64 d.rst, .slice a6 d.rfs.length c6, .string d.rbd, .int .i64 d.knd, .int .i64 d.tim, .string d.opa, .slice a11 d.oxs.length c11, .slice a12 d.oys.length c12, .int .i64 d.ost, .slice a14 d.ofs.length c14, .string d.obd, .int .i64 d.otm, .int .i64 d.bns] 107)) := by show _ = _; rw [hW21, heap_setCell_other _ _ _ _ HNv1v3.out]; exact HBv1_20.out
  have HBv2_21 : Hid ((w21).heap[qv2]? = some (.cells #[.int .i64 0, .int .i64 0, .string ⟨#[]⟩, .slice none 0 0, .string ⟨#[]⟩, .int .i64 0, .slice none 0 0, .string ⟨#[]⟩, .int .i64 0, .int .i64 0, .string ⟨#[]⟩, .slice none 0 0, .slice none 0 0, .int .i64 0, .slice none 0 0, .string ⟨#[]⟩, .int .i64 0, .int .i64 0] 68)) := by show _ = _; rw [hW21, heap_setCell_other _ _ _ _ HNv2v3.out]; exact HBv2_20.out
  have ER_21 : Hid (RowsO (w21) w.heap.size ([(⟨135, 2, (.slice o3 d.qfs.length p3), d.qfs.length, flatF d.qfs⟩ : Rw), (⟨135, 2, (.slice o6 d.rfs.length p6), d.rfs.length, flatF d.rfs⟩ : Rw), (⟨9, 1, (.slice o11 d.oxs.length p11), d.oxs.length, d.oxs.map Value.string⟩ : Rw), (⟨9, 1, (.slice o12 d.oys.length p12), d.oys.length, d.oys.map Value.string⟩ : Rw), (⟨135, 2, (.slice o14 d.ofs.length p14), d.ofs.length, flatF d.ofs⟩ : Rw)])) := by show RowsO _ _ _; rw [hW21]; exact RowsO.other ER_20.out HBv3_20.out HT5.out
  have HBv3_21 : Hid ((w21).heap[qv3]? = some (.cells #[.int .i64 d.cli, .int .i64 d.qmt, .string d.qpa, .slice o3 d.qfs.length p3, .string d.qbd, .int .i64 d.rst, .slice o6 d.rfs.length p6, .string d.rbd, .int .i64 d.knd, .int .i64 d.tim, .string d.opa, .slice o11 d.oxs.length p11, .slice o12 d.oys.length p12, .int .i64 d.ost, .slice o14 d.ofs.length p14, .string ⟨#[]⟩, .int .i64 0, .int .i64 0] 68)) := by show _ = _; rw [hW21]; have h := heap_set _ _ 14 _ _ _ (.slice o14 d.ofs.length p14) HBv3_20.out; simpa using h
  clear hb20 HBv1_20 HBv2_20 HBv3_20 ER_20 hW21
  obtain ⟨w22, hW22⟩ : ∃ W, W = (w21).setCell ⟨qv3, 15, none⟩ (.string d.obd) := ⟨_, rfl⟩
  rw [← hW22]
  have hb22 : Below w.heap.size w (w22) := by rw [hW22]; exact (hb21.setCell (p := ⟨qv3, 15, none⟩) HGv3.out _)
  have HBv1_22 : Hid ((w22).heap[qv1]? = some (.cells #[.int .i64 d.cli, .int .i64 d.qmt, .string d.qpa, .slice a3 d.qfs.length c3, .string d.qbd, .int .i64 d.rst, .slice a6 d.rfs.length c6, .string d.rbd, .int .i64 d.knd, .int .i64 d.tim, .string d.opa, .slice a11 d.oxs.length c11, .slice a12 d.oys.length c12, .int .i64 d.ost, .slice a14 d.ofs.length c14, .string d.obd, .int .i64 d.otm, .int .i64 d.bns] 107)) := by show _ = _; rw [hW22, heap_setCell_other _ _ _ _ HNv1v3.out]; exact HBv1_21.out
  have HBv2_22 : Hid ((w22).heap[qv2]? = some (.cells #[.int .i64 0, .int .i64 0, .string ⟨#[]⟩, .slice none 0 0, .string ⟨#[]⟩, .int .i64 0, .slice none 0 0, .string ⟨#[]⟩, .int .i64 0, .int .i64 0, .string ⟨#[]⟩, .slice none 0 0, .slice none 0 0, .int .i64 0, .slice none 0 0, .string ⟨#[]⟩, .int .i64 0, .int .i64 0] 68)) := by show _ = _; rw [hW22, heap_setCell_other _ _ _ _ HNv2v3.out]; exact HBv2_21.out
  have ER_22 : Hid (RowsO (w22) w.heap.size ([(⟨135, 2, (.slice o3 d.qfs.length p3), d.qfs.length, flatF d.qfs⟩ : Rw), (⟨135, 2, (.slice o6 d.rfs.length p6), d.rfs.length, flatF d.rfs⟩ : Rw), (⟨9, 1, (.slice o11 d.oxs.length p11), d.oxs.length, d.oxs.map Value.string⟩ : Rw), (⟨9, 1, (.slice o12 d.oys.length p12), d.oys.length, d.oys.map Value.string⟩ : Rw), (⟨135, 2, (.slice o14 d.ofs.length p14), d.ofs.length, flatF d.ofs⟩ : Rw)])) := by show RowsO _ _ _; rw [hW22]; exact RowsO.other ER_21.out HBv3_21.out HT5.out
  have HBv3_22 : Hid ((w22).heap[qv3]? = some (.cells #[.int .i64 d.cli, .int .i64 d.qmt, .string d.qpa, .slice o3 d.qfs.length p3, .string d.qbd, .int .i64 d.rst, .slice o6 d.rfs.length p6, .string d.rbd, .int .i64 d.knd, .int .i64 d.tim, .string d.opa, .slice o11 d.oxs.length p11, .slice o12 d.oys.length p12, .int .i64 d.ost, .slice o14 d.ofs.length p14, .string d.obd, .int .i64 0, .int .i64 0] 68)) := by show _ = _; rw [hW22]; have h := heap_set _ _ 15 _ _ _ (.string d.obd) HBv3_21.out; simpa using h
  clear hb21 HBv1_21 HBv2_21 HBv3_21 ER_21 hW22
  obtain ⟨w23, hW23⟩ : ∃ W, W = (w22).setCell ⟨qv3, 16, none⟩ (.int .i64 d.otm) := ⟨_, rfl⟩
  rw [← hW23]
  have hb23 : Below w.heap.size w (w23) := by rw [hW23]; exact (hb22.setCell (p := ⟨qv3, 16, none⟩) HGv3.out _)
  have HBv1_23 : Hid ((w23).heap[qv1]? = some (.cells #[.int .i64 d.cli, .int .i64 d.qmt, .string d.qpa, .slice a3 d.qfs.length c3, .string d.qbd, .int .i64 d.rst, .slice a6 d.rfs.length c6, .string d.rbd, .int .i64 d.knd, .int .i64 d.tim, .string d.opa, .slice a11 d.oxs.length c11, .slice a12 d.oys.length c12, .int .i64 d.ost, .slice a14 d.ofs.length c14, .string d.obd, .int .i64 d.otm, .int .i64 d.bns] 107)) := by show _ = _; rw [hW23, heap_setCell_other _ _ _ _ HNv1v3.out]; exact HBv1_22.out
  have HBv2_23 : Hid ((w23).heap[qv2]? = some (.cells #[.int .i64 0, .int .i64 0, .string ⟨#[]⟩, .slice none 0 0, .string ⟨#[]⟩, .int .i64 0, .slice none 0 0, .string ⟨#[]⟩, .int .i64 0, .int .i64 0, .string ⟨#[]⟩, .slice none 0 0, .slice none 0 0, .int .i64 0, .slice none 0 0, .string ⟨#[]⟩, .int .i64 0, .int .i64 0] 68)) := by show _ = _; rw [hW23, heap_setCell_other _ _ _ _ HNv2v3.out]; exact HBv2_22.out
  have ER_23 : Hid (RowsO (w23) w.heap.size ([(⟨135, 2, (.slice o3 d.qfs.length p3), d.qfs.length, flatF d.qfs⟩ : Rw), (⟨135, 2, (.slice o6 d.rfs.length p6), d.rfs.length, flatF d.rfs⟩ : Rw), (⟨9, 1, (.slice o11 d.oxs.length p11), d.oxs.length, d.oxs.map Value.string⟩ : Rw), (⟨9, 1, (.slice o12 d.oys.length p12), d.oys.length, d.oys.map Value.string⟩ : Rw), (⟨135, 2, (.slice o14 d.ofs.length p14), d.ofs.length, flatF d.ofs⟩ : Rw)])) := by show RowsO _ _ _; rw [hW23]; exact RowsO.other ER_22.out HBv3_22.out HT5.out
  have HBv3_23 : Hid ((w23).heap[qv3]? = some (.cells #[.int .i64 d.cli, .int .i64 d.qmt, .string d.qpa, .slice o3 d.qfs.length p3, .string d.qbd, .int .i64 d.rst, .slice o6 d.rfs.length p6, .string d.rbd, .int .i64 d.knd, .int .i64 d.tim, .string d.opa, .slice o11 d.oxs.length p11, .slice o12 d.oys.length p12, .int .i64 d.ost, .slice o14 d.ofs.length p14, .string d.obd, .int .i64 d.otm, .int .i64 0] 68)) := by show _ = _; rw [hW23]; have h := heap_set _ _ 16 _ _ _ (.int .i64 d.otm) HBv3_22.out; simpa using h
  clear hb22 HBv1_22 HBv2_22 HBv3_22 ER_22 hW23
  clear cv3_10 fcv3_10 cv3_11 fcv3_11 cv3_12 fcv3_12 cv3_13 fcv3_13 cv3_14 fcv3_14 cv3_15 fcv3_15 cv3_16 fcv3_16
  have cv1_17 : (w23).cell? ⟨qv1, 17, none⟩ = some (.int .i64 d.bns) := (cell_of HBv1_23.out 17).trans rfl
  have cv3_17 : (w23).cell? ⟨qv3, 17, none⟩ = some (.int .i64 0) := (cell_of HBv3_23.out 17).trans rfl
  have fcv3_17 : (w23).frozen? ⟨qv3, 17, none⟩ = false := frozen_of HBv3_23.out 17
  go_upto_region 9 with fail
  obtain ⟨w24, hW24⟩ : ∃ W, W = (w23).setCell ⟨qv3, 17, none⟩ (.int .i64 d.bns) := ⟨_, rfl⟩
  rw [← hW24]
  have hb24 : Below w.heap.size w (w24) := by rw [hW24]; exact (hb23.setCell (p := ⟨qv3, 17, none⟩) HGv3.out _)
  have HBv1_24 : Hid ((w24).heap[qv1]? = some (.cells #[.int .i64 d.cli, .int .i64 d.qmt, .string d.qpa, .slice a3 d.qfs.length c3, .string d.qbd, .int .i64 d.rst, .slice a6 d.rfs.length c6, .string d.rbd, .int .i64 d.knd, .int .i64 d.tim, .string d.opa, .slice a11 d.oxs.length c11, .slice a12 d.oys.length c12, .int .i64 d.ost, .slice a14 d.ofs.length c14, .string d.obd, .int .i64 d.otm, .int .i64 d.bns] 107)) := by show _ = _; rw [hW24, heap_setCell_other _ _ _ _ HNv1v3.out]; exact HBv1_23.out
  have HBv2_24 : Hid ((w24).heap[qv2]? = some (.cells #[.int .i64 0, .int .i64 0, .string ⟨#[]⟩, .slice none 0 0, .string ⟨#[]⟩, .int .i64 0, .slice none 0 0, .string ⟨#[]⟩, .int .i64 0, .int .i64 0, .string ⟨#[]⟩, .slice none 0 0, .slice none 0 0, .int .i64 0, .slice none 0 0, .string ⟨#[]⟩, .int .i64 0, .int .i64 0] 68)) := by show _ = _; rw [hW24, heap_setCell_other _ _ _ _ HNv2v3.out]; exact HBv2_23.out
  have ER_24 : Hid (RowsO (w24) w.heap.size ([(⟨135, 2, (.slice o3 d.qfs.length p3), d.qfs.length, flatF d.qfs⟩ : Rw), (⟨135, 2, (.slice o6 d.rfs.length p6), d.rfs.length, flatF d.rfs⟩ : Rw), (⟨9, 1, (.slice o11 d.oxs.length p11), d.oxs.length, d.oxs.map Value.string⟩ : Rw), (⟨9, 1, (.slice o12 d.oys.length p12), d.oys.length, d.oys.map Value.string⟩ : Rw), (⟨135, 2, (.slice o14 d.ofs.length p14), d.ofs.length, flatF d.ofs⟩ : Rw)])) := by show RowsO _ _ _; rw [hW24]; exact RowsO.other ER_23.out HBv3_23.out HT5.out
  have HBv3_24 : Hid ((w24).heap[qv3]? = some (.cells #[.int .i64 d.cli, .int .i64 d.qmt, .string d.qpa, .slice o3 d.qfs.length p3, .string d.qbd, .int .i64 d.rst, .slice o6 d.rfs.length p6, .string d.rbd, .int .i64 d.knd, .int .i64 d.tim, .string d.opa, .slice o11 d.oxs.length p11, .slice o12 d.oys.length p12, .int .i64 d.ost, .slice o14 d.ofs.length p14, .string d.obd, .int .i64 d.otm, .int .i64 d.bns] 68)) := by show _ = _; rw [hW24]; have h := heap_set _ _ 17 _ _ _ (.int .i64 d.bns) HBv3_23.out; simpa using h
  clear hb23 HBv1_23 HBv2_23 HBv3_23 ER_23 hW24
  clear cv1_17 cv3_17 fcv3_17
  have HRGv3 : World.rangeAt (w24) qv3 0 [.int .i64 d.cli, .int .i64 d.qmt, .string d.qpa, .slice o3 d.qfs.length p3, .string d.qbd, .int .i64 d.rst, .slice o6 d.rfs.length p6, .string d.rbd, .int .i64 d.knd, .int .i64 d.tim, .string d.opa, .slice o11 d.oxs.length p11, .slice o12 d.oys.length p12, .int .i64 d.ost, .slice o14 d.ofs.length p14, .string d.obd, .int .i64 d.otm, .int .i64 d.bns] := range_of HBv3_24.out
  have HIFv3 : (Tryz.prog.info? 68).map (·.size) = some 18 := by kernel_rfl
  have cv2_0 : (w24).cell? ⟨qv2, 0, none⟩ = some (.int .i64 0) := (cell_of HBv2_24.out 0).trans rfl
  have fcv2_0 : (w24).frozen? ⟨qv2, 0, none⟩ = false := frozen_of HBv2_24.out 0
  have cv2_1 : (w24).cell? ⟨qv2, 1, none⟩ = some (.int .i64 0) := (cell_of HBv2_24.out 1).trans rfl
  have fcv2_1 : (w24).frozen? ⟨qv2, 1, none⟩ = false := frozen_of HBv2_24.out 1
  have cv2_2 : (w24).cell? ⟨qv2, 2, none⟩ = some (.string ⟨#[]⟩) := (cell_of HBv2_24.out 2).trans rfl
  have fcv2_2 : (w24).frozen? ⟨qv2, 2, none⟩ = false := frozen_of HBv2_24.out 2
  have cv2_3 : (w24).cell? ⟨qv2, 3, none⟩ = some (.slice none 0 0) := (cell_of HBv2_24.out 3).trans rfl
  have fcv2_3 : (w24).frozen? ⟨qv2, 3, none⟩ = false := frozen_of HBv2_24.out 3
  have cv2_4 : (w24).cell? ⟨qv2, 4, none⟩ = some (.string ⟨#[]⟩) := (cell_of HBv2_24.out 4).trans rfl
  have fcv2_4 : (w24).frozen? ⟨qv2, 4, none⟩ = false := frozen_of HBv2_24.out 4
  have cv2_5 : (w24).cell? ⟨qv2, 5, none⟩ = some (.int .i64 0) := (cell_of HBv2_24.out 5).trans rfl
  have fcv2_5 : (w24).frozen? ⟨qv2, 5, none⟩ = false := frozen_of HBv2_24.out 5
  have cv2_6 : (w24).cell? ⟨qv2, 6, none⟩ = some (.slice none 0 0) := (cell_of HBv2_24.out 6).trans rfl
  have fcv2_6 : (w24).frozen? ⟨qv2, 6, none⟩ = false := frozen_of HBv2_24.out 6
  have cv2_7 : (w24).cell? ⟨qv2, 7, none⟩ = some (.string ⟨#[]⟩) := (cell_of HBv2_24.out 7).trans rfl
  have fcv2_7 : (w24).frozen? ⟨qv2, 7, none⟩ = false := frozen_of HBv2_24.out 7
  have cv2_8 : (w24).cell? ⟨qv2, 8, none⟩ = some (.int .i64 0) := (cell_of HBv2_24.out 8).trans rfl
  have fcv2_8 : (w24).frozen? ⟨qv2, 8, none⟩ = false := frozen_of HBv2_24.out 8
  have cv2_9 : (w24).cell? ⟨qv2, 9, none⟩ = some (.int .i64 0) := (cell_of HBv2_24.out 9).trans rfl
  have fcv2_9 : (w24).frozen? ⟨qv2, 9, none⟩ = false := frozen_of HBv2_24.out 9
  have cv2_10 : (w24).cell? ⟨qv2, 10, none⟩ = some (.string ⟨#[]⟩) := (cell_of HBv2_24.out 10).trans rfl
  have fcv2_10 : (w24).frozen? ⟨qv2, 10, none⟩ = false := frozen_of HBv2_24.out 10
  have cv2_11 : (w24).cell? ⟨qv2, 11, none⟩ = some (.slice none 0 0) := (cell_of HBv2_24.out 11).trans rfl
  have fcv2_11 : (w24).frozen? ⟨qv2, 11, none⟩ = false := frozen_of HBv2_24.out 11
  have cv2_12 : (w24).cell? ⟨qv2, 12, none⟩ = some (.slice none 0 0) := (cell_of HBv2_24.out 12).trans rfl
  have fcv2_12 : (w24).frozen? ⟨qv2, 12, none⟩ = false := frozen_of HBv2_24.out 12
  have cv2_13 : (w24).cell? ⟨qv2, 13, none⟩ = some (.int .i64 0) := (cell_of HBv2_24.out 13).trans rfl
  have fcv2_13 : (w24).frozen? ⟨qv2, 13, none⟩ = false := frozen_of HBv2_24.out 13
  have cv2_14 : (w24).cell? ⟨qv2, 14, none⟩ = some (.slice none 0 0) := (cell_of HBv2_24.out 14).trans rfl
  have fcv2_14 : (w24).frozen? ⟨qv2, 14, none⟩ = false := frozen_of HBv2_24.out 14
  have cv2_15 : (w24).cell? ⟨qv2, 15, none⟩ = some (.string ⟨#[]⟩) := (cell_of HBv2_24.out 15).trans rfl
  have fcv2_15 : (w24).frozen? ⟨qv2, 15, none⟩ = false := frozen_of HBv2_24.out 15
  have cv2_16 : (w24).cell? ⟨qv2, 16, none⟩ = some (.int .i64 0) := (cell_of HBv2_24.out 16).trans rfl
  have fcv2_16 : (w24).frozen? ⟨qv2, 16, none⟩ = false := frozen_of HBv2_24.out 16
  have cv2_17 : (w24).cell? ⟨qv2, 17, none⟩ = some (.int .i64 0) := (cell_of HBv2_24.out 17).trans rfl
  have fcv2_17 : (w24).frozen? ⟨qv2, 17, none⟩ = false := frozen_of HBv2_24.out 17
  have HTH : World.there (w24) qv2 0 18 := there_of HBv2_24.out rfl
  have HIF : (Tryz.prog.info? 68).map (·.size) = some 18 := by kernel_rfl
  have HRG : World.rangeAt (w24) qv3 0 [.int .i64 d.cli, .int .i64 d.qmt, .string d.qpa, .slice o3 d.qfs.length p3, .string d.qbd, .int .i64 d.rst, .slice o6 d.rfs.length p6, .string d.rbd, .int .i64 d.knd, .int .i64 d.tim, .string d.opa, .slice o11 d.oxs.length p11, .slice o12 d.oys.length p12, .int .i64 d.ost, .slice o14 d.ofs.length p14, .string d.obd, .int .i64 d.otm, .int .i64 d.bns] := range_of HBv3_24.out
  go_wp2_with (first | (refine wpList_load_mid rfl 68 _ rfl qv3 0 rfl [.int .i64 d.cli, .int .i64 d.qmt, .string d.qpa, .slice o3 d.qfs.length p3, .string d.qbd, .int .i64 d.rst, .slice o6 d.rfs.length p6, .string d.rbd, .int .i64 d.knd, .int .i64 d.tim, .string d.opa, .slice o11 d.oxs.length p11, .slice o12 d.oys.length p12, .int .i64 d.ost, .slice o14 d.ofs.length p14, .string d.obd, .int .i64 d.otm, .int .i64 d.bns] _ HRG Tryz.underlying68 rfl HIF ?_) | (refine wpList_store_mid rfl 68 _ _ rfl qv2 0 #[.int .i64 d.cli, .int .i64 d.qmt, .string d.qpa, .slice o3 d.qfs.length p3, .string d.qbd, .int .i64 d.rst, .slice o6 d.rfs.length p6, .string d.rbd, .int .i64 d.knd, .int .i64 d.tim, .string d.opa, .slice o11 d.oxs.length p11, .slice o12 d.oys.length p12, .int .i64 d.ost, .slice o14 d.ofs.length p14, .string d.obd, .int .i64 d.otm, .int .i64 d.bns] rfl rfl HTH HIF (by simp [Value.oneCell']) ?_) | fail)
  clear HTH HIF HRG
  obtain ⟨w25, hW25⟩ : ∃ W, W = (w24).setCells qv2 0 [.int .i64 d.cli, .int .i64 d.qmt, .string d.qpa, .slice o3 d.qfs.length p3, .string d.qbd, .int .i64 d.rst, .slice o6 d.rfs.length p6, .string d.rbd, .int .i64 d.knd, .int .i64 d.tim, .string d.opa, .slice o11 d.oxs.length p11, .slice o12 d.oys.length p12, .int .i64 d.ost, .slice o14 d.ofs.length p14, .string d.obd, .int .i64 d.otm, .int .i64 d.bns] := ⟨_, rfl⟩
  have hWn : w25 = (((((((((((((((((((w24).setCell ⟨qv2, 0, none⟩ (.int .i64 d.cli)).setCell ⟨qv2, 1, none⟩ (.int .i64 d.qmt)).setCell ⟨qv2, 2, none⟩ (.string d.qpa)).setCell ⟨qv2, 3, none⟩ (.slice o3 d.qfs.length p3)).setCell ⟨qv2, 4, none⟩ (.string d.qbd)).setCell ⟨qv2, 5, none⟩ (.int .i64 d.rst)).setCell ⟨qv2, 6, none⟩ (.slice o6 d.rfs.length p6)).setCell ⟨qv2, 7, none⟩ (.string d.rbd)).setCell ⟨qv2, 8, none⟩ (.int .i64 d.knd)).setCell ⟨qv2, 9, none⟩ (.int .i64 d.tim)).setCell ⟨qv2, 10, none⟩ (.string d.opa)).setCell ⟨qv2, 11, none⟩ (.slice o11 d.oxs.length p11)).setCell ⟨qv2, 12, none⟩ (.slice o12 d.oys.length p12)).setCell ⟨qv2, 13, none⟩ (.int .i64 d.ost)).setCell ⟨qv2, 14, none⟩ (.slice o14 d.ofs.length p14)).setCell ⟨qv2, 15, none⟩ (.string d.obd)).setCell ⟨qv2, 16, none⟩ (.int .i64 d.otm)).setCell ⟨qv2, 17, none⟩ (.int .i64 d.bns)) := hW25
  first | rw [← hWn] | rw [← hW25]
  clear hWn
  have hb25 : Below w.heap.size w (w25) := by rw [hW25]; exact big_below HGv2.out hb24
  have HBv1_25 : Hid ((w25).heap[qv1]? = some (.cells #[.int .i64 d.cli, .int .i64 d.qmt, .string d.qpa, .slice a3 d.qfs.length c3, .string d.qbd, .int .i64 d.rst, .slice a6 d.rfs.length c6, .string d.rbd, .int .i64 d.knd, .int .i64 d.tim, .string d.opa, .slice a11 d.oxs.length c11, .slice a12 d.oys.length c12, .int .i64 d.ost, .slice a14 d.ofs.length c14, .string d.obd, .int .i64 d.otm, .int .i64 d.bns] 107)) := by show _ = _; rw [hW25, big_other HNv1v2.out]; exact HBv1_24.out
  have HBv3_25 : Hid ((w25).heap[qv3]? = some (.cells #[.int .i64 d.cli, .int .i64 d.qmt, .string d.qpa, .slice o3 d.qfs.length p3, .string d.qbd, .int .i64 d.rst, .slice o6 d.rfs.length p6, .string d.rbd, .int .i64 d.knd, .int .i64 d.tim, .string d.opa, .slice o11 d.oxs.length p11, .slice o12 d.oys.length p12, .int .i64 d.ost, .slice o14 d.ofs.length p14, .string d.obd, .int .i64 d.otm, .int .i64 d.bns] 68)) := by show _ = _; rw [hW25, big_other HNv2v3.out.symm]; exact HBv3_24.out
  have ER_25 : Hid (RowsO (w25) w.heap.size ([(⟨135, 2, (.slice o3 d.qfs.length p3), d.qfs.length, flatF d.qfs⟩ : Rw), (⟨135, 2, (.slice o6 d.rfs.length p6), d.rfs.length, flatF d.rfs⟩ : Rw), (⟨9, 1, (.slice o11 d.oxs.length p11), d.oxs.length, d.oxs.map Value.string⟩ : Rw), (⟨9, 1, (.slice o12 d.oys.length p12), d.oys.length, d.oys.map Value.string⟩ : Rw), (⟨135, 2, (.slice o14 d.ofs.length p14), d.ofs.length, flatF d.ofs⟩ : Rw)])) := by show RowsO _ _ _; rw [hW25]; exact RowsO.big ER_24.out HBv2_24.out HT5.out
  have HBv2_25 : Hid ((w25).heap[qv2]? = some (.cells #[.int .i64 d.cli, .int .i64 d.qmt, .string d.qpa, .slice o3 d.qfs.length p3, .string d.qbd, .int .i64 d.rst, .slice o6 d.rfs.length p6, .string d.rbd, .int .i64 d.knd, .int .i64 d.tim, .string d.opa, .slice o11 d.oxs.length p11, .slice o12 d.oys.length p12, .int .i64 d.ost, .slice o14 d.ofs.length p14, .string d.obd, .int .i64 d.otm, .int .i64 d.bns] 68)) := by show _ = _; rw [hW25]; exact big_block (ds := #[.int .i64 d.cli, .int .i64 d.qmt, .string d.qpa, .slice o3 d.qfs.length p3, .string d.qbd, .int .i64 d.rst, .slice o6 d.rfs.length p6, .string d.rbd, .int .i64 d.knd, .int .i64 d.tim, .string d.opa, .slice o11 d.oxs.length p11, .slice o12 d.oys.length p12, .int .i64 d.ost, .slice o14 d.ofs.length p14, .string d.obd, .int .i64 d.otm, .int .i64 d.bns]) HBv2_24.out rfl
  clear hb24 HBv1_24 HBv2_24 HBv3_24 ER_24 hW25
  clear HRGv3 HIFv3 cv2_0 fcv2_0 cv2_1 fcv2_1 cv2_2 fcv2_2 cv2_3 fcv2_3 cv2_4 fcv2_4 cv2_5 fcv2_5 cv2_6 fcv2_6 cv2_7 fcv2_7 cv2_8 fcv2_8 cv2_9 fcv2_9 cv2_10 fcv2_10 cv2_11 fcv2_11 cv2_12 fcv2_12 cv2_13 fcv2_13 cv2_14 fcv2_14 cv2_15 fcv2_15 cv2_16 fcv2_16 cv2_17 fcv2_17
  have kv2_0 : (w25).cell? ⟨qv2, 0, none⟩ = some (.int .i64 d.cli) := (cell_of HBv2_25.out 0).trans rfl
  have kv2_1 : (w25).cell? ⟨qv2, 1, none⟩ = some (.int .i64 d.qmt) := (cell_of HBv2_25.out 1).trans rfl
  have kv2_2 : (w25).cell? ⟨qv2, 2, none⟩ = some (.string d.qpa) := (cell_of HBv2_25.out 2).trans rfl
  have kv2_3 : (w25).cell? ⟨qv2, 3, none⟩ = some (.slice o3 d.qfs.length p3) := (cell_of HBv2_25.out 3).trans rfl
  have kv2_4 : (w25).cell? ⟨qv2, 4, none⟩ = some (.string d.qbd) := (cell_of HBv2_25.out 4).trans rfl
  have kv2_5 : (w25).cell? ⟨qv2, 5, none⟩ = some (.int .i64 d.rst) := (cell_of HBv2_25.out 5).trans rfl
  have kv2_6 : (w25).cell? ⟨qv2, 6, none⟩ = some (.slice o6 d.rfs.length p6) := (cell_of HBv2_25.out 6).trans rfl
  have kv2_7 : (w25).cell? ⟨qv2, 7, none⟩ = some (.string d.rbd) := (cell_of HBv2_25.out 7).trans rfl
  have kv2_8 : (w25).cell? ⟨qv2, 8, none⟩ = some (.int .i64 d.knd) := (cell_of HBv2_25.out 8).trans rfl
  have kv2_9 : (w25).cell? ⟨qv2, 9, none⟩ = some (.int .i64 d.tim) := (cell_of HBv2_25.out 9).trans rfl
  have kv2_10 : (w25).cell? ⟨qv2, 10, none⟩ = some (.string d.opa) := (cell_of HBv2_25.out 10).trans rfl
  have kv2_11 : (w25).cell? ⟨qv2, 11, none⟩ = some (.slice o11 d.oxs.length p11) := (cell_of HBv2_25.out 11).trans rfl
  have kv2_12 : (w25).cell? ⟨qv2, 12, none⟩ = some (.slice o12 d.oys.length p12) := (cell_of HBv2_25.out 12).trans rfl
  have kv2_13 : (w25).cell? ⟨qv2, 13, none⟩ = some (.int .i64 d.ost) := (cell_of HBv2_25.out 13).trans rfl
  have kv2_14 : (w25).cell? ⟨qv2, 14, none⟩ = some (.slice o14 d.ofs.length p14) := (cell_of HBv2_25.out 14).trans rfl
  have kv2_15 : (w25).cell? ⟨qv2, 15, none⟩ = some (.string d.obd) := (cell_of HBv2_25.out 15).trans rfl
  have kv2_16 : (w25).cell? ⟨qv2, 16, none⟩ = some (.int .i64 d.otm) := (cell_of HBv2_25.out 16).trans rfl
  have kv2_17 : (w25).cell? ⟨qv2, 17, none⟩ = some (.int .i64 d.bns) := (cell_of HBv2_25.out 17).trans rfl
  refine bodyPost_ret (v := .agg #[.int .i64 d.cli, .int .i64 d.qmt, .string d.qpa, .slice o3 d.qfs.length p3, .string d.qbd, .int .i64 d.rst, .slice o6 d.rfs.length p6, .string d.rbd, .int .i64 d.knd, .int .i64 d.tim, .string d.opa, .slice o11 d.oxs.length p11, .slice o12 d.oys.length p12, .int .i64 d.ost, .slice o14 d.ofs.length p14, .string d.obd, .int .i64 d.otm, .int .i64 d.bns]) (by simp [results, Tryz.results48, go_sem, kv2_0, kv2_1, kv2_2, kv2_3, kv2_4, kv2_5, kv2_6, kv2_7, kv2_8, kv2_9, kv2_10, kv2_11, kv2_12, kv2_13, kv2_14, kv2_15, kv2_16, kv2_17]) rfl ?_
  exact ⟨⟨d, .slice o3 d.qfs.length p3, .slice o6 d.rfs.length p6, .slice o11 d.oxs.length p11, .slice o12 d.oys.length p12, .slice o14 d.ofs.length p14⟩, rfl, rfl, ER_25.out, hb25⟩

/-- No greater than may be. -/
structure RpMax (d : RpD) : Prop where
  qpa : d.qpa.size ≤ maxLen
  qfs : d.qfs.length ≤ maxLen ∧ WalkF d.qfs.length d.qfs
  qbd : d.qbd.size ≤ maxLen
  rfs : d.rfs.length ≤ maxLen ∧ WalkF d.rfs.length d.rfs
  rbd : d.rbd.size ≤ maxLen
  opa : d.opa.size ≤ maxLen
  oxs : d.oxs.length ≤ maxLen ∧ ∀ i, i < d.oxs.length → (textAt d.oxs i).size ≤ maxLen
  oys : d.oys.length ≤ maxLen ∧ ∀ i, i < d.oys.length → (textAt d.oys i).size ≤ maxLen
  ofs : d.ofs.length ≤ maxLen ∧ WalkF d.ofs.length d.ofs
  obd : d.obd.size ≤ maxLen
  tms : -9223372036854775808 ≤ d.otm ∧ d.tim ≤ 9223372036854775807
  cls : -9223372036854775808 ≤ d.cli ∧ d.cli ≤ 9223372036854775807
/-- Small enough to be measured. -/
structure RpSmall (d : RpD) : Prop where
  qpa : d.qpa.size ≤ 1048576
  qfs : d.qfs.length ≤ 1048576 ∧ szTo d.qfs d.qfs.length ≤ 1048576
  qbd : d.qbd.size ≤ 1048576
  rfs : d.rfs.length ≤ 1048576 ∧ szTo d.rfs d.rfs.length ≤ 1048576
  rbd : d.rbd.size ≤ 1048576
  opa : d.opa.size ≤ 1048576
  oxs : d.oxs.length ≤ 1048576 ∧ ∀ i, i < d.oxs.length → (textAt d.oxs i).size ≤ 1048576
  oys : d.oys.length ≤ 1048576 ∧ ∀ i, i < d.oys.length → (textAt d.oys i).size ≤ 1048576
  ofs : d.ofs.length ≤ 1048576 ∧ szTo d.ofs d.ofs.length ≤ 1048576
  obd : d.obd.size ≤ 1048576
theorem RpSmall.lens {d : RpD} (h : RpSmall d) : RpLen d := ⟨h.qfs.1, h.rfs.1, h.oxs.1, h.oys.1, h.ofs.1⟩
/-- How many there are, lists and their elements together. -/
def wtRp : List RpD → Nat
  | [] => 0
  | d :: r => 1 + (d.qfs.length + d.rfs.length + d.oxs.length + d.oys.length + d.ofs.length) + wtRp r
theorem wtRp_snoc (d : RpD) : ∀ l : List RpD, wtRp (l ++ [d]) = wtRp l + (1 + (d.qfs.length + d.rfs.length + d.oxs.length + d.oys.length + d.ofs.length))
  | [] => by simp [wtRp]
  | x :: l => by rw [List.cons_append, wtRp, wtRp_snoc d l, wtRp]; omega
theorem wtRp_ge : ∀ l : List RpD, l.length ≤ wtRp l
  | [] => Nat.le_refl _
  | x :: l => by rw [wtRp, List.length_cons]; have := wtRp_ge l; omega
def SzRp (L : Int) (d : RpD) (w : World) (e : Ending) (w' : World) : Prop :=
  ∃ r : Int, e = .returned (.int .i64 r) ∧ r ≤ L ∧ (0 ≤ r → r + ((d.qfs.length + d.rfs.length + d.oxs.length + d.oys.length + d.ofs.length : Nat) : Int) ≤ L ∧ RpSmall d) ∧ Below w.heap.size w w'

set_option maxHeartbeats 8000000 in
set_option maxRecDepth 100000 in
theorem szReply_any (L : Int) (hL0 : 0 ≤ L) (hL1 : L ≤ 1048576) (d : RpD) (a3 : Option Addr) (c3 : Nat) (a6 : Option Addr) (c6 : Nat) (a11 : Option Addr) (c11 : Nat) (a12 : Option Addr) (c12 : Nat) (a14 : Option Addr) (c14 : Nat) (B : Nat) (w : World) (h3 : ArgF w B a3 d.qfs.length d.qfs) (h6 : ArgF w B a6 d.rfs.length d.rfs) (h11 : ArgT w B a11 d.oxs.length d.oxs) (h12 : ArgT w B a12 d.oys.length d.oys) (h14 : ArgF w B a14 d.ofs.length d.ofs) (hB : B ≤ w.heap.size) (hm : RpMax d) :
    Calls Tryz.prog 41 #[.agg #[.int .i64 d.cli, .int .i64 d.qmt, .string d.qpa, .slice a3 d.qfs.length c3, .string d.qbd, .int .i64 d.rst, .slice a6 d.rfs.length c6, .string d.rbd, .int .i64 d.knd, .int .i64 d.tim, .string d.opa, .slice a11 d.oxs.length c11, .slice a12 d.oys.length c12, .int .i64 d.ost, .slice a14 d.ofs.length c14, .string d.obd, .int .i64 d.otm, .int .i64 d.bns], .int .i64 L] w fun e w' => SzRp L d w e w' := by
  have HA3 : Hid (∀ W, Below w.heap.size w W → ArgF W B a3 d.qfs.length d.qfs) := fun W h => h3.below (h.mono hB)
  have HA6 : Hid (∀ W, Below w.heap.size w W → ArgF W B a6 d.rfs.length d.rfs) := fun W h => h6.below (h.mono hB)
  have HA11 : Hid (∀ W, Below w.heap.size w W → ArgT W B a11 d.oxs.length d.oxs) := fun W h => h11.below (h.mono hB)
  have HA12 : Hid (∀ W, Below w.heap.size w W → ArgT W B a12 d.oys.length d.oys) := fun W h => h12.below (h.mono hB)
  have HA14 : Hid (∀ W, Below w.heap.size w W → ArgF W B a14 d.ofs.length d.ofs) := fun W h => h14.below (h.mono hB)
  have HBB : Hid (∀ W, Below w.heap.size w W → B ≤ W.heap.size) := fun W h => Nat.le_trans hB h.size
  clear h3 h6 h11 h12 h14
  have HMX : Hid (RpMax d) := hm
  clear hm
  have hb0 : Below w.heap.size w w := Below.refl _ _
  go_enter Tryz.func41, Tryz.ntmps41
  go_upto_region 1 with fail
  obtain ⟨qv1, hqv1⟩ : ∃ q, q = (w).heap.size := ⟨_, rfl⟩
  obtain ⟨w1, hW1⟩ : ∃ W, W = (w).alloc (.cells #[.int .i64 d.cli, .int .i64 d.qmt, .string d.qpa, .slice a3 d.qfs.length c3, .string d.qbd, .int .i64 d.rst, .slice a6 d.rfs.length c6, .string d.rbd, .int .i64 d.knd, .int .i64 d.tim, .string d.opa, .slice a11 d.oxs.length c11, .slice a12 d.oys.length c12, .int .i64 d.ost, .slice a14 d.ofs.length c14, .string d.obd, .int .i64 d.otm, .int .i64 d.bns] 107) := ⟨_, rfl⟩
  have hz1 : (w).heap.size = qv1 := hqv1.symm
  first | rw [← hW1, ← hqv1] | rw [← hW1]
  have hs1 : w1.heap.size = qv1 + 1 := by rw [hW1, ← hz1]; simp
  have bw : Below (w).heap.size (w) w1 := by rw [hW1]; exact (Below.refl _ _).alloc (Nat.le_refl _) _
  have hb1 : Below w.heap.size w (w1) := hb0.trans (bw.mono hb0.size)
  have HBv1_1 : Hid ((w1).heap[qv1]? = some (.cells #[.int .i64 d.cli, .int .i64 d.qmt, .string d.qpa, .slice a3 d.qfs.length c3, .string d.qbd, .int .i64 d.rst, .slice a6 d.rfs.length c6, .string d.rbd, .int .i64 d.knd, .int .i64 d.tim, .string d.opa, .slice a11 d.oxs.length c11, .slice a12 d.oys.length c12, .int .i64 d.ost, .slice a14 d.ofs.length c14, .string d.obd, .int .i64 d.otm, .int .i64 d.bns] 107)) := by show _ = _; rw [hW1, ← hz1]; exact heap_alloc_new _ _
  clear hb0 bw hW1 hz1
  clear hs1 hqv1
  have cv1_1 : (w1).cell? ⟨qv1, 1, none⟩ = some (.int .i64 d.qmt) := (cell_of HBv1_1.out 1).trans rfl
  have cv1_2 : (w1).cell? ⟨qv1, 2, none⟩ = some (.string d.qpa) := (cell_of HBv1_1.out 2).trans rfl
  have cv1_3 : (w1).cell? ⟨qv1, 3, none⟩ = some (.slice a3 d.qfs.length c3) := (cell_of HBv1_1.out 3).trans rfl
  have cv1_4 : (w1).cell? ⟨qv1, 4, none⟩ = some (.string d.qbd) := (cell_of HBv1_1.out 4).trans rfl
  go_wp2_with fail
  refine (szReq_room L (by omega) (by omega) d.qmt d.qpa a3 d.qfs.length c3 d.qbd d.qfs _ (argUpF (HA3.out _ hb1) (HBB.out _ hb1)) HMX.out.qfs.1 HMX.out.qfs.2 HMX.out.qpa HMX.out.qbd).mono ?_
  rintro e w2 ⟨r1, rfl, hl1, hr1, bw⟩
  have hb2 : Below w.heap.size w (w2) := hb1.trans (bw.mono hb1.size)
  have HBv1_2 : Hid ((w2).heap[qv1]? = some (.cells #[.int .i64 d.cli, .int .i64 d.qmt, .string d.qpa, .slice a3 d.qfs.length c3, .string d.qbd, .int .i64 d.rst, .slice a6 d.rfs.length c6, .string d.rbd, .int .i64 d.knd, .int .i64 d.tim, .string d.opa, .slice a11 d.oxs.length c11, .slice a12 d.oys.length c12, .int .i64 d.ost, .slice a14 d.ofs.length c14, .string d.obd, .int .i64 d.otm, .int .i64 d.bns] 107)) := blk_below HBv1_1.out bw
  clear hb1 HBv1_1 bw
  clear cv1_1 cv1_2 cv1_3 cv1_4
  by_cases hc1 : r1 < 0
  · clear hr1
    go_wp2_with fail
    go_ret
    exact ⟨-1, rfl, by omega, fun h => absurd h (by omega), hb2⟩
  · have HR1 : Hid _ := hr1 (by omega)
    clear hr1
    have mr1 := HR1.out.1
    have cv1_5 : (w2).cell? ⟨qv1, 5, none⟩ = some (.int .i64 d.rst) := (cell_of HBv1_2.out 5).trans rfl
    have cv1_6 : (w2).cell? ⟨qv1, 6, none⟩ = some (.slice a6 d.rfs.length c6) := (cell_of HBv1_2.out 6).trans rfl
    have cv1_7 : (w2).cell? ⟨qv1, 7, none⟩ = some (.string d.rbd) := (cell_of HBv1_2.out 7).trans rfl
    go_wp2_with fail
    refine (szResp_room r1 (by omega) (by omega) d.rst a6 d.rfs.length c6 d.rbd d.rfs _ (argUpF (HA6.out _ hb2) (HBB.out _ hb2)) HMX.out.rfs.1 HMX.out.rfs.2 HMX.out.rbd).mono ?_
    rintro e w3 ⟨r2, rfl, hl2, hr2, bw⟩
    have hb3 : Below w.heap.size w (w3) := hb2.trans (bw.mono hb2.size)
    have HBv1_3 : Hid ((w3).heap[qv1]? = some (.cells #[.int .i64 d.cli, .int .i64 d.qmt, .string d.qpa, .slice a3 d.qfs.length c3, .string d.qbd, .int .i64 d.rst, .slice a6 d.rfs.length c6, .string d.rbd, .int .i64 d.knd, .int .i64 d.tim, .string d.opa, .slice a11 d.oxs.length c11, .slice a12 d.oys.length c12, .int .i64 d.ost, .slice a14 d.ofs.length c14, .string d.obd, .int .i64 d.otm, .int .i64 d.bns] 107)) := blk_below HBv1_2.out bw
    clear hb2 HBv1_2 bw
    clear cv1_5 cv1_6 cv1_7
    by_cases hc2 : r2 < 0
    · clear hr2
      go_wp2_with fail
      go_ret
      exact ⟨-1, rfl, by omega, fun h => absurd h (by omega), hb3⟩
    · have HR2 : Hid _ := hr2 (by omega)
      clear hr2
      have mr2 := HR2.out.1
      have cv1_10 : (w3).cell? ⟨qv1, 10, none⟩ = some (.string d.opa) := (cell_of HBv1_3.out 10).trans rfl
      have cv1_11 : (w3).cell? ⟨qv1, 11, none⟩ = some (.slice a11 d.oxs.length c11) := (cell_of HBv1_3.out 11).trans rfl
      have cv1_12 : (w3).cell? ⟨qv1, 12, none⟩ = some (.slice a12 d.oys.length c12) := (cell_of HBv1_3.out 12).trans rfl
      have cv1_13 : (w3).cell? ⟨qv1, 13, none⟩ = some (.int .i64 d.ost) := (cell_of HBv1_3.out 13).trans rfl
      have cv1_14 : (w3).cell? ⟨qv1, 14, none⟩ = some (.slice a14 d.ofs.length c14) := (cell_of HBv1_3.out 14).trans rfl
      have cv1_15 : (w3).cell? ⟨qv1, 15, none⟩ = some (.string d.obd) := (cell_of HBv1_3.out 15).trans rfl
      have cv1_16 : (w3).cell? ⟨qv1, 16, none⟩ = some (.int .i64 d.otm) := (cell_of HBv1_3.out 16).trans rfl
      go_wp2_with fail
      refine (szObj_any r2 (by omega) (by omega) d.opa a11 d.oxs.length c11 d.oxs a12 d.oys.length c12 d.oys d.ost a14 d.ofs.length c14 d.ofs d.obd d.otm B _ (HA11.out _ hb3) (HA12.out _ hb3) (HA14.out _ hb3) (HBB.out _ hb3) HMX.out.oxs.1 HMX.out.oys.1 HMX.out.ofs.1 HMX.out.oxs.2 HMX.out.oys.2 HMX.out.ofs.2 HMX.out.opa HMX.out.obd).mono ?_
      rintro e w4 ⟨r3, rfl, hl3, hr3, bw⟩
      have hb4 : Below w.heap.size w (w4) := hb3.trans (bw.mono hb3.size)
      have HBv1_4 : Hid ((w4).heap[qv1]? = some (.cells #[.int .i64 d.cli, .int .i64 d.qmt, .string d.qpa, .slice a3 d.qfs.length c3, .string d.qbd, .int .i64 d.rst, .slice a6 d.rfs.length c6, .string d.rbd, .int .i64 d.knd, .int .i64 d.tim, .string d.opa, .slice a11 d.oxs.length c11, .slice a12 d.oys.length c12, .int .i64 d.ost, .slice a14 d.ofs.length c14, .string d.obd, .int .i64 d.otm, .int .i64 d.bns] 107)) := blk_below HBv1_3.out bw
      clear hb3 HBv1_3 bw
      clear cv1_10 cv1_11 cv1_12 cv1_13 cv1_14 cv1_15 cv1_16
      by_cases hc3 : r3 < 0
      · clear hr3
        go_wp2_with fail
        go_ret
        exact ⟨-1, rfl, by omega, fun h => absurd h (by omega), hb4⟩
      · have HR3 : Hid _ := hr3 (by omega)
        clear hr3
        have mr3 := HR3.out.1
        go_wp2_with fail
        go_ret
        exact ⟨r3, rfl, by omega, fun _ => ⟨by omega, ⟨HR1.out.2.1.1, ⟨HR1.out.2.2.1, HR1.out.2.2.2⟩, HR1.out.2.1.2, ⟨HR2.out.2.2.1, HR2.out.2.2.2⟩, HR2.out.2.1, HR3.out.2.1.1, HR3.out.2.2.1, HR3.out.2.2.2.1, ⟨HR3.out.2.2.2.2.1, HR3.out.2.2.2.2.2⟩, HR3.out.2.1.2⟩⟩, hb4⟩

/-- Lengths that may be compared. -/
structure RpLim (d : RpD) : Prop where
  qfs : d.qfs.length ≤ 2000000
  rfs : d.rfs.length ≤ 2000000
  oxs : d.oxs.length ≤ 2000000
  oys : d.oys.length ≤ 2000000
  ofs : d.ofs.length ≤ 2000000
theorem RpLen.lim {d : RpD} (h : RpLen d) : RpLim d := ⟨Nat.le_trans h.qfs (by decide), Nat.le_trans h.rfs (by decide), Nat.le_trans h.oxs (by decide), Nat.le_trans h.oys (by decide), Nat.le_trans h.ofs (by decide)⟩

set_option maxHeartbeats 8000000 in
set_option maxRecDepth 100000 in
theorem eqReply_any (d : RpD) (x y : RpV) (B1 B2 : Nat) (w : World) (hxd : x.d = d) (hyd : y.d = d) (hx : RowsO w B1 (rpR x)) (hy : RowsO w B2 (rpR y)) (hn : RpLim d) :
    Calls Tryz.prog 60 #[.agg #[.int .i64 x.d.cli, .int .i64 x.d.qmt, .string x.d.qpa, x.v3, .string x.d.qbd, .int .i64 x.d.rst, x.v6, .string x.d.rbd, .int .i64 x.d.knd, .int .i64 x.d.tim, .string x.d.opa, x.v11, x.v12, .int .i64 x.d.ost, x.v14, .string x.d.obd, .int .i64 x.d.otm, .int .i64 x.d.bns], .agg #[.int .i64 y.d.cli, .int .i64 y.d.qmt, .string y.d.qpa, y.v3, .string y.d.qbd, .int .i64 y.d.rst, y.v6, .string y.d.rbd, .int .i64 y.d.knd, .int .i64 y.d.tim, .string y.d.opa, y.v11, y.v12, .int .i64 y.d.ost, y.v14, .string y.d.obd, .int .i64 y.d.otm, .int .i64 y.d.bns]] w fun e w' => e = .returned (.bool true) ∧ Below w.heap.size w w' := by
  have hd : y.d = d := hyd
  have hd2 : x.d = d := hxd
  have HxO3 : Hid (∀ W : World, RowsO W B1 (rpR x) → W.ownsRow B1 135 2 x.v3 d.qfs.length (flatF d.qfs)) := fun W h => by
    have h2 := h.own (⟨135, 2, x.v3, x.d.qfs.length, flatF x.d.qfs⟩ : Rw) (by simp [rpR])
    unfold Rw.own at h2
    dsimp only at h2
    rw [hxd] at h2
    exact h2
  have HxO6 : Hid (∀ W : World, RowsO W B1 (rpR x) → W.ownsRow B1 135 2 x.v6 d.rfs.length (flatF d.rfs)) := fun W h => by
    have h2 := h.own (⟨135, 2, x.v6, x.d.rfs.length, flatF x.d.rfs⟩ : Rw) (by simp [rpR])
    unfold Rw.own at h2
    dsimp only at h2
    rw [hxd] at h2
    exact h2
  have HxO11 : Hid (∀ W : World, RowsO W B1 (rpR x) → W.ownsRow B1 9 1 x.v11 d.oxs.length (d.oxs.map Value.string)) := fun W h => by
    have h2 := h.own (⟨9, 1, x.v11, x.d.oxs.length, x.d.oxs.map Value.string⟩ : Rw) (by simp [rpR])
    unfold Rw.own at h2
    dsimp only at h2
    rw [hxd] at h2
    exact h2
  have HxO12 : Hid (∀ W : World, RowsO W B1 (rpR x) → W.ownsRow B1 9 1 x.v12 d.oys.length (d.oys.map Value.string)) := fun W h => by
    have h2 := h.own (⟨9, 1, x.v12, x.d.oys.length, x.d.oys.map Value.string⟩ : Rw) (by simp [rpR])
    unfold Rw.own at h2
    dsimp only at h2
    rw [hxd] at h2
    exact h2
  have HxO14 : Hid (∀ W : World, RowsO W B1 (rpR x) → W.ownsRow B1 135 2 x.v14 d.ofs.length (flatF d.ofs)) := fun W h => by
    have h2 := h.own (⟨135, 2, x.v14, x.d.ofs.length, flatF x.d.ofs⟩ : Rw) (by simp [rpR])
    unfold Rw.own at h2
    dsimp only at h2
    rw [hxd] at h2
    exact h2
  have HxOO : Hid (∀ W : World, RowsO W B1 (rpR x) → ObjO W B1 x.v11 d.oxs.length d.oxs x.v12 d.oys.length d.oys x.v14 d.ofs.length d.ofs) := fun W h => by
    have h2 : RowsO W B1 [(⟨9, 1, x.v11, x.d.oxs.length, x.d.oxs.map Value.string⟩ : Rw), (⟨9, 1, x.v12, x.d.oys.length, x.d.oys.map Value.string⟩ : Rw), (⟨135, 2, x.v14, x.d.ofs.length, flatF x.d.ofs⟩ : Rw)] := RowsO.sub h (by unfold rpR; apply List.Sublist.cons; apply List.Sublist.cons; exact List.Sublist.refl _)
    have h3 := rows_obj3 h2
    rw [hxd] at h3
    exact h3
  have HyO3 : Hid (∀ W : World, RowsO W B2 (rpR y) → W.ownsRow B2 135 2 y.v3 d.qfs.length (flatF d.qfs)) := fun W h => by
    have h2 := h.own (⟨135, 2, y.v3, y.d.qfs.length, flatF y.d.qfs⟩ : Rw) (by simp [rpR])
    unfold Rw.own at h2
    dsimp only at h2
    rw [hyd] at h2
    exact h2
  have HyO6 : Hid (∀ W : World, RowsO W B2 (rpR y) → W.ownsRow B2 135 2 y.v6 d.rfs.length (flatF d.rfs)) := fun W h => by
    have h2 := h.own (⟨135, 2, y.v6, y.d.rfs.length, flatF y.d.rfs⟩ : Rw) (by simp [rpR])
    unfold Rw.own at h2
    dsimp only at h2
    rw [hyd] at h2
    exact h2
  have HyO11 : Hid (∀ W : World, RowsO W B2 (rpR y) → W.ownsRow B2 9 1 y.v11 d.oxs.length (d.oxs.map Value.string)) := fun W h => by
    have h2 := h.own (⟨9, 1, y.v11, y.d.oxs.length, y.d.oxs.map Value.string⟩ : Rw) (by simp [rpR])
    unfold Rw.own at h2
    dsimp only at h2
    rw [hyd] at h2
    exact h2
  have HyO12 : Hid (∀ W : World, RowsO W B2 (rpR y) → W.ownsRow B2 9 1 y.v12 d.oys.length (d.oys.map Value.string)) := fun W h => by
    have h2 := h.own (⟨9, 1, y.v12, y.d.oys.length, y.d.oys.map Value.string⟩ : Rw) (by simp [rpR])
    unfold Rw.own at h2
    dsimp only at h2
    rw [hyd] at h2
    exact h2
  have HyO14 : Hid (∀ W : World, RowsO W B2 (rpR y) → W.ownsRow B2 135 2 y.v14 d.ofs.length (flatF d.ofs)) := fun W h => by
    have h2 := h.own (⟨135, 2, y.v14, y.d.ofs.length, flatF y.d.ofs⟩ : Rw) (by simp [rpR])
    unfold Rw.own at h2
    dsimp only at h2
    rw [hyd] at h2
    exact h2
  have HyOO : Hid (∀ W : World, RowsO W B2 (rpR y) → ObjO W B2 y.v11 d.oxs.length d.oxs y.v12 d.oys.length d.oys y.v14 d.ofs.length d.ofs) := fun W h => by
    have h2 : RowsO W B2 [(⟨9, 1, y.v11, y.d.oxs.length, y.d.oxs.map Value.string⟩ : Rw), (⟨9, 1, y.v12, y.d.oys.length, y.d.oys.map Value.string⟩ : Rw), (⟨135, 2, y.v14, y.d.ofs.length, flatF y.d.ofs⟩ : Rw)] := RowsO.sub h (by unfold rpR; apply List.Sublist.cons; apply List.Sublist.cons; exact List.Sublist.refl _)
    have h3 := rows_obj3 h2
    rw [hyd] at h3
    exact h3
  have ecli : (d.cli != d.cli) = false := by simp
  have eqmt : (d.qmt != d.qmt) = false := by simp
  have erst : (d.rst != d.rst) = false := by simp
  have eknd : (d.knd != d.knd) = false := by simp
  have etim : (d.tim != d.tim) = false := by simp
  have eost : (d.ost != d.ost) = false := by simp
  have eotm : (d.otm != d.otm) = false := by simp
  have ebns : (d.bns != d.bns) = false := by simp
  have Ex_0 : Hid (RowsO w B1 (rpR x)) := hx
  have Ey_0 : Hid (RowsO w B2 (rpR y)) := hy
  rw [hxd, hyd]
  clear hx hy hd hd2 hxd hyd
  have hb0 : Below w.heap.size w w := Below.refl _ _
  go_enter Tryz.func60, Tryz.ntmps60
  go_upto_region 1 with fail
  obtain ⟨qv1, hqv1⟩ : ∃ q, q = (w).heap.size := ⟨_, rfl⟩
  obtain ⟨w1, hW1⟩ : ∃ W, W = (w).alloc (.cells #[.int .i64 d.cli, .int .i64 d.qmt, .string d.qpa, x.v3, .string d.qbd, .int .i64 d.rst, x.v6, .string d.rbd, .int .i64 d.knd, .int .i64 d.tim, .string d.opa, x.v11, x.v12, .int .i64 d.ost, x.v14, .string d.obd, .int .i64 d.otm, .int .i64 d.bns] 68) := ⟨_, rfl⟩
  have hz1 : (w).heap.size = qv1 := hqv1.symm
  first | rw [← hW1, ← hqv1] | rw [← hW1]
  have hs1 : w1.heap.size = qv1 + 1 := by rw [hW1, ← hz1]; simp
  have bw : Below (w).heap.size (w) w1 := by rw [hW1]; exact (Below.refl _ _).alloc (Nat.le_refl _) _
  have hb1 : Below w.heap.size w (w1) := hb0.trans (bw.mono hb0.size)
  have Ex_1 : Hid (RowsO (w1) B1 (rpR x)) := Ex_0.out.below bw
  have Ey_1 : Hid (RowsO (w1) B2 (rpR y)) := Ey_0.out.below bw
  have HBv1_1 : Hid ((w1).heap[qv1]? = some (.cells #[.int .i64 d.cli, .int .i64 d.qmt, .string d.qpa, x.v3, .string d.qbd, .int .i64 d.rst, x.v6, .string d.rbd, .int .i64 d.knd, .int .i64 d.tim, .string d.opa, x.v11, x.v12, .int .i64 d.ost, x.v14, .string d.obd, .int .i64 d.otm, .int .i64 d.bns] 68)) := by show _ = _; rw [hW1, ← hz1]; exact heap_alloc_new _ _
  clear hb0 Ex_0 Ey_0 bw hW1 hz1
  obtain ⟨qv2, hqv2⟩ : ∃ q, q = qv1 + 1 := ⟨_, rfl⟩
  obtain ⟨w2, hW2⟩ : ∃ W, W = (w1).alloc (.cells #[.int .i64 d.cli, .int .i64 d.qmt, .string d.qpa, y.v3, .string d.qbd, .int .i64 d.rst, y.v6, .string d.rbd, .int .i64 d.knd, .int .i64 d.tim, .string d.opa, y.v11, y.v12, .int .i64 d.ost, y.v14, .string d.obd, .int .i64 d.otm, .int .i64 d.bns] 68) := ⟨_, rfl⟩
  have hz2 : (w1).heap.size = qv2 := by rw [hqv2]; exact hs1
  first | rw [← hW2, ← hqv2] | rw [← hW2]
  have hs2 : w2.heap.size = qv2 + 1 := by rw [hW2, ← hz2]; simp
  have bw : Below (w1).heap.size (w1) w2 := by rw [hW2]; exact (Below.refl _ _).alloc (Nat.le_refl _) _
  have hb2 : Below w.heap.size w (w2) := hb1.trans (bw.mono hb1.size)
  have HBv1_2 : Hid ((w2).heap[qv1]? = some (.cells #[.int .i64 d.cli, .int .i64 d.qmt, .string d.qpa, x.v3, .string d.qbd, .int .i64 d.rst, x.v6, .string d.rbd, .int .i64 d.knd, .int .i64 d.tim, .string d.opa, x.v11, x.v12, .int .i64 d.ost, x.v14, .string d.obd, .int .i64 d.otm, .int .i64 d.bns] 68)) := blk_below HBv1_1.out bw
  have Ex_2 : Hid (RowsO (w2) B1 (rpR x)) := Ex_1.out.below bw
  have Ey_2 : Hid (RowsO (w2) B2 (rpR y)) := Ey_1.out.below bw
  have HBv2_2 : Hid ((w2).heap[qv2]? = some (.cells #[.int .i64 d.cli, .int .i64 d.qmt, .string d.qpa, y.v3, .string d.qbd, .int .i64 d.rst, y.v6, .string d.rbd, .int .i64 d.knd, .int .i64 d.tim, .string d.opa, y.v11, y.v12, .int .i64 d.ost, y.v14, .string d.obd, .int .i64 d.otm, .int .i64 d.bns] 68)) := by show _ = _; rw [hW2, ← hz2]; exact heap_alloc_new _ _
  clear hb1 HBv1_1 Ex_1 Ey_1 bw hW2 hz2
  clear hs2 hqv2 hs1 hqv1
  have cv1_0 : (w2).cell? ⟨qv1, 0, none⟩ = some (.int .i64 d.cli) := (cell_of HBv1_2.out 0).trans rfl
  have cv2_0 : (w2).cell? ⟨qv2, 0, none⟩ = some (.int .i64 d.cli) := (cell_of HBv2_2.out 0).trans rfl
  have cv1_1 : (w2).cell? ⟨qv1, 1, none⟩ = some (.int .i64 d.qmt) := (cell_of HBv1_2.out 1).trans rfl
  have cv1_2 : (w2).cell? ⟨qv1, 2, none⟩ = some (.string d.qpa) := (cell_of HBv1_2.out 2).trans rfl
  have cv1_3 : (w2).cell? ⟨qv1, 3, none⟩ = some (x.v3) := (cell_of HBv1_2.out 3).trans rfl
  have cv1_4 : (w2).cell? ⟨qv1, 4, none⟩ = some (.string d.qbd) := (cell_of HBv1_2.out 4).trans rfl
  have cv2_1 : (w2).cell? ⟨qv2, 1, none⟩ = some (.int .i64 d.qmt) := (cell_of HBv2_2.out 1).trans rfl
  have cv2_2 : (w2).cell? ⟨qv2, 2, none⟩ = some (.string d.qpa) := (cell_of HBv2_2.out 2).trans rfl
  have cv2_3 : (w2).cell? ⟨qv2, 3, none⟩ = some (y.v3) := (cell_of HBv2_2.out 3).trans rfl
  have cv2_4 : (w2).cell? ⟨qv2, 4, none⟩ = some (.string d.qbd) := (cell_of HBv2_2.out 4).trans rfl
  go_wp2_with fail
  refine (eqReq_any d.qmt d.qpa _ _ d.qbd d.qfs.length _ _ d.qfs _ (FieldsV.of_owns (show World.ownsRow _ B1 135 2 x.v3 d.qfs.length _ from HxO3.out _ Ex_2.out)) (FieldsV.of_owns (show World.ownsRow _ B2 135 2 y.v3 d.qfs.length _ from HyO3.out _ Ey_2.out)) hn.qfs).mono ?_
  rintro e w3 ⟨rfl, bw⟩
  have hb3 : Below w.heap.size w (w3) := hb2.trans (bw.mono hb2.size)
  have HBv1_3 : Hid ((w3).heap[qv1]? = some (.cells #[.int .i64 d.cli, .int .i64 d.qmt, .string d.qpa, x.v3, .string d.qbd, .int .i64 d.rst, x.v6, .string d.rbd, .int .i64 d.knd, .int .i64 d.tim, .string d.opa, x.v11, x.v12, .int .i64 d.ost, x.v14, .string d.obd, .int .i64 d.otm, .int .i64 d.bns] 68)) := blk_below HBv1_2.out bw
  have HBv2_3 : Hid ((w3).heap[qv2]? = some (.cells #[.int .i64 d.cli, .int .i64 d.qmt, .string d.qpa, y.v3, .string d.qbd, .int .i64 d.rst, y.v6, .string d.rbd, .int .i64 d.knd, .int .i64 d.tim, .string d.opa, y.v11, y.v12, .int .i64 d.ost, y.v14, .string d.obd, .int .i64 d.otm, .int .i64 d.bns] 68)) := blk_below HBv2_2.out bw
  have Ex_3 : Hid (RowsO (w3) B1 (rpR x)) := Ex_2.out.below bw
  have Ey_3 : Hid (RowsO (w3) B2 (rpR y)) := Ey_2.out.below bw
  clear hb2 HBv1_2 HBv2_2 Ex_2 Ey_2 bw
  clear cv1_0 cv2_0 cv1_1 cv1_2 cv1_3 cv1_4 cv2_1 cv2_2 cv2_3 cv2_4
  have cv1_5 : (w3).cell? ⟨qv1, 5, none⟩ = some (.int .i64 d.rst) := (cell_of HBv1_3.out 5).trans rfl
  have cv1_6 : (w3).cell? ⟨qv1, 6, none⟩ = some (x.v6) := (cell_of HBv1_3.out 6).trans rfl
  have cv1_7 : (w3).cell? ⟨qv1, 7, none⟩ = some (.string d.rbd) := (cell_of HBv1_3.out 7).trans rfl
  have cv2_5 : (w3).cell? ⟨qv2, 5, none⟩ = some (.int .i64 d.rst) := (cell_of HBv2_3.out 5).trans rfl
  have cv2_6 : (w3).cell? ⟨qv2, 6, none⟩ = some (y.v6) := (cell_of HBv2_3.out 6).trans rfl
  have cv2_7 : (w3).cell? ⟨qv2, 7, none⟩ = some (.string d.rbd) := (cell_of HBv2_3.out 7).trans rfl
  go_wp2_with fail
  refine (eqResp_any d.rst _ _ d.rbd d.rfs.length _ _ d.rfs _ (FieldsV.of_owns (show World.ownsRow _ B1 135 2 x.v6 d.rfs.length _ from HxO6.out _ Ex_3.out)) (FieldsV.of_owns (show World.ownsRow _ B2 135 2 y.v6 d.rfs.length _ from HyO6.out _ Ey_3.out)) hn.rfs).mono ?_
  rintro e w4 ⟨rfl, bw⟩
  have hb4 : Below w.heap.size w (w4) := hb3.trans (bw.mono hb3.size)
  have HBv1_4 : Hid ((w4).heap[qv1]? = some (.cells #[.int .i64 d.cli, .int .i64 d.qmt, .string d.qpa, x.v3, .string d.qbd, .int .i64 d.rst, x.v6, .string d.rbd, .int .i64 d.knd, .int .i64 d.tim, .string d.opa, x.v11, x.v12, .int .i64 d.ost, x.v14, .string d.obd, .int .i64 d.otm, .int .i64 d.bns] 68)) := blk_below HBv1_3.out bw
  have HBv2_4 : Hid ((w4).heap[qv2]? = some (.cells #[.int .i64 d.cli, .int .i64 d.qmt, .string d.qpa, y.v3, .string d.qbd, .int .i64 d.rst, y.v6, .string d.rbd, .int .i64 d.knd, .int .i64 d.tim, .string d.opa, y.v11, y.v12, .int .i64 d.ost, y.v14, .string d.obd, .int .i64 d.otm, .int .i64 d.bns] 68)) := blk_below HBv2_3.out bw
  have Ex_4 : Hid (RowsO (w4) B1 (rpR x)) := Ex_3.out.below bw
  have Ey_4 : Hid (RowsO (w4) B2 (rpR y)) := Ey_3.out.below bw
  clear hb3 HBv1_3 HBv2_3 Ex_3 Ey_3 bw
  clear cv1_5 cv1_6 cv1_7 cv2_5 cv2_6 cv2_7
  have cv1_8 : (w4).cell? ⟨qv1, 8, none⟩ = some (.int .i64 d.knd) := (cell_of HBv1_4.out 8).trans rfl
  have cv2_8 : (w4).cell? ⟨qv2, 8, none⟩ = some (.int .i64 d.knd) := (cell_of HBv2_4.out 8).trans rfl
  have cv1_9 : (w4).cell? ⟨qv1, 9, none⟩ = some (.int .i64 d.tim) := (cell_of HBv1_4.out 9).trans rfl
  have cv2_9 : (w4).cell? ⟨qv2, 9, none⟩ = some (.int .i64 d.tim) := (cell_of HBv2_4.out 9).trans rfl
  have cv1_10 : (w4).cell? ⟨qv1, 10, none⟩ = some (.string d.opa) := (cell_of HBv1_4.out 10).trans rfl
  have cv1_11 : (w4).cell? ⟨qv1, 11, none⟩ = some (x.v11) := (cell_of HBv1_4.out 11).trans rfl
  have cv1_12 : (w4).cell? ⟨qv1, 12, none⟩ = some (x.v12) := (cell_of HBv1_4.out 12).trans rfl
  have cv1_13 : (w4).cell? ⟨qv1, 13, none⟩ = some (.int .i64 d.ost) := (cell_of HBv1_4.out 13).trans rfl
  have cv1_14 : (w4).cell? ⟨qv1, 14, none⟩ = some (x.v14) := (cell_of HBv1_4.out 14).trans rfl
  have cv1_15 : (w4).cell? ⟨qv1, 15, none⟩ = some (.string d.obd) := (cell_of HBv1_4.out 15).trans rfl
  have cv1_16 : (w4).cell? ⟨qv1, 16, none⟩ = some (.int .i64 d.otm) := (cell_of HBv1_4.out 16).trans rfl
  have cv2_10 : (w4).cell? ⟨qv2, 10, none⟩ = some (.string d.opa) := (cell_of HBv2_4.out 10).trans rfl
  have cv2_11 : (w4).cell? ⟨qv2, 11, none⟩ = some (y.v11) := (cell_of HBv2_4.out 11).trans rfl
  have cv2_12 : (w4).cell? ⟨qv2, 12, none⟩ = some (y.v12) := (cell_of HBv2_4.out 12).trans rfl
  have cv2_13 : (w4).cell? ⟨qv2, 13, none⟩ = some (.int .i64 d.ost) := (cell_of HBv2_4.out 13).trans rfl
  have cv2_14 : (w4).cell? ⟨qv2, 14, none⟩ = some (y.v14) := (cell_of HBv2_4.out 14).trans rfl
  have cv2_15 : (w4).cell? ⟨qv2, 15, none⟩ = some (.string d.obd) := (cell_of HBv2_4.out 15).trans rfl
  have cv2_16 : (w4).cell? ⟨qv2, 16, none⟩ = some (.int .i64 d.otm) := (cell_of HBv2_4.out 16).trans rfl
  go_wp2_with fail
  refine (eqObj_any d.opa d.oxs.length d.oxs d.oys.length d.oys d.ost d.ofs.length d.ofs d.obd d.otm _ _ _ _ _ _ _ _ _ (HxOO.out _ Ex_4.out) (HyOO.out _ Ey_4.out) hn.oxs hn.oys hn.ofs).mono ?_
  rintro e w5 ⟨rfl, bw⟩
  have hb5 : Below w.heap.size w (w5) := hb4.trans (bw.mono hb4.size)
  have HBv1_5 : Hid ((w5).heap[qv1]? = some (.cells #[.int .i64 d.cli, .int .i64 d.qmt, .string d.qpa, x.v3, .string d.qbd, .int .i64 d.rst, x.v6, .string d.rbd, .int .i64 d.knd, .int .i64 d.tim, .string d.opa, x.v11, x.v12, .int .i64 d.ost, x.v14, .string d.obd, .int .i64 d.otm, .int .i64 d.bns] 68)) := blk_below HBv1_4.out bw
  have HBv2_5 : Hid ((w5).heap[qv2]? = some (.cells #[.int .i64 d.cli, .int .i64 d.qmt, .string d.qpa, y.v3, .string d.qbd, .int .i64 d.rst, y.v6, .string d.rbd, .int .i64 d.knd, .int .i64 d.tim, .string d.opa, y.v11, y.v12, .int .i64 d.ost, y.v14, .string d.obd, .int .i64 d.otm, .int .i64 d.bns] 68)) := blk_below HBv2_4.out bw
  have Ex_5 : Hid (RowsO (w5) B1 (rpR x)) := Ex_4.out.below bw
  have Ey_5 : Hid (RowsO (w5) B2 (rpR y)) := Ey_4.out.below bw
  clear hb4 HBv1_4 HBv2_4 Ex_4 Ey_4 bw
  clear cv1_8 cv2_8 cv1_9 cv2_9 cv1_10 cv1_11 cv1_12 cv1_13 cv1_14 cv1_15 cv1_16 cv2_10 cv2_11 cv2_12 cv2_13 cv2_14 cv2_15 cv2_16
  have cv1_17 : (w5).cell? ⟨qv1, 17, none⟩ = some (.int .i64 d.bns) := (cell_of HBv1_5.out 17).trans rfl
  have cv2_17 : (w5).cell? ⟨qv2, 17, none⟩ = some (.int .i64 d.bns) := (cell_of HBv2_5.out 17).trans rfl
  go_wp2_with fail
  go_ret
  exact ⟨rfl, hb5⟩

end Go.Proofs.YtajccgffallajaaGreat

namespace Go.Proofs.YtajccgffallajaaGreat
open Go.RowKit
open Go.Lib hiding intOf

/-- One of a list that came in: its cells, and its lists. -/
def RpArg (w : World) (B b off i : Nat) (d : RpD) : Prop :=
  ∃ (a3 : Option Addr) (c3 : Nat) (a6 : Option Addr) (c6 : Nat) (a11 : Option Addr) (c11 : Nat) (a12 : Option Addr) (c12 : Nat) (a14 : Option Addr) (c14 : Nat), (w.cell? ⟨b, off + i * 18, none⟩ = some (.int .i64 d.cli) ∧ w.cell? ⟨b, off + i * 18 + 1, none⟩ = some (.int .i64 d.qmt) ∧ w.cell? ⟨b, off + i * 18 + 2, none⟩ = some (.string d.qpa) ∧ w.cell? ⟨b, off + i * 18 + 3, none⟩ = some (.slice a3 d.qfs.length c3) ∧ w.cell? ⟨b, off + i * 18 + 4, none⟩ = some (.string d.qbd) ∧ w.cell? ⟨b, off + i * 18 + 5, none⟩ = some (.int .i64 d.rst) ∧ w.cell? ⟨b, off + i * 18 + 6, none⟩ = some (.slice a6 d.rfs.length c6) ∧ w.cell? ⟨b, off + i * 18 + 7, none⟩ = some (.string d.rbd) ∧ w.cell? ⟨b, off + i * 18 + 8, none⟩ = some (.int .i64 d.knd) ∧ w.cell? ⟨b, off + i * 18 + 9, none⟩ = some (.int .i64 d.tim) ∧ w.cell? ⟨b, off + i * 18 + 10, none⟩ = some (.string d.opa) ∧ w.cell? ⟨b, off + i * 18 + 11, none⟩ = some (.slice a11 d.oxs.length c11) ∧ w.cell? ⟨b, off + i * 18 + 12, none⟩ = some (.slice a12 d.oys.length c12) ∧ w.cell? ⟨b, off + i * 18 + 13, none⟩ = some (.int .i64 d.ost) ∧ w.cell? ⟨b, off + i * 18 + 14, none⟩ = some (.slice a14 d.ofs.length c14) ∧ w.cell? ⟨b, off + i * 18 + 15, none⟩ = some (.string d.obd) ∧ w.cell? ⟨b, off + i * 18 + 16, none⟩ = some (.int .i64 d.otm) ∧ w.cell? ⟨b, off + i * 18 + 17, none⟩ = some (.int .i64 d.bns)) ∧ ArgF w B a3 d.qfs.length d.qfs ∧ ArgF w B a6 d.rfs.length d.rfs ∧ ArgT w B a11 d.oxs.length d.oxs ∧ ArgT w B a12 d.oys.length d.oys ∧ ArgF w B a14 d.ofs.length d.ofs
/-- A list that came in, in blocks below B. -/
def ArgReply (w : World) (B : Nat) (a : Option Addr) (n : Nat) (ks : List RpD) : Prop :=
  ks.length = n ∧ ∀ i, i < n → ∃ b off, a = some ⟨b, off, none⟩ ∧ b < B ∧ RpArg w B b off i (rpAt ks i)
theorem ArgReply.below {w w' : World} {B : Nat} {a : Option Addr} {n : Nat} {ks : List RpD} (h : ArgReply w B a n ks) (hb : Below B w w') : ArgReply w' B a n ks :=
  ⟨h.1, fun i hi => by
    obtain ⟨b, off, h1, h2, a3, c3, a6, c6, a11, c11, a12, c12, a14, c14, ⟨r0, r1, r2, r3, r4, r5, r6, r7, r8, r9, r10, r11, r12, r13, r14, r15, r16, r17⟩, g3, g6, g11, g12, g14⟩ := h.2 i hi
    exact ⟨b, off, h1, h2, a3, c3, a6, c6, a11, c11, a12, c12, a14, c14, ⟨by rw [hb.cell (p := ⟨b, off + i * 18, none⟩) h2]; exact r0, by rw [hb.cell (p := ⟨b, off + i * 18 + 1, none⟩) h2]; exact r1, by rw [hb.cell (p := ⟨b, off + i * 18 + 2, none⟩) h2]; exact r2, by rw [hb.cell (p := ⟨b, off + i * 18 + 3, none⟩) h2]; exact r3, by rw [hb.cell (p := ⟨b, off + i * 18 + 4, none⟩) h2]; exact r4, by rw [hb.cell (p := ⟨b, off + i * 18 + 5, none⟩) h2]; exact r5, by rw [hb.cell (p := ⟨b, off + i * 18 + 6, none⟩) h2]; exact r6, by rw [hb.cell (p := ⟨b, off + i * 18 + 7, none⟩) h2]; exact r7, by rw [hb.cell (p := ⟨b, off + i * 18 + 8, none⟩) h2]; exact r8, by rw [hb.cell (p := ⟨b, off + i * 18 + 9, none⟩) h2]; exact r9, by rw [hb.cell (p := ⟨b, off + i * 18 + 10, none⟩) h2]; exact r10, by rw [hb.cell (p := ⟨b, off + i * 18 + 11, none⟩) h2]; exact r11, by rw [hb.cell (p := ⟨b, off + i * 18 + 12, none⟩) h2]; exact r12, by rw [hb.cell (p := ⟨b, off + i * 18 + 13, none⟩) h2]; exact r13, by rw [hb.cell (p := ⟨b, off + i * 18 + 14, none⟩) h2]; exact r14, by rw [hb.cell (p := ⟨b, off + i * 18 + 15, none⟩) h2]; exact r15, by rw [hb.cell (p := ⟨b, off + i * 18 + 16, none⟩) h2]; exact r16, by rw [hb.cell (p := ⟨b, off + i * 18 + 17, none⟩) h2]; exact r17⟩, g3.below hb, g6.below hb, g11.below hb, g12.below hb, g14.below hb⟩⟩
/-- The measure is negative, or what is left of L. -/
def SzReplyS (L : Int) (ks : List RpD) (w : World) (e : Ending) (w' : World) : Prop :=
  ∃ r : Int, e = .returned (.int .i64 r) ∧ r ≤ L ∧ (0 ≤ r → r + (wtRp ks : Int) ≤ L ∧ ∀ k ∈ ks, RpSmall k) ∧ Below w.heap.size w w'

set_option maxHeartbeats 8000000 in
set_option maxRecDepth 100000 in
theorem szReplyS_any (L : Int) (hL0 : 0 ≤ L) (hL1 : L ≤ 1048576) (B : Nat) (a : Option Addr) (n cap : Nat) (ks : List RpD) (w : World) (harg : ArgReply w B a n ks) (hB : B ≤ w.heap.size) (hn : n ≤ maxLen) (hsz : ∀ k ∈ ks, RpMax k) :
    Calls Tryz.prog 16 #[.slice a n cap, .int .i64 L] w fun e w' => SzReplyS L ks w e w' := by
  unfold maxLen at hn
  have HS : Hid (∀ k ∈ ks, RpMax k) := hsz
  have HLN : Hid (ks.length = n) := harg.1
  have HA : Hid (∀ W, Below w.heap.size w W → ArgReply W B a n ks) := fun W h => harg.below (h.mono hB)
  have HBB : Hid (∀ W, Below w.heap.size w W → B ≤ W.heap.size) := fun W h => Nat.le_trans hB h.size
  clear hsz harg hB
  by_cases c1 : L - (n : Int) < 0
  · go_enter Tryz.func16, Tryz.ntmps16
    go_wp2
    go_ret
    exact ⟨-1, rfl, by omega, fun h => absurd h (by omega), Below.refl _ _⟩
  · go_enter Tryz.func16, Tryz.ntmps16
    go_wp2
    go_loopw [1, 5] (fun lf i wr => ∃ (k : Nat) (x : Int), k ≤ n ∧ i = .int .i64 (k : Int) ∧ lf = .int .i64 x ∧ 0 ≤ x ∧ x ≤ L ∧ Hid (x + (wtRp (ks.take k) : Int) + ((n : Int) - (k : Int)) ≤ L ∧ ∀ y ∈ ks.take k, RpSmall y) ∧ Hid (Below w.heap.size w wr)) (fun _ i _ => n - (intOf i).toNat)
    case atStart => exact ⟨0, _, Nat.zero_le _, rfl, rfl, by omega, by omega, ⟨by simp [wtRp], fun x hx => by simp at hx⟩, Below.refl _ _⟩
    case round =>
      obtain ⟨k, x, hk, rfl, rfl, hx0, hx1, HX, HBW⟩ := hrel
      by_cases hlt : k < n
      · have hlt2 : (k : Int) < (n : Int) := by omega
        obtain ⟨b, off, rfl, hbB, a3, c3, a6, c6, a11, c11, a12, c12, a14, c14, ⟨r0, r1, r2, r3, r4, r5, r6, r7, r8, r9, r10, r11, r12, r13, r14, r15, r16, r17⟩, g3, g6, g11, g12, g14⟩ := (HA.out wr HBW.out).2 k hlt
        obtain ⟨y, hy⟩ : ∃ y, y = rpAt ks k := ⟨_, rfl⟩
        have HM : Hid (y ∈ ks) := by show _ ∈ _; rw [hy]; exact getD_mem0 _ ks k (by rw [HLN.out]; exact hlt)
        have HTK : Hid (ks.take (k + 1) = ks.take k ++ [y]) := by show _ = _; rw [hy]; exact getD_take0 _ ks k (by rw [HLN.out]; exact hlt)
        rw [← hy] at r0 r1 r2 r3 r4 r5 r6 r7 r8 r9 r10 r11 r12 r13 r14 r15 r16 r17 g3 g6 g11 g12 g14
        have HG3 : Hid (ArgF wr B a3 y.qfs.length y.qfs) := g3
        have HG6 : Hid (ArgF wr B a6 y.rfs.length y.rfs) := g6
        have HG11 : Hid (ArgT wr B a11 y.oxs.length y.oxs) := g11
        have HG12 : Hid (ArgT wr B a12 y.oys.length y.oys) := g12
        have HG14 : Hid (ArgF wr B a14 y.ofs.length y.ofs) := g14
        clear hy g3 g6 g11 g12 g14
        have HIF : (Tryz.prog.info? 107).map (·.size) = some 18 := by kernel_rfl
        have HRG : World.rangeAt wr b (off + k * 18) [.int .i64 y.cli, .int .i64 y.qmt, .string y.qpa, .slice a3 y.qfs.length c3, .string y.qbd, .int .i64 y.rst, .slice a6 y.rfs.length c6, .string y.rbd, .int .i64 y.knd, .int .i64 y.tim, .string y.opa, .slice a11 y.oxs.length c11, .slice a12 y.oys.length c12, .int .i64 y.ost, .slice a14 y.ofs.length c14, .string y.obd, .int .i64 y.otm, .int .i64 y.bns] := range_cons r0 (range_cons r1 (range_cons r2 (range_cons r3 (range_cons r4 (range_cons r5 (range_cons r6 (range_cons r7 (range_cons r8 (range_cons r9 (range_cons r10 (range_cons r11 (range_cons r12 (range_cons r13 (range_cons r14 (range_cons r15 (range_cons r16 (range_cons r17 (range_nil _ _ _))))))))))))))))))
        go_wp2_with (first | (refine wpList_load_mid rfl 107 _ rfl b (off + k * 18) rfl [.int .i64 y.cli, .int .i64 y.qmt, .string y.qpa, .slice a3 y.qfs.length c3, .string y.qbd, .int .i64 y.rst, .slice a6 y.rfs.length c6, .string y.rbd, .int .i64 y.knd, .int .i64 y.tim, .string y.opa, .slice a11 y.oxs.length c11, .slice a12 y.oys.length c12, .int .i64 y.ost, .slice a14 y.ofs.length c14, .string y.obd, .int .i64 y.otm, .int .i64 y.bns] _ HRG Tryz.underlying107 rfl HIF ?_) | fail)
        clear HRG HIF
        refine (szReply_any x hx0 (by omega) y a3 c3 a6 c6 a11 c11 a12 c12 a14 c14 B _ HG3.out HG6.out HG11.out HG12.out HG14.out (HBB.out _ HBW.out) (HS.out y HM.out)).mono ?_
        rintro e w1 ⟨r, rfl, hr1, hr2, bw⟩
        have HB2 : Hid (Below w.heap.size w w1) := HBW.out.trans (bw.mono HBW.out.size)
        clear r0 r1 r2 r3 r4 r5 r6 r7 r8 r9 r10 r11 r12 r13 r14 r15 r16 r17 bw
        by_cases d1 : r < 0
        · clear hr2
          go_wp2
          go_ret
          exact ⟨-1, rfl, by omega, fun h => absurd h (by omega), HB2.out⟩
        · have HX2 : Hid (r + (wtRp (ks.take (k + 1)) : Int) + ((n : Int) - ((k + 1 : Nat) : Int)) ≤ L ∧ ∀ y ∈ ks.take (k + 1), RpSmall y) := by
            obtain ⟨q1, q2⟩ := hr2 (by omega)
            obtain ⟨m1, m2⟩ := HX.out
            refine ⟨?_, fun z hz => ?_⟩
            · rw [HTK.out, wtRp_snoc]
              omega
            · rw [HTK.out] at hz
              rcases List.mem_append.1 hz with hz | hz
              · exact m2 z hz
              · rw [List.mem_singleton.1 hz]; exact q2
          clear hr2
          go_wp2
          go_roundw
          case rel => exact ⟨k + 1, r, by omega, by go_num, rfl, by omega, by omega, HX2, HB2⟩
          case measure => simp [intOf]; omega
      · have HF : Hid (x + (wtRp ks : Int) ≤ L ∧ ∀ k ∈ ks, RpSmall k) := by
          obtain ⟨m1, m2⟩ := HX.out
          rw [List.take_of_length_le (by rw [HLN.out]; omega)] at m1 m2
          exact ⟨by omega, m2⟩
        go_wp2
        go_ret
        exact ⟨x, rfl, by omega, fun _ => HF.out, HBW.out⟩

theorem infoReply : (Tryz.prog.info? 68).map (fun i => (i.zero, i.size, i.bytes)) = some (some (.agg #[.int .i64 0, .int .i64 0, .string ⟨#[]⟩, .slice none 0 0, .string ⟨#[]⟩, .int .i64 0, .slice none 0 0, .string ⟨#[]⟩, .int .i64 0, .int .i64 0, .string ⟨#[]⟩, .slice none 0 0, .slice none 0 0, .int .i64 0, .slice none 0 0, .string ⟨#[]⟩, .int .i64 0, .int .i64 0]), 18, 264) := by kernel_rfl
/-- A call answers a list of these, of its own. -/
def ReplyIs (ks : List RpD) (w : World) (e : Ending) (w' : World) : Prop := ∃ (V : Value) (kv : List RpV), e = .returned V ∧ kv.map (·.d) = ks ∧ RpsO w' w.heap.size V kv ∧ Below w.heap.size w w'
/-- Told item by item, and the items' own lists behind the row: a list of one's own. -/
theorem parts_Reply {w : World} {g n base : Nat} {kv : List RpV} (hp : PartO rpC 18 68 w g n kv) (hl : kv.length = n) (hm : n ≤ maxLen) (hb : base ≤ g) (hr : RowsO w (g + 1) (kv.flatMap rpR)) : RpsO w base (.slice (some ⟨g, 0, none⟩) n n) kv := by
  have hrow : (rpRow (.slice (some ⟨g, 0, none⟩) n n) kv).own w base := by
    have h := hp.owns rpC_len (by decide) hl hm hb
    unfold Rw.own rpRow
    rw [hl]
    exact h
  refine ⟨fun r h => ?_, List.pairwise_cons.2 ⟨fun r h g' h1 h2 => ?_, hr.apart⟩⟩
  · rcases List.mem_cons.1 h with h | h
    · rw [h]; exact hrow
    · exact owns_wide (hr.own r h) (by omega)
  · have e1 : some g = some g' := h1
    have e2 := hr.ge h h2
    have e3 := Option.some.inj e1
    omega

set_option maxHeartbeats 8000000 in
set_option maxRecDepth 100000 in
theorem toReplyS_any (B : Nat) (a : Option Addr) (n cap : Nat) (ks : List RpD) (w : World) (harg : ArgReply w B a n ks) (hB : B ≤ w.heap.size) (hn : n ≤ 1048576) (hsm : ∀ k ∈ ks, RpLen k) :
    Calls Tryz.prog 21 #[.slice a n cap] w fun e w' => ReplyIs ks w e w' := by
  obtain ⟨i0, hi, hz0, hz1, hz2⟩ := info_parts infoReply
  obtain ⟨M, hM⟩ : ∃ M, M = madeCells (Value.agg #[.int .i64 0, .int .i64 0, .string ⟨#[]⟩, .slice none 0 0, .string ⟨#[]⟩, .int .i64 0, .slice none 0 0, .string ⟨#[]⟩, .int .i64 0, .int .i64 0, .string ⟨#[]⟩, .slice none 0 0, .slice none 0 0, .int .i64 0, .slice none 0 0, .string ⟨#[]⟩, .int .i64 0, .int .i64 0]).cells (((n : Nat) : Int).toNat * i0.size) := ⟨_, rfl⟩
  have hmk : ∀ W : World, (Instr.makeSlice 50 (.int .i64 (n : Int)) (.int .i64 (n : Int))).run Tryz.prog W = .ok (.slice (some ⟨W.heap.size, 0, none⟩) n n) (W.alloc (.cells M 68)) := fun W => by
    have h := run_make (P := Tryz.prog) W 50 68 i0 (.agg #[.int .i64 0, .int .i64 0, .string ⟨#[]⟩, .slice none 0 0, .string ⟨#[]⟩, .int .i64 0, .slice none 0 0, .string ⟨#[]⟩, .int .i64 0, .int .i64 0, .string ⟨#[]⟩, .slice none 0 0, .slice none 0 0, .int .i64 0, .slice none 0 0, .string ⟨#[]⟩, .int .i64 0, .int .i64 0]) Tryz.underlying50 hi hz0 .i64 .i64 (n : Int) (n : Int) (by omega) (by omega) (by rw [hz2]; omega) (by omega)
    rw [← hM] at h
    simpa using h
  have hMs : M.size = n * 18 := by rw [hM, size_madeCells, hz1]; simp
  have HLN : Hid (ks.length = n) := harg.1
  have HSM : Hid (∀ k ∈ ks, RpLen k) := hsm
  have HA : Hid (∀ W, Below w.heap.size w W → ArgReply W B a n ks) := fun W h => harg.below (h.mono hB)
  have HBB : Hid (∀ W, Below w.heap.size w W → B ≤ W.heap.size) := fun W h => Nat.le_trans hB h.size
  clear hM harg hsm hB
  obtain ⟨g, hg⟩ : ∃ g, g = w.heap.size := ⟨_, rfl⟩
  have HG : Hid (w.heap.size = g) := hg.symm
  have HP : Hid (([] : List RpV).length = 0 ∧ ([] : List RpV).map (·.d) = ks.take 0 ∧ PartO rpC 18 68 (w.alloc (.cells M 68)) g n [] ∧ RowsO (w.alloc (.cells M 68)) (g + 1) (([] : List RpV).flatMap rpR)) := ⟨rfl, by simp, ⟨M, by rw [hg]; exact heap_alloc_new w _, hMs, fun i h => absurd h (by simp)⟩, RowsO.nil _ _⟩
  have HPB : Hid (Below w.heap.size w (w.alloc (.cells M 68))) := (Below.refl _ _).alloc (Nat.le_refl _) _
  go_enter Tryz.func21, Tryz.ntmps21
  go_wp2
  rw [HG.out]
  clear hg hMs
  go_loopw [4] (fun i wr => ∃ (k : Nat) (kv : List RpV), k ≤ n ∧ i = .int .i64 (k : Int) ∧ Hid (kv.length = k ∧ kv.map (·.d) = ks.take k ∧ PartO rpC 18 68 wr g n kv ∧ RowsO wr (g + 1) (kv.flatMap rpR)) ∧ Hid (Below w.heap.size w wr)) (fun i _ => n - (intOf i).toNat)
  case atStart => exact ⟨0, [], Nat.zero_le _, rfl, HP, HPB⟩
  case round =>
    obtain ⟨k, kv, hk, rfl, hpr, HBW⟩ := hrel
    by_cases hlt : k < n
    · have hlt2 : (k : Int) < (n : Int) := by omega
      obtain ⟨b, off, rfl, hbB, a3, c3, a6, c6, a11, c11, a12, c12, a14, c14, ⟨r0, r1, r2, r3, r4, r5, r6, r7, r8, r9, r10, r11, r12, r13, r14, r15, r16, r17⟩, g3, g6, g11, g12, g14⟩ := (HA.out wr HBW.out).2 k hlt
      obtain ⟨y, hy⟩ : ∃ y, y = rpAt ks k := ⟨_, rfl⟩
      have HM : Hid (y ∈ ks) := by show _ ∈ _; rw [hy]; exact getD_mem0 _ ks k (by rw [HLN.out]; exact hlt)
      have HTK : Hid (ks.take (k + 1) = ks.take k ++ [y]) := by show _ = _; rw [hy]; exact getD_take0 _ ks k (by rw [HLN.out]; exact hlt)
      rw [← hy] at r0 r1 r2 r3 r4 r5 r6 r7 r8 r9 r10 r11 r12 r13 r14 r15 r16 r17 g3 g6 g11 g12 g14
      have HG3 : Hid (ArgF wr B a3 y.qfs.length y.qfs) := g3
      have HG6 : Hid (ArgF wr B a6 y.rfs.length y.rfs) := g6
      have HG11 : Hid (ArgT wr B a11 y.oxs.length y.oxs) := g11
      have HG12 : Hid (ArgT wr B a12 y.oys.length y.oys) := g12
      have HG14 : Hid (ArgF wr B a14 y.ofs.length y.ofs) := g14
      clear hy g3 g6 g11 g12 g14
      have HIF : (Tryz.prog.info? 107).map (·.size) = some 18 := by kernel_rfl
      have HRG : World.rangeAt wr b (off + k * 18) [.int .i64 y.cli, .int .i64 y.qmt, .string y.qpa, .slice a3 y.qfs.length c3, .string y.qbd, .int .i64 y.rst, .slice a6 y.rfs.length c6, .string y.rbd, .int .i64 y.knd, .int .i64 y.tim, .string y.opa, .slice a11 y.oxs.length c11, .slice a12 y.oys.length c12, .int .i64 y.ost, .slice a14 y.ofs.length c14, .string y.obd, .int .i64 y.otm, .int .i64 y.bns] := range_cons r0 (range_cons r1 (range_cons r2 (range_cons r3 (range_cons r4 (range_cons r5 (range_cons r6 (range_cons r7 (range_cons r8 (range_cons r9 (range_cons r10 (range_cons r11 (range_cons r12 (range_cons r13 (range_cons r14 (range_cons r15 (range_cons r16 (range_cons r17 (range_nil _ _ _))))))))))))))))))
      go_wp2_with (first | (refine wpList_load_mid rfl 107 _ rfl b (off + k * 18) rfl [.int .i64 y.cli, .int .i64 y.qmt, .string y.qpa, .slice a3 y.qfs.length c3, .string y.qbd, .int .i64 y.rst, .slice a6 y.rfs.length c6, .string y.rbd, .int .i64 y.knd, .int .i64 y.tim, .string y.opa, .slice a11 y.oxs.length c11, .slice a12 y.oys.length c12, .int .i64 y.ost, .slice a14 y.ofs.length c14, .string y.obd, .int .i64 y.otm, .int .i64 y.bns] _ HRG Tryz.underlying107 rfl HIF ?_) | fail)
      clear HRG HIF
      refine (toReply_any y a3 c3 a6 c6 a11 c11 a12 c12 a14 c14 B _ HG3.out HG6.out HG11.out HG12.out HG14.out (HBB.out _ HBW.out) (HSM.out y HM.out)).mono ?_
      rintro e w1 ⟨⟨xd, v3, v6, v11, v12, v14⟩, rfl, hxd, hrows, bw⟩
      clear r0 r1 r2 r3 r4 r5 r6 r7 r8 r9 r10 r11 r12 r13 r14 r15 r16 r17
      obtain rfl : xd = y := hxd
      obtain ⟨o3, p3, hv⟩ := slice_of_owns (hrows.own (⟨135, 2, v3, xd.qfs.length, flatF xd.qfs⟩ : Rw) (by simp [rpR]))
      obtain rfl : v3 = .slice o3 xd.qfs.length p3 := hv
      obtain ⟨o6, p6, hv⟩ := slice_of_owns (hrows.own (⟨135, 2, v6, xd.rfs.length, flatF xd.rfs⟩ : Rw) (by simp [rpR]))
      obtain rfl : v6 = .slice o6 xd.rfs.length p6 := hv
      obtain ⟨o11, p11, hv⟩ := slice_of_owns (hrows.own (⟨9, 1, v11, xd.oxs.length, xd.oxs.map Value.string⟩ : Rw) (by simp [rpR]))
      obtain rfl : v11 = .slice o11 xd.oxs.length p11 := hv
      obtain ⟨o12, p12, hv⟩ := slice_of_owns (hrows.own (⟨9, 1, v12, xd.oys.length, xd.oys.map Value.string⟩ : Rw) (by simp [rpR]))
      obtain rfl : v12 = .slice o12 xd.oys.length p12 := hv
      obtain ⟨o14, p14, hv⟩ := slice_of_owns (hrows.own (⟨135, 2, v14, xd.ofs.length, flatF xd.ofs⟩ : Rw) (by simp [rpR]))
      obtain rfl : v14 = .slice o14 xd.ofs.length p14 := hv
      obtain ⟨x, hx⟩ : ∃ x : RpV, x = ⟨xd, .slice o3 xd.qfs.length p3, .slice o6 xd.rfs.length p6, .slice o11 xd.oxs.length p11, .slice o12 xd.oys.length p12, .slice o14 xd.ofs.length p14⟩ := ⟨_, rfl⟩
      rw [← hx] at hrows
      obtain ⟨q1, q2, q3, q4⟩ := hpr.out
      have hgl : g < wr.heap.size := q3.lt
      have HB2 : Hid (Below w.heap.size w w1) := HBW.out.trans (bw.mono HBW.out.size)
      have hpr1 := q3.below bw
      have hall : RowsO w1 (g + 1) (kv.flatMap rpR ++ rpR x) := q4.more bw hrows (Nat.le_refl _) hgl
      have HALL : Hid ((kv ++ [x]).length = k + 1 ∧ (kv ++ [x]).map (·.d) = ks.take (k + 1) ∧ PartO rpC 18 68 (setW w1 g (k * 18) (rpC x)) g n (kv ++ [x]) ∧ RowsO (setW w1 g (k * 18) (rpC x)) (g + 1) ((kv ++ [x]).flatMap rpR)) := by
        refine ⟨by rw [List.length_append, q1]; rfl, by rw [List.map_append, q2, HTK.out, hx]; rfl, ?_, ?_⟩
        · have h := hpr1.put rpC_len x (by omega)
          rw [q1] at h
          exact h
        · rw [List.flatMap_append]
          have h2 : RowsO (setW w1 g (k * 18) (rpC x)) (g + 1) (kv.flatMap rpR ++ rpR x) := hall.same (fun r hr j hj => setW_other g j (by have := hall.ge hr hj; omega) _ _ _)
          simpa using h2
      have HBE : Hid (Below w.heap.size w (setW w1 g (k * 18) (rpC x))) := setW_below (by rw [HG.out]; exact Nat.le_refl _) _ _ _ _ HB2.out
      rw [hx] at HALL HBE
      have HTH : World.there w1 g (k * 18) 18 := there_part hpr1 hlt
      have HIF : (Tryz.prog.info? 68).map (·.size) = some 18 := by kernel_rfl
      obtain ⟨W1, hW1⟩ : ∃ W, W = setW w1 g (k * 18) (rpC ⟨xd, .slice o3 xd.qfs.length p3, .slice o6 xd.rfs.length p6, .slice o11 xd.oxs.length p11, .slice o12 xd.oys.length p12, .slice o14 xd.ofs.length p14⟩) := ⟨_, rfl⟩
      rw [← hW1] at HALL HBE
      have HWE : Hid (w1.setCells g (k * 18) (#[.int .i64 xd.cli, .int .i64 xd.qmt, .string xd.qpa, .slice o3 xd.qfs.length p3, .string xd.qbd, .int .i64 xd.rst, .slice o6 xd.rfs.length p6, .string xd.rbd, .int .i64 xd.knd, .int .i64 xd.tim, .string xd.opa, .slice o11 xd.oxs.length p11, .slice o12 xd.oys.length p12, .int .i64 xd.ost, .slice o14 xd.ofs.length p14, .string xd.obd, .int .i64 xd.otm, .int .i64 xd.bns] : Array Value).toList = W1) := by show _ = _; rw [hW1, setCells_eq]; rfl
      clear hW1
      clear hpr1 hall hrows hx q1 q2 q3 q4 bw hpr
      go_wp2_with (first | (refine wpList_store_mid rfl 68 _ _ rfl g (k * 18) #[.int .i64 xd.cli, .int .i64 xd.qmt, .string xd.qpa, .slice o3 xd.qfs.length p3, .string xd.qbd, .int .i64 xd.rst, .slice o6 xd.rfs.length p6, .string xd.rbd, .int .i64 xd.knd, .int .i64 xd.tim, .string xd.opa, .slice o11 xd.oxs.length p11, .slice o12 xd.oys.length p12, .int .i64 xd.ost, .slice o14 xd.ofs.length p14, .string xd.obd, .int .i64 xd.otm, .int .i64 xd.bns] rfl rfl HTH HIF (by simp [Value.oneCell']) ?_; rw [HWE.out]) | fail)
      clear HTH HIF
      go_roundw
      case rel => exact ⟨k + 1, _, by omega, by go_num, HALL, HBE⟩
      case measure => simp [intOf]; omega
    · obtain rfl : k = n := by omega
      obtain ⟨q1, q2, q3, q4⟩ := hpr.out
      have HF : Hid (kv.map (·.d) = ks ∧ RpsO wr w.heap.size (.slice (some ⟨g, 0, none⟩) k k) kv) := by
        refine ⟨?_, parts_Reply q3 q1 (by unfold maxLen; omega) (by rw [HG.out]; exact Nat.le_refl _) q4⟩
        rw [q2, List.take_of_length_le (by rw [HLN.out]; exact Nat.le_refl _)]
      clear q1 q2 q3 q4
      go_wp2
      go_ret
      exact ⟨_, kv, rfl, HF.out.1, HF.out.2, HBW.out⟩

end Go.Proofs.YtajccgffallajaaGreat

namespace Go.Proofs.YtajccgffallajaaGreat
open Go.RowKit
open Go.Lib hiding intOf

set_option maxHeartbeats 8000000 in
set_option maxRecDepth 100000 in
theorem eqReplyS_any (V1 V2 : Value) (kv1 kv2 : List RpV) (B1 B2 : Nat) (w : World) (he : kv1.map (·.d) = kv2.map (·.d)) (h1 : RpsO w B1 V1 kv1) (h2 : RpsO w B2 V2 kv2) (hn : kv1.length ≤ 2000000) (hs : ∀ x ∈ kv1, RpLim x.d) :
    Calls Tryz.prog 29 #[V1, V2] w fun e w' => e = .returned (.bool true) ∧ Below w.heap.size w w' := by
  have hlen : kv2.length = kv1.length := by have := congrArg List.length he; simpa using this.symm
  obtain ⟨n, hnn⟩ : ∃ n, n = kv1.length := ⟨_, rfl⟩
  obtain ⟨o1, c1, e1⟩ := h1.len
  obtain ⟨o2, c2, e2⟩ := h2.len
  rw [← hnn] at e1 hn
  rw [hlen, ← hnn] at e2
  subst e1 e2
  have HL1 : Hid (kv1.length = n) := hnn.symm
  have HL2 : Hid (kv2.length = n) := hlen.trans hnn.symm
  have HE : Hid (kv1.map (·.d) = kv2.map (·.d)) := he
  have HS : Hid (∀ x ∈ kv1, RpLim x.d) := hs
  have H1 : Hid (∀ W, Below w.heap.size w W → RpsO W B1 (.slice o1 n c1) kv1) := fun W h => h1.below h
  have H2 : Hid (∀ W, Below w.heap.size w W → RpsO W B2 (.slice o2 n c2) kv2) := fun W h => h2.below h
  clear h1 h2 hlen hnn he hs
  go_enter Tryz.func29, Tryz.ntmps29
  go_wp2
  go_loopw [5] (fun i wr => ∃ k : Nat, k ≤ n ∧ i = .int .i64 (k : Int) ∧ Hid (Below w.heap.size w wr)) (fun i _ => n - (intOf i).toNat)
  case atStart => exact ⟨0, Nat.zero_le _, rfl, Below.refl _ _⟩
  case round =>
    obtain ⟨k, hk, rfl, HBW⟩ := hrel
    by_cases hlt : k < n
    · have hlt2 : (k : Int) < (n : Int) := by omega
      obtain ⟨g1, cp1, ev1, hg1, at1⟩ := (H1.out wr HBW.out).at k (by rw [HL1.out]; exact hlt)
      obtain ⟨g2, cp2, ev2, hg2, at2⟩ := (H2.out wr HBW.out).at k (by rw [HL2.out]; exact hlt)
      obtain rfl : o1 = some ⟨g1, 0, none⟩ := (Value.slice.inj ev1).1
      obtain rfl : o2 = some ⟨g2, 0, none⟩ := (Value.slice.inj ev2).1
      have exy : (kv1[k]'(by rw [HL1.out]; exact hlt)).d = (kv2[k]'(by rw [HL2.out]; exact hlt)).d := by
        have h := congrArg (fun l : List RpD => l[k]?) HE.out
        simpa [List.getElem?_map, List.getElem?_eq_getElem (show k < kv1.length by rw [HL1.out]; exact hlt), List.getElem?_eq_getElem (show k < kv2.length by rw [HL2.out]; exact hlt)] using h
      have m1 : kv1[k]'(by rw [HL1.out]; exact hlt) ∈ kv1 := List.getElem_mem _
      have m2 : kv2[k]'(by rw [HL2.out]; exact hlt) ∈ kv2 := List.getElem_mem _
      generalize kv1[k]'(by rw [HL1.out]; exact hlt) = x at at1 exy m1
      generalize kv2[k]'(by rw [HL2.out]; exact hlt) = y at at2 exy m2
      have HXY : Hid (x.d = y.d) := exy
      have HO1 : Hid (∀ W, Below wr.heap.size wr W → RowsO W B1 (rpR x)) := fun W h => ((H1.out wr HBW.out).below h).item m1
      have HO2 : Hid (∀ W, Below wr.heap.size wr W → RowsO W B2 (rpR y)) := fun W h => ((H2.out wr HBW.out).below h).item m2
      have HSZ : Hid (RpLim x.d) := HS.out _ m1
      have a0 : wr.cell? ⟨g1, k * 18, none⟩ = some (.int .i64 x.d.cli) := at1.c0
      have a1 : wr.cell? ⟨g1, k * 18 + 1, none⟩ = some (.int .i64 x.d.qmt) := at1.c1
      have a2 : wr.cell? ⟨g1, k * 18 + 2, none⟩ = some (.string x.d.qpa) := at1.c2
      have a3 : wr.cell? ⟨g1, k * 18 + 3, none⟩ = some (x.v3) := at1.c3
      have a4 : wr.cell? ⟨g1, k * 18 + 4, none⟩ = some (.string x.d.qbd) := at1.c4
      have a5 : wr.cell? ⟨g1, k * 18 + 5, none⟩ = some (.int .i64 x.d.rst) := at1.c5
      have a6 : wr.cell? ⟨g1, k * 18 + 6, none⟩ = some (x.v6) := at1.c6
      have a7 : wr.cell? ⟨g1, k * 18 + 7, none⟩ = some (.string x.d.rbd) := at1.c7
      have a8 : wr.cell? ⟨g1, k * 18 + 8, none⟩ = some (.int .i64 x.d.knd) := at1.c8
      have a9 : wr.cell? ⟨g1, k * 18 + 9, none⟩ = some (.int .i64 x.d.tim) := at1.c9
      have a10 : wr.cell? ⟨g1, k * 18 + 10, none⟩ = some (.string x.d.opa) := at1.c10
      have a11 : wr.cell? ⟨g1, k * 18 + 11, none⟩ = some (x.v11) := at1.c11
      have a12 : wr.cell? ⟨g1, k * 18 + 12, none⟩ = some (x.v12) := at1.c12
      have a13 : wr.cell? ⟨g1, k * 18 + 13, none⟩ = some (.int .i64 x.d.ost) := at1.c13
      have a14 : wr.cell? ⟨g1, k * 18 + 14, none⟩ = some (x.v14) := at1.c14
      have a15 : wr.cell? ⟨g1, k * 18 + 15, none⟩ = some (.string x.d.obd) := at1.c15
      have a16 : wr.cell? ⟨g1, k * 18 + 16, none⟩ = some (.int .i64 x.d.otm) := at1.c16
      have a17 : wr.cell? ⟨g1, k * 18 + 17, none⟩ = some (.int .i64 x.d.bns) := at1.c17
      have b0 : wr.cell? ⟨g2, k * 18, none⟩ = some (.int .i64 y.d.cli) := at2.c0
      have b1 : wr.cell? ⟨g2, k * 18 + 1, none⟩ = some (.int .i64 y.d.qmt) := at2.c1
      have b2 : wr.cell? ⟨g2, k * 18 + 2, none⟩ = some (.string y.d.qpa) := at2.c2
      have b3 : wr.cell? ⟨g2, k * 18 + 3, none⟩ = some (y.v3) := at2.c3
      have b4 : wr.cell? ⟨g2, k * 18 + 4, none⟩ = some (.string y.d.qbd) := at2.c4
      have b5 : wr.cell? ⟨g2, k * 18 + 5, none⟩ = some (.int .i64 y.d.rst) := at2.c5
      have b6 : wr.cell? ⟨g2, k * 18 + 6, none⟩ = some (y.v6) := at2.c6
      have b7 : wr.cell? ⟨g2, k * 18 + 7, none⟩ = some (.string y.d.rbd) := at2.c7
      have b8 : wr.cell? ⟨g2, k * 18 + 8, none⟩ = some (.int .i64 y.d.knd) := at2.c8
      have b9 : wr.cell? ⟨g2, k * 18 + 9, none⟩ = some (.int .i64 y.d.tim) := at2.c9
      have b10 : wr.cell? ⟨g2, k * 18 + 10, none⟩ = some (.string y.d.opa) := at2.c10
      have b11 : wr.cell? ⟨g2, k * 18 + 11, none⟩ = some (y.v11) := at2.c11
      have b12 : wr.cell? ⟨g2, k * 18 + 12, none⟩ = some (y.v12) := at2.c12
      have b13 : wr.cell? ⟨g2, k * 18 + 13, none⟩ = some (.int .i64 y.d.ost) := at2.c13
      have b14 : wr.cell? ⟨g2, k * 18 + 14, none⟩ = some (y.v14) := at2.c14
      have b15 : wr.cell? ⟨g2, k * 18 + 15, none⟩ = some (.string y.d.obd) := at2.c15
      have b16 : wr.cell? ⟨g2, k * 18 + 16, none⟩ = some (.int .i64 y.d.otm) := at2.c16
      have b17 : wr.cell? ⟨g2, k * 18 + 17, none⟩ = some (.int .i64 y.d.bns) := at2.c17
      have R1 : World.rangeAt wr g1 (k * 18) [.int .i64 x.d.cli, .int .i64 x.d.qmt, .string x.d.qpa, x.v3, .string x.d.qbd, .int .i64 x.d.rst, x.v6, .string x.d.rbd, .int .i64 x.d.knd, .int .i64 x.d.tim, .string x.d.opa, x.v11, x.v12, .int .i64 x.d.ost, x.v14, .string x.d.obd, .int .i64 x.d.otm, .int .i64 x.d.bns] := range_cons a0 (range_cons a1 (range_cons a2 (range_cons a3 (range_cons a4 (range_cons a5 (range_cons a6 (range_cons a7 (range_cons a8 (range_cons a9 (range_cons a10 (range_cons a11 (range_cons a12 (range_cons a13 (range_cons a14 (range_cons a15 (range_cons a16 (range_cons a17 (range_nil _ _ _))))))))))))))))))
      have R2 : World.rangeAt wr g2 (k * 18) [.int .i64 y.d.cli, .int .i64 y.d.qmt, .string y.d.qpa, y.v3, .string y.d.qbd, .int .i64 y.d.rst, y.v6, .string y.d.rbd, .int .i64 y.d.knd, .int .i64 y.d.tim, .string y.d.opa, y.v11, y.v12, .int .i64 y.d.ost, y.v14, .string y.d.obd, .int .i64 y.d.otm, .int .i64 y.d.bns] := range_cons b0 (range_cons b1 (range_cons b2 (range_cons b3 (range_cons b4 (range_cons b5 (range_cons b6 (range_cons b7 (range_cons b8 (range_cons b9 (range_cons b10 (range_cons b11 (range_cons b12 (range_cons b13 (range_cons b14 (range_cons b15 (range_cons b16 (range_cons b17 (range_nil _ _ _))))))))))))))))))
      clear at1 at2 m1 m2 ev1 ev2 exy a0 b0 a1 b1 a2 b2 a3 b3 a4 b4 a5 b5 a6 b6 a7 b7 a8 b8 a9 b9 a10 b10 a11 b11 a12 b12 a13 b13 a14 b14 a15 b15 a16 b16 a17 b17
      have HIF : (Tryz.prog.info? 68).map (·.size) = some 18 := by kernel_rfl
      have HA : Hid (∀ w0 w1, Below wr.heap.size wr w0 → Below w0.heap.size w0 w1 → (World.rangeAt w1 g1 (k * 18) [.int .i64 x.d.cli, .int .i64 x.d.qmt, .string x.d.qpa, x.v3, .string x.d.qbd, .int .i64 x.d.rst, x.v6, .string x.d.rbd, .int .i64 x.d.knd, .int .i64 x.d.tim, .string x.d.opa, x.v11, x.v12, .int .i64 x.d.ost, x.v14, .string x.d.obd, .int .i64 x.d.otm, .int .i64 x.d.bns] ∧ World.rangeAt w1 g2 (k * 18) [.int .i64 y.d.cli, .int .i64 y.d.qmt, .string y.d.qpa, y.v3, .string y.d.qbd, .int .i64 y.d.rst, y.v6, .string y.d.rbd, .int .i64 y.d.knd, .int .i64 y.d.tim, .string y.d.opa, y.v11, y.v12, .int .i64 y.d.ost, y.v14, .string y.d.obd, .int .i64 y.d.otm, .int .i64 y.d.bns]) ∧ Below wr.heap.size wr w1) := fun w0 w1 h h' => by
        have hx := h.trans (h'.mono h.size)
        exact ⟨⟨fun j v hv => by rw [hx.cell (p := ⟨g1, k * 18 + j, none⟩) hg1]; exact R1 j v hv, fun j v hv => by rw [hx.cell (p := ⟨g2, k * 18 + j, none⟩) hg2]; exact R2 j v hv⟩, hx⟩
      go_wp2_with fail
      refine wp_region_held_drew (S := fun w' => World.rangeAt w' g1 (k * 18) [.int .i64 x.d.cli, .int .i64 x.d.qmt, .string x.d.qpa, x.v3, .string x.d.qbd, .int .i64 x.d.rst, x.v6, .string x.d.rbd, .int .i64 x.d.knd, .int .i64 x.d.tim, .string x.d.opa, x.v11, x.v12, .int .i64 x.d.ost, x.v14, .string x.d.obd, .int .i64 x.d.otm, .int .i64 x.d.bns] ∧ World.rangeAt w' g2 (k * 18) [.int .i64 y.d.cli, .int .i64 y.d.qmt, .string y.d.qpa, y.v3, .string y.d.qbd, .int .i64 y.d.rst, y.v6, .string y.d.rbd, .int .i64 y.d.knd, .int .i64 y.d.tim, .string y.d.opa, y.v11, y.v12, .int .i64 y.d.ost, y.v14, .string y.d.obd, .int .i64 y.d.otm, .int .i64 y.d.bns]) (by kernel_rfl) ⟨R1, R2⟩ (fun hHeld => ?_)
      refine wpAnyH_take (i := 0) (v := .slice (some ⟨g1, 0, none⟩) n c1) rfl (by kernel_rfl) (by kernel_rfl) (by kernel_rfl) (fun _ _ _ h => h) (Or.inl ⟨by rfl, by intro W hSW; go_simp⟩) (by assumption) ?_
      refine wpAnyH_take (i := 1) (v := .int .i64 (k : Int)) rfl (by kernel_rfl) (by kernel_rfl) (by kernel_rfl) (fun _ _ _ h => h) (Or.inl ⟨by rfl, by intro W hSW; go_simp⟩) (by assumption) ?_
      refine wpAnyH_take (i := 2) (v := .pointer (some ⟨g1, k * 18, none⟩)) rfl (by kernel_rfl) (by kernel_rfl) (by kernel_rfl) (fun _ _ _ h => h) (Or.inl ⟨by rfl, by intro W hSW; go_simp⟩) (by assumption) ?_
      refine wpAnyH_take (i := 3) (v := .agg #[.int .i64 x.d.cli, .int .i64 x.d.qmt, .string x.d.qpa, x.v3, .string x.d.qbd, .int .i64 x.d.rst, x.v6, .string x.d.rbd, .int .i64 x.d.knd, .int .i64 x.d.tim, .string x.d.opa, x.v11, x.v12, .int .i64 x.d.ost, x.v14, .string x.d.obd, .int .i64 x.d.otm, .int .i64 x.d.bns]) rfl (by kernel_rfl) (by kernel_rfl) (by kernel_rfl) (fun _ _ _ h => h) (yieldsIf_load_mid (by rfl) 68 _ rfl g1 (k * 18) rfl [.int .i64 x.d.cli, .int .i64 x.d.qmt, .string x.d.qpa, x.v3, .string x.d.qbd, .int .i64 x.d.rst, x.v6, .string x.d.rbd, .int .i64 x.d.knd, .int .i64 x.d.tim, .string x.d.opa, x.v11, x.v12, .int .i64 x.d.ost, x.v14, .string x.d.obd, .int .i64 x.d.otm, .int .i64 x.d.bns] _ (fun W h => h.1) Tryz.underlying68 rfl HIF) (by assumption) ?_
      refine wpAnyH_take (i := 4) (v := .slice (some ⟨g2, 0, none⟩) n c2) rfl (by kernel_rfl) (by kernel_rfl) (by kernel_rfl) (fun _ _ _ h => h) (Or.inl ⟨by rfl, by intro W hSW; go_simp⟩) (by assumption) ?_
      refine wpAnyH_take (i := 5) (v := .int .i64 (k : Int)) rfl (by kernel_rfl) (by kernel_rfl) (by kernel_rfl) (fun _ _ _ h => h) (Or.inl ⟨by rfl, by intro W hSW; go_simp⟩) (by assumption) ?_
      refine wpAnyH_take (i := 6) (v := .pointer (some ⟨g2, k * 18, none⟩)) rfl (by kernel_rfl) (by kernel_rfl) (by kernel_rfl) (fun _ _ _ h => h) (Or.inl ⟨by rfl, by intro W hSW; go_simp⟩) (by assumption) ?_
      refine wpAnyH_take (i := 7) (v := .agg #[.int .i64 y.d.cli, .int .i64 y.d.qmt, .string y.d.qpa, y.v3, .string y.d.qbd, .int .i64 y.d.rst, y.v6, .string y.d.rbd, .int .i64 y.d.knd, .int .i64 y.d.tim, .string y.d.opa, y.v11, y.v12, .int .i64 y.d.ost, y.v14, .string y.d.obd, .int .i64 y.d.otm, .int .i64 y.d.bns]) rfl (by kernel_rfl) (by kernel_rfl) (by kernel_rfl) (fun _ _ _ h => h) (yieldsIf_load_mid (by rfl) 68 _ rfl g2 (k * 18) rfl [.int .i64 y.d.cli, .int .i64 y.d.qmt, .string y.d.qpa, y.v3, .string y.d.qbd, .int .i64 y.d.rst, y.v6, .string y.d.rbd, .int .i64 y.d.knd, .int .i64 y.d.tim, .string y.d.opa, y.v11, y.v12, .int .i64 y.d.ost, y.v14, .string y.d.obd, .int .i64 y.d.otm, .int .i64 y.d.bns] _ (fun W h => h.2) Tryz.underlying68 rfl HIF) (by assumption) ?_
      refine wpAnyH_ready (rs := [8]) (by kernel_rfl) (by simp) ?_
      refine AllReadyH.cons rfl (fun K hK => ?_) AllReadyH.nil
      go_simp
      refine (eqReply_any x.d x y B1 B2 _ rfl HXY.out.symm (HO1.out _ ((Below.refl _ wr).drew)) (HO2.out _ ((Below.refl _ wr).drew)) HSZ.out).mono ?_
      rintro e w1 ⟨rfl, hb1⟩
      obtain ⟨hcc, hbx⟩ := HA.out _ w1 ((Below.refl _ wr).drew) hb1
      clear hHeld
      refine hK.out _ _ hcc (fun hHeld => ?_)
      clear hK K
      refine wpAnyH_take (i := 9) (v := .bool false) rfl (by kernel_rfl) (by kernel_rfl) (by kernel_rfl) (fun _ _ _ h => h) (Or.inl ⟨by rfl, by intro W hSW; go_simp⟩) (by assumption) ?_
      refine wpAnyH_done (by kernel_rfl) ?_ _
      clear hHeld hcc R1 R2 HIF
      go_wp2
      go_roundw
      case rel => exact ⟨k + 1, by omega, by go_num, HBW.out.trans (hbx.mono HBW.out.size)⟩
      case measure => simp [intOf]; omega
    · go_wp2
      go_ret
      exact ⟨rfl, HBW.out⟩

end Go.Proofs.YtajccgffallajaaGreat

namespace Go.Proofs.YtajccgffallajaaGreat
open Go.RowKit
open Go.Lib hiding intOf

set_option maxHeartbeats 8000000 in
set_option maxRecDepth 100000 in
theorem eqShelf_go (s : ShD) (n1 n2 n3 n4 : Nat) (oCx oPx oKx oBx oCy oPy oKy oBy : Option Addr) (pCx pPx pKx pBx pCy pPy pKy pBy : Nat) (kvx kvy : List (KpD × Value × Value × Value)) (Bx By : Nat) (w : World) (HL : Hid (s.cs.length = n1 ∧ s.ws.length = n2 ∧ s.bl.length = n4)) (HN : Hid (n1 ≤ 2000000 ∧ n2 ≤ 2000000 ∧ kvx.length ≤ 2000000 ∧ n4 ≤ 2000000)) (HSZ : Hid (∀ x ∈ kvx, x.1.xs.length ≤ 2000000 ∧ x.1.ys.length ≤ 2000000 ∧ x.1.fs.length ≤ 2000000)) (HKE : Hid (kvx.map (·.1) = kvy.map (·.1))) (Ex_0 : Hid (ShelfO (w) Bx (.slice oCx n1 pCx) (.slice oPx n2 pPx) (.slice oKx n3 pKx) (.slice oBx n4 pBx) kvx s)) (Ey_0 : Hid (ShelfO (w) By (.slice oCy n1 pCy) (.slice oPy n2 pPy) (.slice oKy n3 pKy) (.slice oBy n4 pBy) kvy s)) :
    Calls Tryz.prog 26 #[.agg #[.slice oCx n1 pCx, .slice oPx n2 pPx, .slice oKx n3 pKx, .slice oBx n4 pBx, .int .i64 s.nx, .int .i64 s.sq], .agg #[.slice oCy n1 pCy, .slice oPy n2 pPy, .slice oKy n3 pKy, .slice oBy n4 pBy, .int .i64 s.nx, .int .i64 s.sq]] w fun e w' => e = .returned (.bool true) ∧ Below w.heap.size w w' := by
  have hnx : (s.nx != s.nx) = false := by simp
  have hsq : (s.sq != s.sq) = false := by simp
  have hb0 : Below w.heap.size w w := Below.refl _ _
  go_enter Tryz.func26, Tryz.ntmps26
  go_upto_region 1 with fail
  obtain ⟨qv1, hqv1⟩ : ∃ q, q = (w).heap.size := ⟨_, rfl⟩
  obtain ⟨w1, hW1⟩ : ∃ W, W = (w).alloc (.cells #[.slice oCx n1 pCx, .slice oPx n2 pPx, .slice oKx n3 pKx, .slice oBx n4 pBx, .int .i64 s.nx, .int .i64 s.sq] 47) := ⟨_, rfl⟩
  have hz1 : (w).heap.size = qv1 := hqv1.symm
  first | rw [← hW1, ← hqv1] | rw [← hW1]
  have hs1 : w1.heap.size = qv1 + 1 := by rw [hW1, ← hz1]; simp
  have bw : Below (w).heap.size (w) w1 := by rw [hW1]; exact (Below.refl _ _).alloc (Nat.le_refl _) _
  have hb1 : Below w.heap.size w (w1) := hb0.trans (bw.mono hb0.size)
  have Ex_1 : Hid (ShelfO (w1) Bx (.slice oCx n1 pCx) (.slice oPx n2 pPx) (.slice oKx n3 pKx) (.slice oBx n4 pBx) kvx s) := Ex_0.out.below bw
  have Ey_1 : Hid (ShelfO (w1) By (.slice oCy n1 pCy) (.slice oPy n2 pPy) (.slice oKy n3 pKy) (.slice oBy n4 pBy) kvy s) := Ey_0.out.below bw
  have HBv1_1 : Hid ((w1).heap[qv1]? = some (.cells #[.slice oCx n1 pCx, .slice oPx n2 pPx, .slice oKx n3 pKx, .slice oBx n4 pBx, .int .i64 s.nx, .int .i64 s.sq] 47)) := by show _ = _; rw [hW1, ← hz1]; exact heap_alloc_new _ _
  clear hb0 Ex_0 Ey_0 bw hW1 hz1
  obtain ⟨qv2, hqv2⟩ : ∃ q, q = qv1 + 1 := ⟨_, rfl⟩
  obtain ⟨w2, hW2⟩ : ∃ W, W = (w1).alloc (.cells #[.slice oCy n1 pCy, .slice oPy n2 pPy, .slice oKy n3 pKy, .slice oBy n4 pBy, .int .i64 s.nx, .int .i64 s.sq] 47) := ⟨_, rfl⟩
  have hz2 : (w1).heap.size = qv2 := by rw [hqv2]; exact hs1
  first | rw [← hW2, ← hqv2] | rw [← hW2]
  have hs2 : w2.heap.size = qv2 + 1 := by rw [hW2, ← hz2]; simp
  have bw : Below (w1).heap.size (w1) w2 := by rw [hW2]; exact (Below.refl _ _).alloc (Nat.le_refl _) _
  have hb2 : Below w.heap.size w (w2) := hb1.trans (bw.mono hb1.size)
  have HBv1_2 : Hid ((w2).heap[qv1]? = some (.cells #[.slice oCx n1 pCx, .slice oPx n2 pPx, .slice oKx n3 pKx, .slice oBx n4 pBx, .int .i64 s.nx, .int .i64 s.sq] 47)) := blk_below HBv1_1.out bw
  have Ex_2 : Hid (ShelfO (w2) Bx (.slice oCx n1 pCx) (.slice oPx n2 pPx) (.slice oKx n3 pKx) (.slice oBx n4 pBx) kvx s) := Ex_1.out.below bw
  have Ey_2 : Hid (ShelfO (w2) By (.slice oCy n1 pCy) (.slice oPy n2 pPy) (.slice oKy n3 pKy) (.slice oBy n4 pBy) kvy s) := Ey_1.out.below bw
  have HBv2_2 : Hid ((w2).heap[qv2]? = some (.cells #[.slice oCy n1 pCy, .slice oPy n2 pPy, .slice oKy n3 pKy, .slice oBy n4 pBy, .int .i64 s.nx, .int .i64 s.sq] 47)) := by show _ = _; rw [hW2, ← hz2]; exact heap_alloc_new _ _
  clear hb1 HBv1_1 Ex_1 Ey_1 bw hW2 hz2
  clear hs2 hqv2 hs1 hqv1
  have cv1_0 : (w2).cell? ⟨qv1, 0, none⟩ = some (.slice oCx n1 pCx) := (cell_of HBv1_2.out 0).trans rfl
  have cv1_1 : (w2).cell? ⟨qv1, 1, none⟩ = some (.slice oPx n2 pPx) := (cell_of HBv1_2.out 1).trans rfl
  have cv2_0 : (w2).cell? ⟨qv2, 0, none⟩ = some (.slice oCy n1 pCy) := (cell_of HBv2_2.out 0).trans rfl
  have cv2_1 : (w2).cell? ⟨qv2, 1, none⟩ = some (.slice oPy n2 pPy) := (cell_of HBv2_2.out 1).trans rfl
  go_wp2_with fail
  refine (eqDisk_any n1 s.cs n2 s.ws _ _ _ _ Bx By _ (show DiskO _ Bx _ n1 s.cs _ n2 s.ws from by have h := Ex_2.out.disk; rw [HL.out.1, HL.out.2.1] at h; exact h) (show DiskO _ By _ n1 s.cs _ n2 s.ws from by have h := Ey_2.out.disk; rw [HL.out.1, HL.out.2.1] at h; exact h) HN.out.1 HN.out.2.1).mono ?_
  rintro e w3 ⟨rfl, bw⟩
  have hb3 : Below w.heap.size w (w3) := hb2.trans (bw.mono hb2.size)
  have HBv1_3 : Hid ((w3).heap[qv1]? = some (.cells #[.slice oCx n1 pCx, .slice oPx n2 pPx, .slice oKx n3 pKx, .slice oBx n4 pBx, .int .i64 s.nx, .int .i64 s.sq] 47)) := blk_below HBv1_2.out bw
  have HBv2_3 : Hid ((w3).heap[qv2]? = some (.cells #[.slice oCy n1 pCy, .slice oPy n2 pPy, .slice oKy n3 pKy, .slice oBy n4 pBy, .int .i64 s.nx, .int .i64 s.sq] 47)) := blk_below HBv2_2.out bw
  have Ex_3 : Hid (ShelfO (w3) Bx (.slice oCx n1 pCx) (.slice oPx n2 pPx) (.slice oKx n3 pKx) (.slice oBx n4 pBx) kvx s) := Ex_2.out.below bw
  have Ey_3 : Hid (ShelfO (w3) By (.slice oCy n1 pCy) (.slice oPy n2 pPy) (.slice oKy n3 pKy) (.slice oBy n4 pBy) kvy s) := Ey_2.out.below bw
  clear hb2 HBv1_2 HBv2_2 Ex_2 Ey_2 bw
  clear cv1_0 cv1_1 cv2_0 cv2_1
  have cv1_2 : (w3).cell? ⟨qv1, 2, none⟩ = some (.slice oKx n3 pKx) := (cell_of HBv1_3.out 2).trans rfl
  have cv2_2 : (w3).cell? ⟨qv2, 2, none⟩ = some (.slice oKy n3 pKy) := (cell_of HBv2_3.out 2).trans rfl
  go_wp2_with fail
  refine (eqKeptS_any _ _ kvx kvy Bx By _ HKE.out Ex_3.out.kept Ey_3.out.kept HN.out.2.2.1 HSZ.out).mono ?_
  rintro e w4 ⟨rfl, bw⟩
  have hb4 : Below w.heap.size w (w4) := hb3.trans (bw.mono hb3.size)
  have HBv1_4 : Hid ((w4).heap[qv1]? = some (.cells #[.slice oCx n1 pCx, .slice oPx n2 pPx, .slice oKx n3 pKx, .slice oBx n4 pBx, .int .i64 s.nx, .int .i64 s.sq] 47)) := blk_below HBv1_3.out bw
  have HBv2_4 : Hid ((w4).heap[qv2]? = some (.cells #[.slice oCy n1 pCy, .slice oPy n2 pPy, .slice oKy n3 pKy, .slice oBy n4 pBy, .int .i64 s.nx, .int .i64 s.sq] 47)) := blk_below HBv2_3.out bw
  have Ex_4 : Hid (ShelfO (w4) Bx (.slice oCx n1 pCx) (.slice oPx n2 pPx) (.slice oKx n3 pKx) (.slice oBx n4 pBx) kvx s) := Ex_3.out.below bw
  have Ey_4 : Hid (ShelfO (w4) By (.slice oCy n1 pCy) (.slice oPy n2 pPy) (.slice oKy n3 pKy) (.slice oBy n4 pBy) kvy s) := Ey_3.out.below bw
  clear hb3 HBv1_3 HBv2_3 Ex_3 Ey_3 bw
  clear cv1_2 cv2_2
  have cv1_3 : (w4).cell? ⟨qv1, 3, none⟩ = some (.slice oBx n4 pBx) := (cell_of HBv1_4.out 3).trans rfl
  have cv2_3 : (w4).cell? ⟨qv2, 3, none⟩ = some (.slice oBy n4 pBy) := (cell_of HBv2_4.out 3).trans rfl
  go_wp2_with fail
  refine (eqBanS_any _ _ n4 _ _ s.bl _ (ban_view (show World.ownsRow _ Bx 163 4 _ n4 (flatBan s.bl) from by have h := Ex_4.out.bans; rw [HL.out.2.2] at h; exact h)) (ban_view (show World.ownsRow _ By 163 4 _ n4 (flatBan s.bl) from by have h := Ey_4.out.bans; rw [HL.out.2.2] at h; exact h)) HN.out.2.2.2).mono ?_
  rintro e w5 ⟨rfl, bw⟩
  have hb5 : Below w.heap.size w (w5) := hb4.trans (bw.mono hb4.size)
  have HBv1_5 : Hid ((w5).heap[qv1]? = some (.cells #[.slice oCx n1 pCx, .slice oPx n2 pPx, .slice oKx n3 pKx, .slice oBx n4 pBx, .int .i64 s.nx, .int .i64 s.sq] 47)) := blk_below HBv1_4.out bw
  have HBv2_5 : Hid ((w5).heap[qv2]? = some (.cells #[.slice oCy n1 pCy, .slice oPy n2 pPy, .slice oKy n3 pKy, .slice oBy n4 pBy, .int .i64 s.nx, .int .i64 s.sq] 47)) := blk_below HBv2_4.out bw
  have Ex_5 : Hid (ShelfO (w5) Bx (.slice oCx n1 pCx) (.slice oPx n2 pPx) (.slice oKx n3 pKx) (.slice oBx n4 pBx) kvx s) := Ex_4.out.below bw
  have Ey_5 : Hid (ShelfO (w5) By (.slice oCy n1 pCy) (.slice oPy n2 pPy) (.slice oKy n3 pKy) (.slice oBy n4 pBy) kvy s) := Ey_4.out.below bw
  clear hb4 HBv1_4 HBv2_4 Ex_4 Ey_4 bw
  clear cv1_3 cv2_3
  have cv1_4 : (w5).cell? ⟨qv1, 4, none⟩ = some (.int .i64 s.nx) := (cell_of HBv1_5.out 4).trans rfl
  have cv2_4 : (w5).cell? ⟨qv2, 4, none⟩ = some (.int .i64 s.nx) := (cell_of HBv2_5.out 4).trans rfl
  have cv1_5 : (w5).cell? ⟨qv1, 5, none⟩ = some (.int .i64 s.sq) := (cell_of HBv1_5.out 5).trans rfl
  have cv2_5 : (w5).cell? ⟨qv2, 5, none⟩ = some (.int .i64 s.sq) := (cell_of HBv2_5.out 5).trans rfl
  go_wp2_with fail
  go_ret
  exact ⟨rfl, hb5⟩

theorem eqShelf_any (s : ShD) (v1 v2 V VB u1 u2 U UB : Value) (kvx kvy : List (KpD × Value × Value × Value)) (Bx By : Nat) (w : World) (hx : ShelfO w Bx v1 v2 V VB kvx s) (hy : ShelfO w By u1 u2 U UB kvy s) (h1 : s.cs.length ≤ 2000000) (h2 : s.ws.length ≤ 2000000) (h3 : s.ks.length ≤ 2000000) (h4 : s.bl.length ≤ 2000000) (hs : ∀ k ∈ s.ks, k.xs.length ≤ 2000000 ∧ k.ys.length ≤ 2000000 ∧ k.fs.length ≤ 2000000) :
    Calls Tryz.prog 26 #[.agg #[v1, v2, V, VB, .int .i64 s.nx, .int .i64 s.sq], .agg #[u1, u2, U, UB, .int .i64 s.nx, .int .i64 s.sq]] w fun e w' => e = .returned (.bool true) ∧ Below w.heap.size w w' := by
  obtain ⟨oCx, pCx, rfl⟩ := slice_of_owns hx.disk.cells
  obtain ⟨oPx, pPx, rfl⟩ := slice_of_owns hx.disk.pend
  obtain ⟨oBx, pBx, rfl⟩ := slice_of_owns hx.bans
  obtain ⟨oKx, pKx, rfl⟩ := hx.kept.len
  obtain ⟨oCy, pCy, rfl⟩ := slice_of_owns hy.disk.cells
  obtain ⟨oPy, pPy, rfl⟩ := slice_of_owns hy.disk.pend
  obtain ⟨oBy, pBy, rfl⟩ := slice_of_owns hy.bans
  obtain ⟨oKy, pKy, rfl⟩ := hy.kept.len
  have e1 : kvx.length = s.ks.length := by rw [← hx.2, List.length_map]
  have e2 : kvy.length = s.ks.length := by rw [← hy.2, List.length_map]
  rw [e1] at hx ⊢
  rw [e2] at hy ⊢
  exact eqShelf_go s _ _ _ _ oCx oPx oKx oBx oCy oPy oKy oBy pCx pPx pKx pBx pCy pPy pKy pBy kvx kvy Bx By w ⟨rfl, rfl, rfl⟩ ⟨h1, h2, by rw [e1]; exact h3, h4⟩ (fun x hxm => hs x.1 (by rw [← hx.2]; exact List.mem_map.2 ⟨x, hxm, rfl⟩)) (hx.2.trans hy.2.symm) hx hy

end Go.Proofs.YtajccgffallajaaGreat

namespace Go.Proofs.YtajccgffallajaaGreat
open Go.RowKit
open Go.Lib hiding intOf

/-- A store's measure: negative, or what is left of L. -/
def SzShelf (L : Int) (n1 : Nat) (cs : List ByteArray) (n2 : Nat) (ws : List (Int × ByteArray)) (ks : List KpD) (n4 : Nat) (bl : List (Int × ByteArray × ByteArray × Int)) (w : World) (e : Ending) (w' : World) : Prop :=
  ∃ r : Int, e = .returned (.int .i64 r) ∧ r ≤ L ∧ (0 ≤ r → r + (n1 : Int) + (n2 : Int) + (wtK ks : Int) + (n4 : Int) ≤ L ∧ (n1 ≤ 1048576 ∧ ∀ i, i < n1 → (textAt cs i).size ≤ 1048576) ∧ (n2 ≤ 1048576 ∧ ∀ x ∈ ws, (x.2).size ≤ 1048576) ∧ (∀ k ∈ ks, KpSmall k) ∧ (n4 ≤ 1048576 ∧ ∀ x ∈ bl, (x.2.1).size ≤ 1048576 ∧ (x.2.2.1).size ≤ 1048576)) ∧ Below w.heap.size w w'
set_option maxHeartbeats 8000000 in
set_option maxRecDepth 100000 in
theorem szShelf_any (L : Int) (hL0 : 0 ≤ L) (hL1 : L ≤ 1048576) (a1 : Option Addr) (n1 c1 : Nat) (cs : List ByteArray) (a2 : Option Addr) (n2 c2 : Nat) (ws : List (Int × ByteArray)) (a3 : Option Addr) (n3 c3 : Nat) (ks : List KpD) (a4 : Option Addr) (n4 c4 : Nat) (bl : List (Int × ByteArray × ByteArray × Int)) (nx sq : Int) (B : Nat) (w : World) (h1 : ArgT w B a1 n1 cs) (h2 : ArgWrite w B a2 n2 ws) (h3 : ArgKept w B a3 n3 ks) (h4 : ArgBan w B a4 n4 bl) (hB : B ≤ w.heap.size) (hm : n1 ≤ maxLen ∧ n2 ≤ maxLen ∧ n3 ≤ maxLen ∧ n4 ≤ maxLen ∧ (∀ i, i < n1 → (textAt cs i).size ≤ maxLen) ∧ (∀ x ∈ ws, (x.2).size ≤ maxLen) ∧ (∀ k ∈ ks, KpMax k) ∧ ∀ x ∈ bl, (x.2.1).size ≤ maxLen ∧ (x.2.2.1).size ≤ maxLen) :
    Calls Tryz.prog 13 #[.agg #[.slice a1 n1 c1, .slice a2 n2 c2, .slice a3 n3 c3, .slice a4 n4 c4, .int .i64 nx, .int .i64 sq], .int .i64 L] w fun e w' => SzShelf L n1 cs n2 ws ks n4 bl w e w' := by
  have HA1 : Hid (∀ W, Below w.heap.size w W → ArgT W B a1 n1 cs) := fun W h => h1.below (h.mono hB)
  have HA2 : Hid (∀ W, Below w.heap.size w W → ArgWrite W B a2 n2 ws) := fun W h => h2.below (h.mono hB)
  have HA3 : Hid (∀ W, Below w.heap.size w W → ArgKept W B a3 n3 ks) := fun W h => h3.below (h.mono hB)
  have HA4 : Hid (∀ W, Below w.heap.size w W → ArgBan W B a4 n4 bl) := fun W h => h4.below (h.mono hB)
  have HBB : Hid (∀ W, Below w.heap.size w W → B ≤ W.heap.size) := fun W h => Nat.le_trans hB h.size
  have HM : Hid (n1 ≤ maxLen ∧ n2 ≤ maxLen ∧ n3 ≤ maxLen ∧ n4 ≤ maxLen ∧ (∀ i, i < n1 → (textAt cs i).size ≤ maxLen) ∧ (∀ x ∈ ws, (x.2).size ≤ maxLen) ∧ (∀ k ∈ ks, KpMax k) ∧ ∀ x ∈ bl, (x.2.1).size ≤ maxLen ∧ (x.2.2.1).size ≤ maxLen) := hm
  clear h1 h2 h3 h4 hm hB
  have hb0 : Below w.heap.size w w := Below.refl _ _
  go_enter Tryz.func13, Tryz.ntmps13
  go_upto_region 1 with fail
  obtain ⟨qv1, hqv1⟩ : ∃ q, q = (w).heap.size := ⟨_, rfl⟩
  obtain ⟨w1, hW1⟩ : ∃ W, W = (w).alloc (.cells #[.slice a1 n1 c1, .slice a2 n2 c2, .slice a3 n3 c3, .slice a4 n4 c4, .int .i64 nx, .int .i64 sq] 29) := ⟨_, rfl⟩
  have hz1 : (w).heap.size = qv1 := hqv1.symm
  first | rw [← hW1, ← hqv1] | rw [← hW1]
  have hs1 : w1.heap.size = qv1 + 1 := by rw [hW1, ← hz1]; simp
  have bw : Below (w).heap.size (w) w1 := by rw [hW1]; exact (Below.refl _ _).alloc (Nat.le_refl _) _
  have hb1 : Below w.heap.size w (w1) := hb0.trans (bw.mono hb0.size)
  have HBv1_1 : Hid ((w1).heap[qv1]? = some (.cells #[.slice a1 n1 c1, .slice a2 n2 c2, .slice a3 n3 c3, .slice a4 n4 c4, .int .i64 nx, .int .i64 sq] 29)) := by show _ = _; rw [hW1, ← hz1]; exact heap_alloc_new _ _
  clear hb0 bw hW1 hz1
  clear hs1 hqv1
  have cv1_0 : (w1).cell? ⟨qv1, 0, none⟩ = some (.slice a1 n1 c1) := (cell_of HBv1_1.out 0).trans rfl
  have cv1_1 : (w1).cell? ⟨qv1, 1, none⟩ = some (.slice a2 n2 c2) := (cell_of HBv1_1.out 1).trans rfl
  go_wp2_with fail
  refine (szDisk_room L (by omega) (by omega) a1 n1 c1 cs a2 n2 c2 ws B _ (HA1.out _ hb1) (HA2.out _ hb1) (HBB.out _ hb1) HM.out.1 HM.out.2.1 HM.out.2.2.2.2.1 HM.out.2.2.2.2.2.1).mono ?_
  rintro e w2 ⟨r1, rfl, hl1, hr1, bw⟩
  have hb2 : Below w.heap.size w (w2) := hb1.trans (bw.mono hb1.size)
  have HBv1_2 : Hid ((w2).heap[qv1]? = some (.cells #[.slice a1 n1 c1, .slice a2 n2 c2, .slice a3 n3 c3, .slice a4 n4 c4, .int .i64 nx, .int .i64 sq] 29)) := blk_below HBv1_1.out bw
  clear hb1 HBv1_1 bw
  clear cv1_0 cv1_1
  by_cases hc1 : r1 < 0
  · clear hr1
    go_wp2_with fail
    go_ret
    exact ⟨-1, rfl, by omega, fun h => absurd h (by omega), hb2⟩
  · have HR1 : Hid _ := hr1 (by omega)
    clear hr1
    have m1 := HR1.out.1
    have cv1_2 : (w2).cell? ⟨qv1, 2, none⟩ = some (.slice a3 n3 c3) := (cell_of HBv1_2.out 2).trans rfl
    go_wp2_with fail
    refine (szKeptS_any r1 (by omega) (by omega) B a3 n3 c3 ks _ (HA3.out _ hb2) (HBB.out _ hb2) HM.out.2.2.1 HM.out.2.2.2.2.2.2.1).mono ?_
    rintro e w3 ⟨r2, rfl, hl2, hr2, bw⟩
    have hb3 : Below w.heap.size w (w3) := hb2.trans (bw.mono hb2.size)
    have HBv1_3 : Hid ((w3).heap[qv1]? = some (.cells #[.slice a1 n1 c1, .slice a2 n2 c2, .slice a3 n3 c3, .slice a4 n4 c4, .int .i64 nx, .int .i64 sq] 29)) := blk_below HBv1_2.out bw
    clear hb2 HBv1_2 bw
    clear cv1_2
    by_cases hc2 : r2 < 0
    · clear hr2
      go_wp2_with fail
      go_ret
      exact ⟨-1, rfl, by omega, fun h => absurd h (by omega), hb3⟩
    · have HR2 : Hid _ := hr2 (by omega)
      clear hr2
      have m2 := HR2.out.1
      have cv1_3 : (w3).cell? ⟨qv1, 3, none⟩ = some (.slice a4 n4 c4) := (cell_of HBv1_3.out 3).trans rfl
      go_wp2_with fail
      refine (szBanS_room r2 (by omega) (by omega) B a4 n4 c4 bl _ (HA4.out _ hb3) (HBB.out _ hb3) HM.out.2.2.2.1 HM.out.2.2.2.2.2.2.2).mono ?_
      rintro e w4 ⟨r3, rfl, hl3, hr3, bw⟩
      have hb4 : Below w.heap.size w (w4) := hb3.trans (bw.mono hb3.size)
      have HBv1_4 : Hid ((w4).heap[qv1]? = some (.cells #[.slice a1 n1 c1, .slice a2 n2 c2, .slice a3 n3 c3, .slice a4 n4 c4, .int .i64 nx, .int .i64 sq] 29)) := blk_below HBv1_3.out bw
      clear hb3 HBv1_3 bw
      clear cv1_3
      by_cases hc3 : r3 < 0
      · clear hr3
        go_wp2_with fail
        go_ret
        exact ⟨-1, rfl, by omega, fun h => absurd h (by omega), hb4⟩
      · have HR3 : Hid _ := hr3 (by omega)
        clear hr3
        have m3 := HR3.out.1
        go_wp2_with fail
        go_ret
        exact ⟨r3, rfl, by omega, fun _ => ⟨by omega, HR1.out.2.1, HR1.out.2.2, HR2.out.2, HR3.out.2⟩, hb4⟩

end Go.Proofs.YtajccgffallajaaGreat
