/- A drawn body is read from its parts as it was, whatever parts; what is behind is left; cut short it is not whole (the law answers true), and the code reads as it did: for every code, no condition. The tables that strconv's text names hold what the program's text lays (the card ties them). -/
import Derived.Test.YtkpnacopljceaaaDoorChunkTab
import Derived.Test.YtkpnacopljceaaaDoorChunkImpl
import Derived.Test.YtkpnacopljceaaaDoorChunkDraw2
import Derived.Below
import Derived.ChangeOld
import Derived.ShutString
import Derived.Deep.RegionHeld3
import Derived.Deep.DrawnRows
namespace Go.Proofs.YtkpnacopljceaaaDoor
namespace fnChunks
open Go.ChangeShapes Go.WideShapes Go.ChangeAt Go.RowKit
open Go.ChangeMaps (open_string shut_string)
attribute [local go_sem ↓] Go.wp_at_zero Go.wp_at_succ

theorem own : ownKnob Tryd.prog.godebug = none := by kernel_rfl
theorem laidOut : laidOutB Tryd.prog = true := by kernel_rfl
def IsRow (k : IntKind) (w : World) (a : Option Addr) (len cap : Nat) (zs : List Int) : Prop :=
  (a = none ∧ len = 0 ∧ cap = 0 ∧ zs = []) ∨
  ∃ x, a = some x ∧ len ≤ cap ∧ cap ≤ maxLen ∧ zs.length = cap ∧ (∀ i, i < zs.length → w.cell? (x.add i) = some (.int k (zs.getD i 0))) ∧ ∀ n ∈ zs, (Lit.int k n).wf = true
theorem row_cell {k : IntKind} {w : World} {x : Addr} {zs : List Int} (h : ∀ i, i < zs.length → w.cell? (x.add i) = some (.int k (zs.getD i 0))) (j : Nat) (hj : j < zs.length) : ∃ b off, x = ⟨b, off, none⟩ ∧ w.cell? ⟨b, off + j, none⟩ = some (.int k (zs.getD j 0)) := by
  obtain ⟨b, off, spot⟩ := x
  have hc := h j hj
  have hspot : spot = none := by
    have := World.cell?_spot (h 0 (by omega))
    simpa [Addr.add] using this
  subst hspot
  refine ⟨b, off, rfl, ?_⟩
  by_cases e : j = 0
  · subst e; simpa [Addr.add] using hc
  · simpa [Addr.add, e] using hc
theorem row_code {w : World} {a : Option Addr} {len cap : Nat} {zs : List Int} (h : IsRow .u8 w a len cap zs) (hl : len ≤ 1048576) : CodeAt w w.heap.size a len zs := by
  refine ⟨hl, fun j hj => ?_⟩
  rcases h with ⟨rfl, rfl, _, _⟩ | ⟨x, rfl, h1, _, h3, h4, h5⟩
  · omega
  · obtain ⟨b, off, rfl, hc2⟩ := row_cell h4 j (by omega)
    have hm : zs.getD j 0 ∈ zs := by
      rw [List.getD_eq_getElem?_getD, List.getElem?_eq_getElem (by omega)]
      exact List.getElem_mem _
    have hr := bounds_u8 (h5 _ hm)
    exact ⟨b, off, rfl, World.block_lt_of_cell? _ _ hc2, hc2, hr.1, by omega⟩

set_option maxHeartbeats 400000 in
theorem at_any (a : Option Addr) (len cap : Nat) (zs : List Int) (w : World) (hcode : CodeAt w w.heap.size a len zs) :
    Calls Tryd.prog 13 #[.slice a len cap, .int .i64 1] w fun e w' => ∃ n : Nat, e = .returned (.int .i64 (n : Int)) ∧ n ≤ 255 ∧ w' = w := by
  have hle := hcode.le
  by_cases h : (1 : Int) < (len : Int)
  · obtain ⟨b, off, rfl, _, hc, h0, h1⟩ := hcode.get 1 (by omega)
    generalize zs.getD 1 0 = z at hc h0 h1
    clear hcode
    go_enter Tryd.func13, Tryd.ntmps13
    go_wp2_with fail
    go_ret
    exact ⟨z.toNat, ret_int (by omega), by omega, rfl⟩
  · clear hcode
    go_enter Tryd.func13, Tryd.ntmps13
    go_wp2_with fail
    go_ret
    exact ⟨((7 + (len : Int)) % 256).toNat, ret_int (by omega), by omega, rfl⟩
set_option maxHeartbeats 4000000 in
set_option maxRecDepth 100000 in
theorem walk1 (w : World) (a0 : Option Addr) (len0 cap0 : Nat) (z0 : List Int) (w0 : IsRow .u8 w a0 len0 cap0 z0) (hT : DbOk w) :
    Calls Tryd.prog 3 #[.slice a0 len0 cap0] w fun e w' => e = .returned (.bool true) ∧ Below w.heap.size w w' := by
  have HD : Hid (∀ W, Below w.heap.size w W → DbOk W) := fun W h => hT.later h
  clear hT
  by_cases hbig : (1048576 : Int) < (len0 : Int)
  · go_enter Tryd.func3, Tryd.ntmps3
    go_wp2_with (go_at_call 8; go_in)
    go_ret
    exact ⟨rfl, Below.refl _ _⟩
  · have hcode := row_code w0 (by omega)
    have hl0 : len0 ≤ 1048576 := by omega
    have HCODE : Hid (∀ W, Below w.heap.size w W → CodeAt W W.heap.size a0 len0 z0) := fun W h => (hcode.below h).upTo h.size
    clear w0
    go_enter Tryd.func3, Tryd.ntmps3
    go_wp2_with (go_at_call 8; go_in)
    refine (DrawChunkText_any a0 len0 cap0 z0 _ hcode).mono ?_
    rintro e w1 ⟨s, oa, cp, xs, rfl, hs, hxl, hv, hb1⟩
    have hcs := ctext_size s xs
    obtain ⟨n, hn⟩ : ∃ n, n = xs.length := ⟨_, rfl⟩
    rw [← hn] at hv hxl hcs
    rw [← hn]
    obtain ⟨t, ht⟩ : ∃ t, t = ctext s xs := ⟨_, rfl⟩
    rw [← ht] at hcs
    have HT : Hid (ctext s xs = t) := ht.symm
    clear ht hn hcode
    go_wp2_with fail
    refine (implChunkText_any s oa n cp xs _ hv (by omega) (by omega) (HD.out _ hb1)).mono ?_
    rintro e w2 ⟨rfl, b2⟩
    rw [HT.out]
    have hb2 := hb1.trans (b2.mono hb1.size)
    have hv2 := hv.below b2
    clear b2 hv hb1
    go_wp2_with fail
    refine (specChunkText_any s oa n cp xs _ hv2 (by omega) (by omega)).mono ?_
    rintro e w3 ⟨rfl, b3⟩
    rw [HT.out]
    have hb3 := hb2.trans (b3.mono hb2.size)
    have t1 : (t.toList == t.toList) = true := by simp
    have e3 : (⟨#[120, 121, 122]⟩ : ByteArray).size = 3 := rfl
    have q1 : ¬ 9223372036854775807 < t.size + 3 := by omega
    clear b3 hv2 hb2
    go_wp2_with fail
    generalize htx : t ++ (⟨#[120, 121, 122]⟩ : ByteArray) = tx
    have HTX : Hid (t ++ (⟨#[120, 121, 122]⟩ : ByteArray) = tx) := htx
    have htxs : tx.size ≤ 2000000 := by rw [← htx, ByteArray.size_append, e3]; omega
    clear htx
    refine (implChunkRead_any tx _ htxs (HD.out _ hb3)).mono ?_
    rintro e w4 ⟨o, m, c, rfl, hrd, b4⟩
    have hb4 := hb3.trans (b4.mono hb3.size)
    rw [← HTX.out, bs_append, ← HT.out, show bs (⟨#[120, 121, 122]⟩ : ByteArray) = [120, 121, 122] from rfl] at hrd
    clear b4 hb3 t1 q1 e3 htxs
    by_cases hlong : (120 : Int) < (s.size : Int)
    · have hu := hrd.uniq (ctext_long s xs [120, 121, 122] (by omega) (by omega))
      simp only [Prod.mk.injEq] at hu
      obtain ⟨u1, u2, u3⟩ := hu
      have u1 : o = ⟨#[]⟩ := bs_inj (by rw [u1]; rfl)
      subst u1 u2 u3
      clear hrd
      go_wp2_with fail
      go_ret
      exact ⟨rfl, hb4⟩
    · have hu := hrd.uniq (ctext_read s xs [120, 121, 122] (by omega))
      simp only [Prod.mk.injEq] at hu
      obtain ⟨u1, u2, u3⟩ := hu
      have u1 : o = s := bs_inj u1
      rw [HT.out] at u2
      subst u1 u2 u3
      clear hrd
      have t1 : (o.toList == o.toList) = true := by simp
      have t2 : ((t.size : Int) != (t.size : Int)) = false := by simp
      go_wp2_with fail
      refine (at_any a0 len0 cap0 z0 _ (HCODE.out _ hb4)).mono ?_
      rintro e w5 ⟨i, rfl, hi, rfl⟩
      have hmul : i * t.size ≤ 255 * t.size := Nat.mul_le_mul_right _ hi
      have hpos : 1 ≤ t.size := by rw [← HT.out]; unfold ctext; rw [ByteArray.size_append]; exact Nat.le_add_left_of_le (by decide)
      have hkt : i * t.size / 256 < t.size := by omega
      have hwr : IntKind.i64.wrap ((i : Int) * (t.size : Int)) = (i : Int) * (t.size : Int) := IntWalk.i64_in _ (by rw [← Int.natCast_mul]; omega)
      have hm0 : (0 : Int) ≤ (i : Int) * (t.size : Int) := by rw [← Int.natCast_mul]; omega
      have hm1 : (i : Int) * (t.size : Int) ≤ 1000000 := by rw [← Int.natCast_mul]; omega
      have hd0 : (0 : Int) ≤ (i : Int) * (t.size : Int) / 256 := by rw [← Int.natCast_mul]; omega
      have hd1 : (i : Int) * (t.size : Int) / 256 ≤ (t.size : Int) := by rw [← Int.natCast_mul]; omega
      clear hmul
      go_wp2_with fail
      generalize hty : t.extract 0 (i * t.size / 256) = ty
      have htys : ty.size ≤ 2000000 := by rw [← hty, ByteArray.size_extract]; omega
      have HTY : Hid (bs ty = (bs (ctext o xs)).take (i * t.size / 256)) := by
        show _ = _
        rw [← hty, bs_extract, HT.out]
        simp
      have HKT : Hid (i * t.size / 256 < (ctext o xs).size) := by show _ < _; rw [HT.out]; exact hkt
      clear hty hwr hm0 hm1 hd0 hd1 hkt
      refine (implChunkRead_any ty _ htys (HD.out _ hb4)).mono ?_
      rintro e w6 ⟨o6, n6, c6, rfl, hrd, b6⟩
      have hb6 := hb4.trans (b6.mono hb4.size)
      rw [HTY.out] at hrd
      have hu := hrd.uniq (ctext_cut o xs (i * t.size / 256) (by omega) HKT.out)
      simp only [Prod.mk.injEq] at hu
      obtain ⟨_, _, u3⟩ := hu
      clear hrd b6 hb4
      subst u3
      go_wp2_with fail
      go_ret
      exact ⟨rfl, hb6⟩

set_option maxRecDepth 100000 in
theorem contract (H : Type) (enc : TypeId × Value → H) (W : World) (base : Nat) (args : Array Value) (ds gs : List (DataW H)) (before : List MemPlace)
    (hval : ∀ (j : Nat) t v, Tryd.f3.params[j]? = some t → args[j]? = some v → Value.okWide Tryd.prog W .any base t v)
    (hW : DataW.Whole enc Tryd.prog Tryd.f3.params.toList Rows.fnChunksSpec.vars false W args.toList ds gs before) (hL : laidMetH Tryd.prog Rows.fnChunksRow.laid W) :
    Calls Tryd.prog 3 args W fun e W' => ∃ v, e = .returned v ∧ Rows.fnChunksSpec.post enc Tryd.prog Tryd.f3 false true false false W args v W' := by
  have hT : DbOk W := dbtable hL
  have hW' := hW
  obtain ⟨p, q, hA0, hV, rfl, hfz, hnd⟩ := hW
  have hA : DataW.TrodAll enc Tryd.prog W 0 (fun _ => true) true Tryd.f3.params.toList args.toList ds p := hA0
  rw [Tryd.params3] at hA hval
  obtain ⟨v0, vs0, d0, ds0, p0, q0, hargs, rfl, rfl, h0, r0⟩ := trodAll_cons hA
  obtain ⟨rfl, rfl, rfl⟩ := trodAll_nil r0
  obtain rfl : args = #[v0] := by cases args; simp_all
  obtain ⟨rfl, rfl⟩ := trodVars_none hV
  obtain ⟨a0, len0, cap0, rfl⟩ := okWide_slice Tryd.underlying22 (hval 0 22 v0 rfl rfl)
  have k0 := h0
  have lt0 : ∀ x ∈ p0, x.block < W.heap.size := by obtain ⟨m, hm⟩ := k0; exact DataW.trod_lt m _ _ _ hm
  obtain ⟨z0, w0⟩ : ∃ zs, IsRow .u8 W a0 len0 cap0 zs := by
    obtain ⟨fuel, hf⟩ := h0
    rcases open_ints Tryd.underlying22 Tryd.underlying5 (by kernel_rfl) hf with ⟨hcs, _⟩ | ⟨x, l, c, zs, hcs, _, hl, hm, hz, _, hcell, hwz⟩
    · simp [Value.cells] at hcs
      obtain ⟨rfl, rfl, rfl⟩ := hcs
      exact ⟨[], .inl ⟨rfl, rfl, rfl, rfl⟩⟩
    · simp [Value.cells] at hcs
      obtain ⟨rfl, rfl, rfl⟩ := hcs
      exact ⟨zs, .inr ⟨_, rfl, hl, hm, by simpa using hz, hcell, hwz⟩⟩
  clear hA0
  refine (walk1 W a0 len0 cap0 z0 w0 hT).mono fun e W' ⟨he, bel⟩ => ?_
  subst he
  exact ⟨_, rfl, _, _, _, [], _, [], hW', trodAll_mk1 (shut_bool Tryd.underlying4 _), (trodAll_cons_mk (Below.trod laidOut (by kernel_rfl) (of_decide_eq_true (by kernel_rfl)) k0 bel lt0) trodAll_mk0), rfl, bel.frame _, fun h => by cases h⟩

theorem laid_met (os : Os) : laidMet Tryd.prog Rows.fnChunksRow.laid ((withTables (World.holding Tryd.prog os ⟨#[], #[], []⟩)).forCall (fun _ _ => 0) ⟨#[], #[.slice none 0 0], []⟩).memory :=
  laidMet_of_run' 80 (by kernel_rfl) (by kernel_rfl)
theorem reads (os : Os) {H : Type} (enc : TypeId × Value → H) : ∃ places, DataW.whole enc Tryd.prog ((withTables (World.holding Tryd.prog os ⟨#[], #[], []⟩)).forCall (fun _ _ => 0) ⟨#[], #[.slice none 0 0], []⟩).memory Tryd.f3.params.toList Rows.fnChunksSpec.vars false #[(.slice none 0 0 : Value)].toList 8 = some ([.nil], [], places) :=
  ⟨[], by kernel_rfl⟩

set_option maxRecDepth 100000 in
theorem lifted (os : Os) (started : os.Started) (H : Type) (enc : TypeId × Value → H) (F : Stop.Interp) :
    ReturnsInHanded {} Tryd.checked os 3 .any ((OpenSpec.ofChange Rows.fnChunksSpec).preRow enc Tryd.prog Tryd.f3 Rows.fnChunksRow.domain false Rows.fnChunksRow.laid) (((OpenSpec.ofChange Rows.fnChunksSpec).at F).post enc Tryd.prog Tryd.f3 false true false false) := by
  obtain ⟨places, hx⟩ := reads os enc
  refine returnsInHanded_of_row (C := Tryd.checked) (s := OpenSpec.ofChange Rows.fnChunksSpec) own started (by kernel_rfl) Tryd.func3
    (witness_row_at (enc := enc) (C := Tryd.checked) false (withTables (World.holding Tryd.prog os ⟨#[], #[], []⟩)) #[.slice none 0 0] rfl (by kernel_rfl) (by kernel_rfl) (by kernel_rfl)
      (OpenSpec.preRow_of_cond 8 hx (by kernel_rfl) (fun k hk => by cases hk) (by kernel_rfl) (laid_met os))) ?_
  intro W base args ds gs before hval hW _ _ _ hL _ _
  exact contract H enc W base args ds gs before hval hW hL

theorem said : Rows.FnChunksSaid :=
  OpenClaim.holds_of_cond 3 Tryd.f3 rfl rfl rfl rfl rfl rfl rfl ⟨rfl, rfl, rfl, rfl, rfl⟩ rfl rfl rfl rfl rfl (by kernel_rfl) Tryd.func3 (by kernel_rfl)
    (of_decide_eq_true (by kernel_rfl)) (by unfold Func.isWrapper; first | (rw [if_pos (by decide +kernel)]; kernel_rfl) | (rw [if_neg (by decide +kernel)]; exact ⟨rfl, rfl⟩))
    (fun os started H enc _ F => by rw [OpenClaim.pre_eq_preRow]; exact lifted os started H enc F)

theorem plain (f : FuncId) (fn : Func) (hf : Tryd.pinned.checked.prog.funcNamed "loop.example/g00239/laws.FnChunks" = some f) (hfn : Tryd.pinned.checked.prog.funcs[f]? = some fn) :
    true = Tryd.pinned.checked.prog.looks [] ∧ ∀ (j : Nat) t, fn.params[j]? = some t → Tryd.pinned.checked.prog.wantsStandIn t = false := by
  obtain rfl : f = 3 := Option.some.inj ((show Tryd.prog.funcNamed "loop.example/g00239/laws.FnChunks" = some 3 by kernel_rfl).symm.trans hf) |>.symm
  obtain rfl : fn = Tryd.f3 := (Option.some.inj (Tryd.func3.symm.trans hfn)).symm
  refine ⟨by kernel_rfl, fun j t ht => ?_⟩
  rw [Tryd.params3] at ht
  obtain rfl : t = 22 := by simpa using Array.mem_of_getElem? ht
  exact (show Tryd.prog.wantsStandIn 22 = false by kernel_rfl)

theorem card : Rows.FnChunksCardSaid :=
  Claim7.holds_tied_plain_at .later [] _ _ _ _ said (fun _ h => by cases h) (by kernel_rfl) (fun _ h => by cases h) fnChunks_row_tie rfl ⟨rfl, rfl⟩ (by kernel_rfl) rfl plain (by kernel_rfl)
end fnChunks

theorem fnChunks_holds : Rows.FnChunksCardSaid := fnChunks.card
#print axioms fnChunks_holds
end Go.Proofs.YtkpnacopljceaaaDoor
