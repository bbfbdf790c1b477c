/- A drawn text of parts is read as the chapter says; more behind what is bad, or too long, does not make it good (the law answers true), and the code reads as it did: for every code, no condition. The tables that strconv's text names hold what the program's text lays (the card ties them). -/
import Derived.Test.YtkpnacopljceaaaDoorChunkTab
import Derived.Test.YtkpnacopljceaaaDoorChunkImpl
import Derived.Test.YtkpnacopljceaaaDoorChunkDraw2
import Derived.Test.YtkpnacopljceaaaDoorChunkSpec2
import Derived.Below
import Derived.ChangeOld
import Derived.ShutString
import Derived.Deep.RegionHeld3
import Derived.Deep.DrawnRows
namespace Go.Proofs.YtkpnacopljceaaaDoor
namespace fnChunkRead
open Go.ChangeShapes Go.WideShapes Go.ChangeAt Go.RowKit
open Go.ChangeMaps (open_string shut_string)
attribute [local go_sem ↓] Go.wp_at_zero Go.wp_at_succ

theorem own : ownKnob Tryd.prog.godebug = none := by kernel_rfl
theorem laidOut : laidOutB Tryd.prog = true := by kernel_rfl
def IsRow (k : IntKind) (w : World) (a : Option Addr) (len cap : Nat) (zs : List Int) : Prop :=
  (a = none ∧ len = 0 ∧ cap = 0 ∧ zs = []) ∨
  ∃ x, a = some x ∧ len ≤ cap ∧ cap ≤ maxLen ∧ zs.length = cap ∧ (∀ i, i < zs.length → w.cell? (x.add i) = some (.int k (zs.getD i 0))) ∧ ∀ n ∈ zs, (Lit.int k n).wf = true
theorem row_cell {k : IntKind} {w : World} {x : Addr} {zs : List Int} (h : ∀ i, i < zs.length → w.cell? (x.add i) = some (.int k (zs.getD i 0))) (j : Nat) (hj : j < zs.length) : ∃ b off, x = ⟨b, off, none⟩ ∧ w.cell? ⟨b, off + j, none⟩ = some (.int k (zs.getD j 0)) := by
  obtain ⟨b, off, spot⟩ := x
  have hc := h j hj
  have hspot : spot = none := by
    have := World.cell?_spot (h 0 (by omega))
    simpa [Addr.add] using this
  subst hspot
  refine ⟨b, off, rfl, ?_⟩
  by_cases e : j = 0
  · subst e; simpa [Addr.add] using hc
  · simpa [Addr.add, e] using hc
theorem row_code {w : World} {a : Option Addr} {len cap : Nat} {zs : List Int} (h : IsRow .u8 w a len cap zs) (hl : len ≤ 1048576) : CodeAt w w.heap.size a len zs := by
  refine ⟨hl, fun j hj => ?_⟩
  rcases h with ⟨rfl, rfl, _, _⟩ | ⟨x, rfl, h1, _, h3, h4, h5⟩
  · omega
  · obtain ⟨b, off, rfl, hc2⟩ := row_cell h4 j (by omega)
    have hm : zs.getD j 0 ∈ zs := by
      rw [List.getD_eq_getElem?_getD, List.getElem?_eq_getElem (by omega)]
      exact List.getElem_mem _
    have hr := bounds_u8 (h5 _ hm)
    exact ⟨b, off, rfl, World.block_lt_of_cell? _ _ hc2, hc2, hr.1, by omega⟩

set_option maxHeartbeats 4000000 in
set_option maxRecDepth 100000 in
theorem walk1 (w : World) (a0 : Option Addr) (len0 cap0 : Nat) (z0 : List Int) (w0 : IsRow .u8 w a0 len0 cap0 z0) (hT : DbOk w) :
    Calls Tryd.prog 4 #[.slice a0 len0 cap0] w fun e w' => e = .returned (.bool true) ∧ Below w.heap.size w w' := by
  have HD : Hid (∀ W, Below w.heap.size w W → DbOk W) := fun W h => hT.later h
  clear hT
  by_cases hbig : (1048576 : Int) < (len0 : Int)
  · go_enter Tryd.func4, Tryd.ntmps4
    go_wp2_with (go_at_call 8; go_in)
    go_ret
    exact ⟨rfl, Below.refl _ _⟩
  · have hcode := row_code w0 (by omega)
    have hl0 : len0 ≤ 1048576 := by omega
    have HCODE : Hid (∀ W, Below w.heap.size w W → CodeAt W W.heap.size a0 len0 z0) := fun W h => (hcode.below h).upTo h.size
    clear w0
    go_enter Tryd.func4, Tryd.ntmps4
    go_wp2_with (go_at_call 8; go_in)
    refine (DrawChunkRead_any a0 len0 cap0 z0 _ hcode).mono ?_
    rintro e w1 ⟨raw, rfl, hraw, hb1⟩
    clear hcode
    go_wp2_with fail
    refine (implChunkRead_any raw _ (by omega) (HD.out _ hb1)).mono ?_
    rintro e w2 ⟨o, n, c, rfl, hrd, b2⟩
    have hb2 := hb1.trans (b2.mono hb1.size)
    have HRD : Hid (Rd (bs raw) [] 0 (bs o, n, c)) := hrd
    clear hrd b2 hb1
    go_wp2_with fail
    refine (specChunkRead_any raw _ (by omega)).mono ?_
    rintro e w3 ⟨o3, n3, c3, rfl, hrd3, b3⟩
    have hu := hrd3.uniq HRD.out
    simp only [Prod.mk.injEq] at hu
    obtain ⟨u1, u2, u3⟩ := hu
    have u1 := bs_inj u1
    subst u1 u2 u3
    have hb3 := hb2.trans (b3.mono hb2.size)
    have t1 : (o3.toList == o3.toList) = true := by simp
    have t2 : ((n3 : Int) != (n3 : Int)) = false := by simp
    have t3 : (c3 != c3) = false := by simp
    have e1 : (⟨#[48]⟩ : ByteArray).size = 1 := rfl
    have q1 : ¬ 9223372036854775807 < raw.size + 1 := by omega
    clear hrd3 b3 hb2
    go_wp2_with fail
    generalize htx : raw ++ (⟨#[48]⟩ : ByteArray) = tx
    have htxs : tx.size ≤ 2000000 := by rw [← htx, ByteArray.size_append, e1]; omega
    have HTX : Hid (bs tx = bs raw ++ [48]) := by show _ = _; rw [← htx, bs_append]; rfl
    clear htx
    refine (implChunkRead_any tx _ htxs (HD.out _ hb3)).mono ?_
    rintro e w4 ⟨o4, n4, c4, rfl, hrd4, b4⟩
    rw [HTX.out] at hrd4
    have HR4 : Hid (Rd (bs raw ++ [48]) [] 0 (bs o4, n4, c4)) := hrd4
    have hb4 := hb3.trans (b4.mono hb3.size)
    clear hrd4 b4 hb3 t1 t2 t3 e1 q1 htxs
    go_wp2_with fail
    refine (DrawHex_any a0 len0 cap0 z0 _ (HCODE.out _ hb4)).mono ?_
    rintro e w5 ⟨h, rfl, hh0, hh1, b5⟩
    have hb5 := hb4.trans (b5.mono hb4.size)
    clear b5 hb4
    go_wp2_with fail
    refine (implHex_any h _ (HD.out _ hb5)).mono ?_
    rintro e w6a ⟨rfl, b6a⟩
    have hb6a := hb5.trans (b6a.mono hb5.size)
    clear b6a hb5
    go_wp2_with fail
    refine (specHex_any h _).mono ?_
    rintro e w6 ⟨rfl, b6⟩
    have hb6 := hb6a.trans (b6.mono hb6a.size)
    clear b6 hb6a
    generalize hexTI h = hx
    have t4 : (hx.toList == hx.toList) = true := by simp
    rcases HRD.out.bounds (by simp) with ⟨k1, k2, k3⟩ | ⟨k1, k2, k3⟩
    · have k1 : c3 = 0 := k1
      have k2 : (o3.size : Int) ≤ 120 := by
        have k2 : (bs o3).length ≤ 120 := k2
        rw [bs_len] at k2; omega
      have k3 : (n3 : Int) ≤ (raw.size : Int) := by
        have k3 : n3 ≤ 0 + (bs raw).length := k3
        rw [bs_len] at k3; omega
      subst k1
      have hu := HR4.out.uniq (HRD.out.behind (by simp) [48])
      simp only [Prod.mk.injEq] at hu
      obtain ⟨_, u2, u3⟩ := hu
      subst u2 u3
      have t5 : ((n4 : Int) == (n4 : Int)) = true := by simp
      go_wp2_with fail
      go_ret
      exact ⟨rfl, hb6⟩
    · have k2 : o3 = ⟨#[]⟩ := bs_inj (by have k2 : bs o3 = [] := k2; rw [k2]; rfl)
      have k3 : n3 = 0 := k3
      subst k2 k3
      have k1 : c3 = 1 ∨ c3 = 2 ∨ c3 = 3 := k1
      rcases k1 with k1 | k1
      · subst k1
        go_wp2_with fail
        go_ret
        exact ⟨rfl, hb6⟩
      · have hu := HR4.out.uniq (HRD.out.behind (by rcases k1 with k1 | k1 <;> simp [k1]) [48])
        simp only [Prod.mk.injEq] at hu
        obtain ⟨_, _, u3⟩ := hu
        subst u3
        have t5 : (c4 == c4) = true := by simp
        rcases k1 with k1 | k1
        · subst k1
          go_wp2_with fail
          go_ret
          exact ⟨rfl, hb6⟩
        · subst k1
          go_wp2_with fail
          go_ret
          exact ⟨rfl, hb6⟩

set_option maxRecDepth 100000 in
theorem contract (H : Type) (enc : TypeId × Value → H) (W : World) (base : Nat) (args : Array Value) (ds gs : List (DataW H)) (before : List MemPlace)
    (hval : ∀ (j : Nat) t v, Tryd.f4.params[j]? = some t → args[j]? = some v → Value.okWide Tryd.prog W .any base t v)
    (hW : DataW.Whole enc Tryd.prog Tryd.f4.params.toList Rows.fnChunkReadSpec.vars false W args.toList ds gs before) (hL : laidMetH Tryd.prog Rows.fnChunkReadRow.laid W) :
    Calls Tryd.prog 4 args W fun e W' => ∃ v, e = .returned v ∧ Rows.fnChunkReadSpec.post enc Tryd.prog Tryd.f4 false true false false W args v W' := by
  have hT : DbOk W := dbtable hL
  have hW' := hW
  obtain ⟨p, q, hA0, hV, rfl, hfz, hnd⟩ := hW
  have hA : DataW.TrodAll enc Tryd.prog W 0 (fun _ => true) true Tryd.f4.params.toList args.toList ds p := hA0
  rw [Tryd.params4] at hA hval
  obtain ⟨v0, vs0, d0, ds0, p0, q0, hargs, rfl, rfl, h0, r0⟩ := trodAll_cons hA
  obtain ⟨rfl, rfl, rfl⟩ := trodAll_nil r0
  obtain rfl : args = #[v0] := by cases args; simp_all
  obtain ⟨rfl, rfl⟩ := trodVars_none hV
  obtain ⟨a0, len0, cap0, rfl⟩ := okWide_slice Tryd.underlying22 (hval 0 22 v0 rfl rfl)
  have k0 := h0
  have lt0 : ∀ x ∈ p0, x.block < W.heap.size := by obtain ⟨m, hm⟩ := k0; exact DataW.trod_lt m _ _ _ hm
  obtain ⟨z0, w0⟩ : ∃ zs, IsRow .u8 W a0 len0 cap0 zs := by
    obtain ⟨fuel, hf⟩ := h0
    rcases open_ints Tryd.underlying22 Tryd.underlying5 (by kernel_rfl) hf with ⟨hcs, _⟩ | ⟨x, l, c, zs, hcs, _, hl, hm, hz, _, hcell, hwz⟩
    · simp [Value.cells] at hcs
      obtain ⟨rfl, rfl, rfl⟩ := hcs
      exact ⟨[], .inl ⟨rfl, rfl, rfl, rfl⟩⟩
    · simp [Value.cells] at hcs
      obtain ⟨rfl, rfl, rfl⟩ := hcs
      exact ⟨zs, .inr ⟨_, rfl, hl, hm, by simpa using hz, hcell, hwz⟩⟩
  clear hA0
  refine (walk1 W a0 len0 cap0 z0 w0 hT).mono fun e W' ⟨he, bel⟩ => ?_
  subst he
  exact ⟨_, rfl, _, _, _, [], _, [], hW', trodAll_mk1 (shut_bool Tryd.underlying4 _), (trodAll_cons_mk (Below.trod laidOut (by kernel_rfl) (of_decide_eq_true (by kernel_rfl)) k0 bel lt0) trodAll_mk0), rfl, bel.frame _, fun h => by cases h⟩

theorem laid_met (os : Os) : laidMet Tryd.prog Rows.fnChunkReadRow.laid ((withTables (World.holding Tryd.prog os ⟨#[], #[], []⟩)).forCall (fun _ _ => 0) ⟨#[], #[.slice none 0 0], []⟩).memory :=
  laidMet_of_run' 80 (by kernel_rfl) (by kernel_rfl)
theorem reads (os : Os) {H : Type} (enc : TypeId × Value → H) : ∃ places, DataW.whole enc Tryd.prog ((withTables (World.holding Tryd.prog os ⟨#[], #[], []⟩)).forCall (fun _ _ => 0) ⟨#[], #[.slice none 0 0], []⟩).memory Tryd.f4.params.toList Rows.fnChunkReadSpec.vars false #[(.slice none 0 0 : Value)].toList 8 = some ([.nil], [], places) :=
  ⟨[], by kernel_rfl⟩

set_option maxRecDepth 100000 in
theorem lifted (os : Os) (started : os.Started) (H : Type) (enc : TypeId × Value → H) (F : Stop.Interp) :
    ReturnsInHanded {} Tryd.checked os 4 .any ((OpenSpec.ofChange Rows.fnChunkReadSpec).preRow enc Tryd.prog Tryd.f4 Rows.fnChunkReadRow.domain false Rows.fnChunkReadRow.laid) (((OpenSpec.ofChange Rows.fnChunkReadSpec).at F).post enc Tryd.prog Tryd.f4 false true false false) := by
  obtain ⟨places, hx⟩ := reads os enc
  refine returnsInHanded_of_row (C := Tryd.checked) (s := OpenSpec.ofChange Rows.fnChunkReadSpec) own started (by kernel_rfl) Tryd.func4
    (witness_row_at (enc := enc) (C := Tryd.checked) false (withTables (World.holding Tryd.prog os ⟨#[], #[], []⟩)) #[.slice none 0 0] rfl (by kernel_rfl) (by kernel_rfl) (by kernel_rfl)
      (OpenSpec.preRow_of_cond 8 hx (by kernel_rfl) (fun k hk => by cases hk) (by kernel_rfl) (laid_met os))) ?_
  intro W base args ds gs before hval hW _ _ _ hL _ _
  exact contract H enc W base args ds gs before hval hW hL

theorem said : Rows.FnChunkReadSaid :=
  OpenClaim.holds_of_cond 4 Tryd.f4 rfl rfl rfl rfl rfl rfl rfl ⟨rfl, rfl, rfl, rfl, rfl⟩ rfl rfl rfl rfl rfl (by kernel_rfl) Tryd.func4 (by kernel_rfl)
    (of_decide_eq_true (by kernel_rfl)) (by unfold Func.isWrapper; first | (rw [if_pos (by decide +kernel)]; kernel_rfl) | (rw [if_neg (by decide +kernel)]; exact ⟨rfl, rfl⟩))
    (fun os started H enc _ F => by rw [OpenClaim.pre_eq_preRow]; exact lifted os started H enc F)

theorem plain (f : FuncId) (fn : Func) (hf : Tryd.pinned.checked.prog.funcNamed "loop.example/g00239/laws.FnChunkRead" = some f) (hfn : Tryd.pinned.checked.prog.funcs[f]? = some fn) :
    true = Tryd.pinned.checked.prog.looks [] ∧ ∀ (j : Nat) t, fn.params[j]? = some t → Tryd.pinned.checked.prog.wantsStandIn t = false := by
  obtain rfl : f = 4 := Option.some.inj ((show Tryd.prog.funcNamed "loop.example/g00239/laws.FnChunkRead" = some 4 by kernel_rfl).symm.trans hf) |>.symm
  obtain rfl : fn = Tryd.f4 := (Option.some.inj (Tryd.func4.symm.trans hfn)).symm
  refine ⟨by kernel_rfl, fun j t ht => ?_⟩
  rw [Tryd.params4] at ht
  obtain rfl : t = 22 := by simpa using Array.mem_of_getElem? ht
  exact (show Tryd.prog.wantsStandIn 22 = false by kernel_rfl)

theorem card : Rows.FnChunkReadCardSaid :=
  Claim7.holds_tied_plain_at .later [] _ _ _ _ said (fun _ h => by cases h) (by kernel_rfl) (fun _ h => by cases h) fnChunkRead_row_tie rfl ⟨rfl, rfl⟩ (by kernel_rfl) rfl plain (by kernel_rfl)
end fnChunkRead

theorem fnChunkRead_holds : Rows.FnChunkReadCardSaid := fnChunkRead.card
#print axioms fnChunkRead_holds
end Go.Proofs.YtkpnacopljceaaaDoor
