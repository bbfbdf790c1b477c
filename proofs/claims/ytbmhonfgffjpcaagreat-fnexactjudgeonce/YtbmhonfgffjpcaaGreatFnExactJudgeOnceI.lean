/- What the proof of FnExactJudgeOnce leans on: contracts of the program's and the specification's functions, and plain facts (part 9 of 11). -/
import Derived.Test.YtbmhonfgffjpcaaGreatFnExactJudgeOnceH
set_option maxHeartbeats 16000000
set_option maxRecDepth 100000
namespace Go.Proofs.YtbmhonfgffjpcaaGreat
open Go.RowKit
open Go.Lib hiding intOf
theorem owns_cap {w : World} {B T z : Nat} {o : Option Addr} {n c : Nat} {cs : List Value} (h : w.ownsRow B T z (.slice o n c) n cs) : n ≤ c := by
 rcases h.2 with ⟨h1, _⟩ | ⟨g, cap, cur, h1, _, _, h2, _⟩
 ·
  injection h1 with _ h3 _
  omega
 ·
  injection h1 with _ h3 h4
  omega
theorem RpAt.range {w : World} {g i : Nat} {x : RpV} (h : RpAt w g i x) : w.rangeAt g (i * 18) (rpC x) := range_cons h.c0 (range_cons h.c1 (range_cons h.c2 (range_cons h.c3 (range_cons h.c4 (range_cons h.c5 (range_cons h.c6 (range_cons h.c7 (range_cons h.c8 (range_cons h.c9 (range_cons h.c10 (range_cons h.c11 (range_cons h.c12 (range_cons h.c13 (range_cons h.c14 (range_cons h.c15 (range_cons h.c16 (range_cons h.c17 (range_nil _ _ _))))))))))))))))))
theorem run_equalIn_func_nil {P : Program} (w : World) (d : Nat) (t : TypeId) {ps rs : Array TypeId} {vd : Bool} (f : Fn) (a c : Array Value) (h : P.underlying t = some (.func ps rs vd)) : (Op.equalIn (d + 1) t (.func f a c) .nilFunc).run P w = .ok false w := by
 simp [Op.equalIn, run_underlying h]
theorem run_equalIn_nil_nil {P : Program} (w : World) (d : Nat) (t : TypeId) {ps rs : Array TypeId} {vd : Bool} (h : P.underlying t = some (.func ps rs vd)) : (Op.equalIn (d + 1) t .nilFunc .nilFunc).run P w = .ok true w := by
 simp [Op.equalIn, run_underlying h]
theorem run_neq_func_nil {P : Program} (w : World) (t : TypeId) {ps rs : Array TypeId} {vd : Bool} (f : Fn) (a c : Array Value) (h : P.underlying t = some (.func ps rs vd)) : (binOp .neq t (.func f a c) .nilFunc).run P w = .ok (.bool true) w := by
 have e : (Op.equal t (.func f a c) .nilFunc).run P w = .ok false w := run_equalIn_func_nil w 9999 t f a c h
 simp only [binOp]
 simp [e]
theorem run_neq_nil_nil {P : Program} (w : World) (t : TypeId) {ps rs : Array TypeId} {vd : Bool} (h : P.underlying t = some (.func ps rs vd)) : (binOp .neq t .nilFunc .nilFunc).run P w = .ok (.bool false) w := by
 have e : (Op.equal t .nilFunc .nilFunc).run P w = .ok true w := run_equalIn_nil_nil w 9999 t h
 simp only [binOp]
 simp [e]
/-- So of each answer from here. -/
def EachHere (P : RpD → Prop) (sn : List RpD) : Prop := ∀ i, i < sn.length → (rpAt sn i).knd = 1 → P (rpAt sn i)
end Go.Proofs.YtbmhonfgffjpcaaGreat
namespace Go.Proofs.YtbmhonfgffjpcaaGreat
open Go.RowKit
open Go.Lib hiding intOf
open Go.Sort
/-- Who waits in the first so many flights; who was answered by the first so many answers. -/
def whoTo (fl : List FlD) (i : Nat) : List Int := (fl.take i).flatMap (·.who)
def cliTo (sn : List RpD) (i : Nat) : List Int := (sn.take i).map (·.cli)
/-- Nobody stands there twice. -/
def OnceP (c : CaD) : Prop := (whoTo c.fl c.fl.length ++ cliTo c.sn c.sn.length).Nodup
/-- JudgeOnce, in plain words. -/
def JOnceP (c : CaD) : Prop := CacheP c ∧ OnceP c ∧ EachHere (fun _ => True) c.sn
theorem whoTo_succ (fl : List FlD) (i : Nat) (h : i < fl.length) : whoTo fl (i + 1) = whoTo fl i ++ (flAt fl i).who := by
 unfold whoTo flAt
 rw [List.getD_eq_getElem?_getD, List.getElem?_eq_getElem h, List.take_succ_eq_append_getElem h, List.flatMap_append]
 simp
theorem cliTo_succ (sn : List RpD) (i : Nat) (h : i < sn.length) : cliTo sn (i + 1) = cliTo sn i ++ [(rpAt sn i).cli] := by
 unfold cliTo rpAt
 rw [List.getD_eq_getElem?_getD, List.getElem?_eq_getElem h, List.take_succ_eq_append_getElem h, List.map_append]
 rfl
theorem CacheP.who {c : CaD} (h : CacheP c) {i : Nat} (hi : i < c.fl.length) : (flAt c.fl i).who.length ≤ 5 := by
 have h1 := (h.2.2.1.2 i hi).1.2.1.2
 omega
theorem nodup_get (zs : List Int) : zs.Nodup ↔ ∀ a b, a < b → b < zs.length → zs.getD b 0 ≠ zs.getD a 0 := by
 unfold List.Nodup
 rw [List.pairwise_iff_getElem]
 constructor
 ·
  intro h a b hab hb e
  refine h a b (by omega) hb hab ?_
  rw [List.getD_eq_getElem?_getD, List.getD_eq_getElem?_getD, List.getElem?_eq_getElem hb, List.getElem?_eq_getElem (show a < zs.length by omega)] at e
  exact e.symm
 ·
  intro h a b ha hb hab e
  refine h a b hab hb ?_
  rw [List.getD_eq_getElem?_getD, List.getD_eq_getElem?_getD, List.getElem?_eq_getElem hb, List.getElem?_eq_getElem ha]
  exact e.symm
theorem compact_len (zs : List Int) : (Lib.compact zs).length = zs.length ↔ ∀ j, 0 < j → j < zs.length → zs.getD j 0 ≠ zs.getD (j - 1) 0 := by
 unfold Lib.compact Lib.compactUpTo
 rw [List.length_map]
 have e : (List.range zs.length).length = zs.length := List.length_range
 have h1 : ((List.range zs.length).filter (Lib.keeps zs.toArray)).length = zs.length ↔ ∀ j ∈ List.range zs.length, Lib.keeps zs.toArray j = true := by
  have h2 := @List.length_filter_eq_length_iff Nat (Lib.keeps zs.toArray) (List.range zs.length)
  rw [e] at h2
  exact h2
 rw [h1]
 have hk : ∀ j, j < zs.length → (Lib.keeps zs.toArray j = true ↔ (j = 0 ∨ zs.getD j 0 ≠ zs.getD (j - 1) 0)) := fun j hj => by
  unfold Lib.keeps
  rw [decide_eq_true_iff, getElem!_pos zs.toArray j (by simpa using hj), getElem!_pos zs.toArray (j - 1) (by simp; omega), List.getD_eq_getElem?_getD, List.getD_eq_getElem?_getD, List.getElem?_eq_getElem hj, List.getElem?_eq_getElem (show j - 1 < zs.length by omega)]
  simp
 constructor
 ·
  intro h j h0 hj
  rcases (hk j hj).1 (h j (List.mem_range.2 hj)) with e | e
  · omega
  · exact e
 ·
  intro h j hj
  have hj := List.mem_range.1 hj
  refine (hk j hj).2 ?_
  by_cases h0 : j = 0
  · exact .inl h0
  · exact .inr (h j (by omega) hj)
theorem sorted_get {zs : List Int} (h : zs.Pairwise (fun x y => decide (x ≤ y) = true)) : ∀ a b, a ≤ b → b < zs.length → zs.getD a 0 ≤ zs.getD b 0 := by
 intro a b hab hb
 rw [List.pairwise_iff_getElem] at h
 rw [List.getD_eq_getElem?_getD, List.getD_eq_getElem?_getD, List.getElem?_eq_getElem hb, List.getElem?_eq_getElem (show a < zs.length by omega)]
 by_cases e : a = b
 · subst e; exact Int.le_refl _
 · exact of_decide_eq_true (h a b (by omega) hb (by omega))
theorem infoInt : (Tryz.prog.info? 3).map (fun i => (i.zero, i.size, i.bytes)) = some (some (.int .i64 0), 1, 8) := by kernel_rfl
theorem ints_ones (zs : List Int) : ∀ u ∈ zs.map (Value.int .i64), u.oneCell' = true := fun u hu => by obtain ⟨x, _, rfl⟩ := List.mem_map.1 hu; rfl
def sortI (zs : List Int) : List Int := zs.mergeSort fun x y => decide (x ≤ y)
theorem sortI_len (zs : List Int) : (sortI zs).length = zs.length := List.length_mergeSort _
theorem sortI_sorted (zs : List Int) : (sortI zs).Pairwise (fun x y => decide (x ≤ y) = true) :=
 List.pairwise_mergeSort (le := fun x y : Int => decide (x ≤ y)) (fun a b c h1 h2 => decide_eq_true (Int.le_trans (of_decide_eq_true h1) (of_decide_eq_true h2))) (fun a b => by rcases Int.le_total a b with h | h <;> simp [h]) zs
theorem once_iff (zs : List Int) : (Lib.compact (sortI zs)).length = zs.length ↔ zs.Nodup := by
 have hp : (sortI zs).Perm zs := List.mergeSort_perm zs _
 rw [← hp.nodup_iff, ← sortI_len zs, compact_len, nodup_get]
 constructor
 ·
  intro h a b hab hb e
  have h1 := sorted_get (sortI_sorted zs) a (b - 1) (by omega) (by omega)
  have h2 := sorted_get (sortI_sorted zs) (b - 1) b (by omega) hb
  exact h b (by omega) hb (by omega)
 ·
  intro h j h0 hj
  exact h (j - 1) j (by omega) hj
theorem once_swap (xs ys : List Int) : (xs ++ ys).Nodup ↔ (ys ++ xs).Nodup := (List.perm_append_comm).nodup_iff
theorem len64_0 (w : World) : Calls Tryz.prog 179 #[.int .u64 0] w fun e w' => e = .returned (.int .i64 0) ∧ w' = w := by
 go_enter Tryz.func179, Tryz.ntmps179
 go_wp2
 go_ret
 refine ⟨?_, rfl⟩
 show Ending.returned (Value.int .i64 (wrap64 (wrap64 (len8 0)))) = _
 have e0 : wrap64 0 = 0 := by first | decide | (unfold wrap64; decide) | (simp [wrap64]; done) | (unfold wrap64; simp; done) | (unfold wrap64; omega)
 rw [show len8 0 = 0 from by first | rfl | decide | simp [len8], e0, e0]
theorem len_0 (w : World) : Calls Tryz.prog 151 #[.int .u64 0] w fun e w' => e = .returned (.int .i64 0) ∧ w' = w := by
 go_enter Tryz.func151, Tryz.ntmps151
 go_wp2_with fail
 refine (len64_0 _).mono ?_
 rintro e w' ⟨rfl, rfl⟩
 go_wp2_with fail
 go_ret
 exact ⟨rfl, rfl⟩
theorem insert_0 (p : Option Addr) (cap : Nat) (w : World) : Calls Tryz.prog 169 #[.slice p 0 cap, .int .i64 0, .int .i64 0] w fun e w' => e = .returned (.tuple #[]) ∧ w' = w := by
 go_enter Tryz.func169, Tryz.ntmps169
 go_wp2
 refine wp_loop_rounds 1 ?_
 rw [rounds_succ]
 go_wp2
 go_end0
 exact ⟨rfl, rfl⟩
theorem pdq_0 (p : Option Addr) (cap : Nat) (w : World) : Calls Tryz.prog 150 #[.slice p 0 cap, .int .i64 0, .int .i64 0, .int .i64 0] w fun e w' => e = .returned (.tuple #[]) ∧ w' = w := by
 go_enter Tryz.func150, Tryz.ntmps150
 go_wp2
 refine wp_loop_rounds 1 ?_
 rw [rounds_succ]
 go_wp2_with (first | (go_at_call 169; refine (insert_0 p cap _).mono ?_; rintro e w' ⟨rfl, rfl⟩))
 refine bodyPost_ret (results_none rfl _ _ _) rfl ?_
 exact ⟨rfl, rfl⟩
theorem sort_0 (p : Option Addr) (cap : Nat) (w : World) : Calls Tryz.prog 126 #[.slice p 0 cap] w fun e w' => e = .returned (.tuple #[]) ∧ w' = w := by
 go_enter Tryz.func126, Tryz.ntmps126
 go_wp2_with (first
  | (go_at_call 151; refine (len_0 _).mono ?_; rintro e w' ⟨rfl, rfl⟩)
  | (go_at_call 150; refine (pdq_0 p cap _).mono ?_; rintro e w' ⟨rfl, rfl⟩))
 go_end0
 exact ⟨rfl, rfl⟩
/-- A row of ints of one's own, sorted: what else was there stays. -/
theorem sortInts_any (o : Option Addr) (m p : Nat) (zs : List Int) (base : Nat) (w : World) (h : w.ownsRow base 3 1 (.slice o m p) m (zs.map (Value.int .i64))) (hl : zs.length = m) (hm : m ≤ 2000000) :
  Calls Tryz.prog 126 #[.slice o m p] w fun e w' => e = .returned (.tuple #[]) ∧ w'.ownsRow base 3 1 (.slice o m p) m ((sortI zs).map (Value.int .i64)) ∧ w.grownBy w' (Value.ownBlock (.slice o m p)) := by
 subst hl
 rcases h.2 with ⟨h1, h2⟩ | ⟨g, cap, cur, hv, hb, hg, hn, hcap, hsz, ht⟩
 ·
  injection h1 with e1 e2 e3
  have e4 : zs = [] := List.eq_nil_of_length_eq_zero e2
  subst e4
  exact (sort_0 o p w).mono fun e w' ⟨h3, h4⟩ => ⟨h3, by rw [h4, show sortI [] = [] from by simp [sortI]]; exact h, by rw [h4]; exact World.grownBy.refl _ _⟩
 ·
  injection hv with e1 e2 e3
  subst e1 e3
  have hgl : g < w.heap.size := (Array.getElem?_eq_some_iff.1 hg).1
  rw [Nat.mul_one] at ht
  refine (Tryz.slices_Sort_int g 0 p zs w (holds_of_blockI hg ht) hgl (by omega)).mono ?_
  rintro e w' ⟨h3, n, os, h4⟩
  refine ⟨h3, ?_, ?_⟩
  · rw [h4]; exact ownsRow_sortedI (sortI_len zs) hb hg hn hcap hsz
  · rw [h4]; exact grownBy_sortedI _
/-- slices.Compact: how many are left. -/
theorem compactInts_any (o : Option Addr) (m p : Nat) (zs : List Int) (base : Nat) (w : World) (h : w.ownsRow base 3 1 (.slice o m p) m (zs.map (Value.int .i64))) (hl : zs.length = m) (hm : m ≤ 2000000) :
  Calls Tryz.prog 127 #[.slice o m p] w fun e w' => e = .returned (.slice o (Lib.compact zs).length p) ∧ w.grownBy w' (Value.ownBlock (.slice o m p)) := by
 subst hl
 rcases h.2 with ⟨h1, h2⟩ | ⟨g, cap, cur, hv, hb, hg, hn, hcap, hsz, ht⟩
 ·
  injection h1 with e1 e2 e3
  have e4 : zs = [] := List.eq_nil_of_length_eq_zero e2
  subst e4
  exact (Tryz.slices_Compact_int_empty o p w).mono fun e w' ⟨h3, h4⟩ => ⟨by rw [h3]; rfl, by rw [h4]; exact World.grownBy.refl _ _⟩
 ·
  injection hv with e1 e2 e3
  subst e1 e3
  rw [Nat.mul_one] at ht
  refine (Tryz.slices_Compact_int g 0 p zs w (holds_of_blockI hg ht) (by omega) (by omega)).mono ?_
  rintro e w' ⟨h3, n, h4⟩
  refine ⟨h3, ?_⟩
  obtain ⟨ts, hts⟩ := exq (Lib.compact zs ++ List.replicate (zs.length - (Lib.compact zs).length) 0)
  rw [← hts] at h4
  have hgr : w.grownBy (grow (putRow (Value.int .i64) (Sort.ahead w n) g 0 ts.toArray) #[]) (some g) := grownBy_sortedI _
  rw [grow_empty, ← h4] at hgr
  exact hgr
end Go.Proofs.YtbmhonfgffjpcaaGreat
namespace Go.Proofs.YtbmhonfgffjpcaaGreat
open Go.RowKit
open Go.Lib hiding intOf
theorem flightOk_any (d : FlD) (u2 u4 u6 u7 u9 : Value) (B : Nat) (w : World) (h : RowsO w B (flR (⟨d, u2, u4, u6, u7, u9⟩ : FlV))) (hs : FlSmall d) :
  Calls Tryz.prog 104 #[.agg #[.int .i64 d.qmt, .string d.qpa, u2, .string d.qbd, u4, .string d.opa, u6, u7, .int .i64 d.ost, u9, .string d.obd, .int .i64 d.otm, .bool d.has]] w fun e w' => BoolIs (FlOk d) w e w' := by
 obtain ⟨ku2, kuc2, hu⟩ := slice_of_owns (h.own (⟨171, 2, u2, d.qfs.length, flatF d.qfs⟩ : Rw) (by simp [flR]))
 obtain rfl : u2 = .slice ku2 d.qfs.length kuc2 := hu
 obtain ⟨ku4, kuc4, hu⟩ := slice_of_owns (h.own (⟨3, 1, u4, d.who.length, d.who.map (Value.int .i64)⟩ : Rw) (by simp [flR]))
 obtain rfl : u4 = .slice ku4 d.who.length kuc4 := hu
 obtain ⟨ku6, kuc6, hu⟩ := slice_of_owns (h.own (⟨9, 1, u6, d.oxs.length, d.oxs.map Value.string⟩ : Rw) (by simp [flR]))
 obtain rfl : u6 = .slice ku6 d.oxs.length kuc6 := hu
 obtain ⟨ku7, kuc7, hu⟩ := slice_of_owns (h.own (⟨9, 1, u7, d.oys.length, d.oys.map Value.string⟩ : Rw) (by simp [flR]))
 obtain rfl : u7 = .slice ku7 d.oys.length kuc7 := hu
 obtain ⟨ku9, kuc9, hu⟩ := slice_of_owns (h.own (⟨171, 2, u9, d.ofs.length, flatF d.ofs⟩ : Rw) (by simp [flR]))
 obtain rfl : u9 = .slice ku9 d.ofs.length kuc9 := hu
 have HRd : Hid (∀ W, Below w.heap.size w W → RowsO W B (flR (⟨d, .slice ku2 d.qfs.length kuc2, .slice ku4 d.who.length kuc4, .slice ku6 d.oxs.length kuc6, .slice ku7 d.oys.length kuc7, .slice ku9 d.ofs.length kuc9⟩ : FlV))) := fun W hb => h.below hb
 have HSd : Hid (FlSmall d) := hs
 have bwho : d.who.length ≤ 1048576 := hs.who
 clear h hs
 obtain ⟨hs, hhs⟩ := exq d.has
 rw [← hhs]
 have HHhs : Hid (hs = d.has) := hhs
 clear hhs
 have hb0 : Below w.heap.size w w := Below.refl _ _
 go_enter Tryz.func104, Tryz.ntmps104
 go_upto_region 1 with fail
 obtain ⟨qv1, hqv1⟩ := exq ((w).heap.size)
 obtain ⟨w1, hW1⟩ := exq ((w).alloc (.cells #[.int .i64 d.qmt, .string d.qpa, .slice ku2 d.qfs.length kuc2, .string d.qbd, .slice ku4 d.who.length kuc4, .string d.opa, .slice ku6 d.oxs.length kuc6, .slice ku7 d.oys.length kuc7, .int .i64 d.ost, .slice ku9 d.ofs.length kuc9, .string d.obd, .int .i64 d.otm, .bool hs] 129))
 have hz1 : (w).heap.size = qv1 := hqv1.symm
 first | rw [← hW1, ← hqv1] | rw [← hW1]
 have hs1 := hsa hW1 hz1
 have bw := bal hW1
 have hb1 := hbt hb0 bw
 have HBv1_1 := hnew hW1 hz1
 clear hb0 bw hW1 hz1
 clear hs1 hqv1
 have cv1_0 : (w1).cell? ⟨qv1, 0, none⟩ = some (.int .i64 d.qmt) := (cell_of HBv1_1.out 0).trans rfl
 have cv1_1 : (w1).cell? ⟨qv1, 1, none⟩ = some (.string d.qpa) := (cell_of HBv1_1.out 1).trans rfl
 have cv1_2 : (w1).cell? ⟨qv1, 2, none⟩ = some (.slice ku2 d.qfs.length kuc2) := (cell_of HBv1_1.out 2).trans rfl
 have cv1_3 : (w1).cell? ⟨qv1, 3, none⟩ = some (.string d.qbd) := (cell_of HBv1_1.out 3).trans rfl
 go_wp2_with fail
 refine (implReqOk_f d _ _ _ _ _ B _ (HRd.out _ hb1) HSd.out).mono ?_
 rintro e w2 ⟨ur, rfl, hur, bw⟩
 have hb2 := hbt hb1 bw
 have HBv1_2 := hblk HBv1_1 bw
 clear hb1 HBv1_1 bw
 clear cv1_0 cv1_1 cv1_2 cv1_3
 cases ur with
 | false =>
  have HNur : Hid (¬ (ReqF d)) := fun h => nomatch hur.2 h
  clear hur
  go_wp2_with fail
  go_ret
  exact BoolIs.no (fun h => HNur.out h.1) hb2
 | true =>
  have HYur : Hid (ReqF d) := hur.1 rfl
  clear hur
  by_cases hc1 : 1 ≤ (d.who.length : Int)
  ·
   have Hlo : Hid (1 ≤ (d.who.length : Int)) := hc1
   by_cases hc2 : (d.who.length : Int) ≤ 5
   ·
    have Hhi : Hid ((d.who.length : Int) ≤ 5) := hc2
    cases hs with
    | false =>
     have cv1_4 : (w2).cell? ⟨qv1, 4, none⟩ = some (.slice ku4 d.who.length kuc4) := (cell_of HBv1_2.out 4).trans rfl
     have cv1_12 : (w2).cell? ⟨qv1, 12, none⟩ = some (.bool false) := (cell_of HBv1_2.out 12).trans rfl
     go_wp2_with fail
     go_ret
     exact BoolIs.yes ⟨HYur.out, ⟨Hlo.out, Hhi.out⟩, fun h => by have e := HHhs.out; rw [h] at e; cases e⟩ hb2
    | true =>
     have cv1_4 : (w2).cell? ⟨qv1, 4, none⟩ = some (.slice ku4 d.who.length kuc4) := (cell_of HBv1_2.out 4).trans rfl
     have cv1_5 : (w2).cell? ⟨qv1, 5, none⟩ = some (.string d.opa) := (cell_of HBv1_2.out 5).trans rfl
     have cv1_6 : (w2).cell? ⟨qv1, 6, none⟩ = some (.slice ku6 d.oxs.length kuc6) := (cell_of HBv1_2.out 6).trans rfl
     have cv1_7 : (w2).cell? ⟨qv1, 7, none⟩ = some (.slice ku7 d.oys.length kuc7) := (cell_of HBv1_2.out 7).trans rfl
     have cv1_8 : (w2).cell? ⟨qv1, 8, none⟩ = some (.int .i64 d.ost) := (cell_of HBv1_2.out 8).trans rfl
     have cv1_9 : (w2).cell? ⟨qv1, 9, none⟩ = some (.slice ku9 d.ofs.length kuc9) := (cell_of HBv1_2.out 9).trans rfl
     have cv1_10 : (w2).cell? ⟨qv1, 10, none⟩ = some (.string d.obd) := (cell_of HBv1_2.out 10).trans rfl
     have cv1_11 : (w2).cell? ⟨qv1, 11, none⟩ = some (.int .i64 d.otm) := (cell_of HBv1_2.out 11).trans rfl
     have cv1_12 : (w2).cell? ⟨qv1, 12, none⟩ = some (.bool true) := (cell_of HBv1_2.out 12).trans rfl
     go_wp2_with fail
     refine (implObjOk_f d _ _ _ _ _ B _ (HRd.out _ hb2) HSd.out).mono ?_
     rintro e w3 ⟨uo, rfl, huo, bw⟩
     have hb3 := hbt hb2 bw
     have HBv1_3 := hblk HBv1_2 bw
     clear hb2 HBv1_2 bw
     clear cv1_4 cv1_5 cv1_6 cv1_7 cv1_8 cv1_9 cv1_10 cv1_11 cv1_12
     go_wp2_with fail
     go_ret
     exact ⟨uo, rfl, ⟨fun h => ⟨HYur.out, ⟨Hlo.out, Hhi.out⟩, fun _ => huo.1 h⟩, fun h => huo.2 (h.2.2 HHhs.out.symm)⟩, hb3⟩
   ·
    have Hhi : Hid (¬ ((d.who.length : Int) ≤ 5)) := hc2
    have cv1_4 : (w2).cell? ⟨qv1, 4, none⟩ = some (.slice ku4 d.who.length kuc4) := (cell_of HBv1_2.out 4).trans rfl
    go_wp2_with fail
    go_ret
    exact BoolIs.no (fun h => absurd h.2.1.2 (by have := Hhi.out; omega)) hb2
  ·
   have Hlo : Hid (¬ (1 ≤ (d.who.length : Int))) := hc1
   have cv1_4 : (w2).cell? ⟨qv1, 4, none⟩ = some (.slice ku4 d.who.length kuc4) := (cell_of HBv1_2.out 4).trans rfl
   go_wp2_with fail
   go_ret
   exact BoolIs.no (fun h => absurd h.2.1.1 (by have := Hlo.out; omega)) hb2
theorem alike1_any (d e : FlD) (u2 u4 u6 u7 u9 t2 t4 t6 t7 t9 : Value) (B C q : Nat) (w : World) (h : RowsO w B (flR (⟨d, u2, u4, u6, u7, u9⟩ : FlV))) (h2 : RowsO w C (flR (⟨e, t2, t4, t6, t7, t9⟩ : FlV))) (hd : FlSmall d) (he : FlSmall e) (hq : w.heap[q]? = some (.cells #[.int .i64 e.qmt, .string e.qpa, t2, .string e.qbd] 62)) :
  Calls Tryz.prog 138 #[.agg #[.int .i64 d.qmt, .string d.qpa, u2, .string d.qbd, u4, .string d.opa, u6, u7, .int .i64 d.ost, u9, .string d.obd, .int .i64 d.otm, .bool d.has], .pointer (some ⟨q, 0, none⟩)] w fun e' w' => BoolIs (AlikeF d e) w e' w' := by
 go_enter Tryz.func138, Tryz.ntmps138
 go_upto_region 1 with fail
 obtain ⟨q1, hq1⟩ := exq (w.heap.size)
 obtain ⟨w1, hw1⟩ := exq (w.alloc (.cells #[.int .i64 d.qmt, .string d.qpa, u2, .string d.qbd, u4, .string d.opa, u6, u7, .int .i64 d.ost, u9, .string d.obd, .int .i64 d.otm, .bool d.has] 129))
 rw [← hw1, ← hq1]
 have HX1 : Hid (w1.heap[q1]? = some (.cells #[.int .i64 d.qmt, .string d.qpa, u2, .string d.qbd, u4, .string d.opa, u6, u7, .int .i64 d.ost, u9, .string d.obd, .int .i64 d.otm, .bool d.has] 129)) := by show _ = _; rw [hw1, hq1]; exact heap_alloc_new _ _
 have bw1 : Below w.heap.size w w1 := by rw [hw1]; exact (Below.refl _ _).alloc (Nat.le_refl _) _
 have HQ1 : Hid (w1.heap[q]? = some (.cells #[.int .i64 e.qmt, .string e.qpa, t2, .string e.qbd] 62)) := blk_below hq bw1
 have H1 : Hid (RowsO w1 B (flR (⟨d, u2, u4, u6, u7, u9⟩ : FlV))) := h.below bw1
 have H2 : Hid (RowsO w1 C (flR (⟨e, t2, t4, t6, t7, t9⟩ : FlV))) := h2.below bw1
 have HB1 : Hid (Below w.heap.size w w1) := bw1
 clear hw1 bw1 hq1 hq h h2
 have c0 : w1.cell? ⟨q1, 0, none⟩ = some (.int .i64 d.qmt) := (cell_of HX1.out 0).trans rfl
 have c1 : w1.cell? ⟨q1, 1, none⟩ = some (.string d.qpa) := (cell_of HX1.out 1).trans rfl
 have c2 : w1.cell? ⟨q1, 2, none⟩ = some u2 := (cell_of HX1.out 2).trans rfl
 have c3 : w1.cell? ⟨q1, 3, none⟩ = some (.string d.qbd) := (cell_of HX1.out 3).trans rfl
 have k0 : w1.cell? ⟨q, 0, none⟩ = some (.int .i64 e.qmt) := (cell_of HQ1.out 0).trans rfl
 have k1 : w1.cell? ⟨q, 1, none⟩ = some (.string e.qpa) := (cell_of HQ1.out 1).trans rfl
 have k2 : w1.cell? ⟨q, 2, none⟩ = some t2 := (cell_of HQ1.out 2).trans rfl
 have k3 : w1.cell? ⟨q, 3, none⟩ = some (.string e.qbd) := (cell_of HQ1.out 3).trans rfl
 go_wp2_with fail
 refine (implAlike_f d e u2 u4 u6 u7 u9 t2 t4 t6 t7 t9 B C _ H1.out H2.out hd he).mono ?_
 rintro e' w2 ⟨b, rfl, hb, bw⟩
 have HB2 : Hid (Below w.heap.size w w2) := HB1.out.trans (bw.mono HB1.out.size)
 have HBB : Hid (b = true ↔ AlikeF d e) := hb
 clear c0 c1 c2 c3 k0 k1 k2 k3 HX1 HQ1 H1 H2 HB1 bw hb
 go_wp2_with fail
 go_ret
 exact ⟨b, rfl, HBB.out, HB2.out⟩
/-- A call answers a place, or less than none: whether one of the first is alike. -/
def PlaceIs (fl : List FlD) (m : Nat) (e : FlD) (w : World) (e' : Ending) (w' : World) : Prop := ∃ r : Int, e' = .returned (.int .i64 r) ∧ (0 ≤ r ↔ ∃ k, k < m ∧ AlikeF (flAt fl k) e) ∧ Below w.heap.size w w'
theorem indexFl_any (V : Value) (fv : List FlV) (fl : List FlD) (o5 : Option Addr) (m cp q : Nat) (e : FlD) (t2 t4 t6 t7 t9 : Value) (B C : Nat) (w : World) (hV : ∃ c, V = .slice o5 fv.length c) (h : FlsO w B V fv) (hfd : fv.map (·.d) = fl) (hs : ∀ x ∈ fv, FlSmall x.d) (hm : m ≤ fv.length) (hm2 : m ≤ 1048576) (h2 : RowsO w C (flR (⟨e, t2, t4, t6, t7, t9⟩ : FlV))) (he : FlSmall e) (hq : w.heap[q]? = some (.cells #[.int .i64 e.qmt, .string e.qpa, t2, .string e.qbd] 62)) :
  Calls Tryz.prog 137 #[.slice o5 m cp, .func (.func 138) #[] #[.pointer (some ⟨q, 0, none⟩)]] w fun e' w' => PlaceIs fl m e w e' w' := by
 have hcf : ∀ (args : Array Value) (W : World), (callFunc 138 args).run Tryz.prog W = .ok (.enter 138 args) W := enters_of Tryz.func138 (by kernel_rfl) rfl
 have HFL : Hid (∀ W, Below w.heap.size w W → FlsO W B V fv) := fun W hb => h.below hb
 have HFD : Hid (fv.map (·.d) = fl) := hfd
 have HFS : Hid (∀ x ∈ fv, FlSmall x.d) := hs
 have HM : Hid (m ≤ fv.length) := hm
 have HV : Hid (∃ c, V = .slice o5 fv.length c) := hV
 have HR2 : Hid (∀ W, Below w.heap.size w W → RowsO W C (flR (⟨e, t2, t4, t6, t7, t9⟩ : FlV))) := fun W hb => h2.below hb
 have HQ : Hid (∀ W, Below w.heap.size w W → W.heap[q]? = some (.cells #[.int .i64 e.qmt, .string e.qpa, t2, .string e.qbd] 62)) := fun W hb => blk_below hq hb
 clear h hfd hs hm hV h2 hq
 go_enter Tryz.func137, Tryz.ntmps137
 go_wp2
 go_loopw [8] (fun i wr => ∃ k : Nat, k ≤ m ∧ i = .int .i64 (k : Int) ∧ Hid (∀ j, j < k → ¬ AlikeF (flAt fl j) e) ∧ Hid (Below w.heap.size w wr)) (fun i _ => m - (intOf i).toNat)
 case atStart => exact ⟨0, Nat.zero_le _, rfl, fun j hj => absurd hj (by omega), Below.refl _ _⟩
 case round =>
  obtain ⟨k, hk, rfl, HN, HBW⟩ := hrel
  by_cases hlt : k < m
  ·
   have hlt2 : (k : Int) < (m : Int) := by omega
   obtain ⟨g5, p5, hV, _, hat⟩ := (HFL.out wr HBW.out).look k (Nat.lt_of_lt_of_le hlt HM.out)
   obtain ⟨cc, hcc⟩ := HV.out
   rw [hcc] at hV
   injection hV with hV1 _ _
   subst hV1
   obtain ⟨x, hx⟩ := exq (flvAt fv k)
   have HMx : Hid (x ∈ fv) := by show _ ∈ _; rw [hx]; exact getD_mem0 _ fv k (Nat.lt_of_lt_of_le hlt HM.out)
   have HEx : Hid (flAt fl k = x.d) := by show _ = _; rw [hx, ← HFD.out]; exact getD_map0 _ _ _ fv k (Nat.lt_of_lt_of_le hlt HM.out)
   rw [← hx] at hat
   have HRx : Hid (∀ W, Below w.heap.size w W → RowsO W B (flR x)) := fun W hb => (HFL.out W hb).item HMx.out
   have HSx : Hid (FlSmall x.d) := HFS.out _ HMx.out
   clear hx hcc
   obtain ⟨d, u2v, u4v, u6v, u7v, u9v⟩ := x
   have r0 := hat.c0
   have r1 := hat.c1
   have r2 := hat.c2
   have r3 := hat.c3
   have r4 := hat.c4
   have r5 := hat.c5
   have r6 := hat.c6
   have r7 := hat.c7
   have r8 := hat.c8
   have r9 := hat.c9
   have r10 := hat.c10
   have r11 := hat.c11
   have r12 := hat.c12
   dsimp only at r0 r1 r2 r3 r4 r5 r6 r7 r8 r9 r10 r11 r12 HEx HSx
   clear hat
   go_wp2_with fail
   refine (alike1_any d e u2v u4v u6v u7v u9v t2 t4 t6 t7 t9 B C q _ (HRx.out _ HBW.out) (HR2.out _ HBW.out) HSx.out he (HQ.out _ HBW.out)).mono ?_
   rintro e' w1 ⟨b, rfl, hb, bw⟩
   have HB2 : Hid (Below w.heap.size w w1) := HBW.out.trans (bw.mono HBW.out.size)
   have HBB : Hid (b = true ↔ AlikeF d e) := hb
   clear r0 r1 r2 r3 r4 r5 r6 r7 r8 r9 r10 r11 r12 bw hb
   cases b with
   | true =>
    have HY : Hid (∃ k, k < m ∧ AlikeF (flAt fl k) e) := ⟨k, hlt, by rw [HEx.out]; exact HBB.out.1 rfl⟩
    go_wp2_with fail
    go_ret
    exact ⟨(k : Int), rfl, ⟨fun _ => HY.out, fun _ => by omega⟩, HB2.out⟩
   | false =>
    have HN2 : Hid (∀ j, j < k + 1 → ¬ AlikeF (flAt fl j) e) := fun j hj => by
     by_cases ej : j = k
     ·
      subst ej
      rw [HEx.out]
      exact fun h => nomatch HBB.out.2 h
     · exact HN.out j (by omega)
    go_wp2_with fail
    go_roundw
    case rel => exact ⟨k + 1, by omega, by go_num, HN2, HB2⟩
    case measure => simp [intOf]; omega
  ·
   obtain rfl : k = m := by omega
   go_wp2_with fail
   go_ret
   exact ⟨-1, rfl, ⟨fun h => absurd h (by omega), fun ⟨j, hj, hA⟩ => absurd hA (HN.out j hj)⟩, HBW.out⟩
theorem alikePlace_any (V : Value) (fv : List FlV) (fl : List FlD) (o5 : Option Addr) (m cp : Nat) (e : FlD) (t2 t4 t6 t7 t9 : Value) (B C : Nat) (w : World) (hV : ∃ c, V = .slice o5 fv.length c) (h : FlsO w B V fv) (hfd : fv.map (·.d) = fl) (hs : ∀ x ∈ fv, FlSmall x.d) (hm : m ≤ fv.length) (hm2 : m ≤ 1048576) (h2 : RowsO w C (flR (⟨e, t2, t4, t6, t7, t9⟩ : FlV))) (he : FlSmall e) :
  Calls Tryz.prog 105 #[.slice o5 m cp, .agg #[.int .i64 e.qmt, .string e.qpa, t2, .string e.qbd]] w fun e' w' => PlaceIs fl m e w e' w' := by
 go_enter Tryz.func105, Tryz.ntmps105
 go_upto_region 1 with fail
 obtain ⟨q1, hq1⟩ := exq (w.heap.size)
 obtain ⟨w1, hw1⟩ := exq (w.alloc (.cells #[.int .i64 e.qmt, .string e.qpa, t2, .string e.qbd] 62))
 rw [← hw1, ← hq1]
 have HX1 : Hid (w1.heap[q1]? = some (.cells #[.int .i64 e.qmt, .string e.qpa, t2, .string e.qbd] 62)) := by show _ = _; rw [hw1, hq1]; exact heap_alloc_new _ _
 have HB1 : Hid (Below w.heap.size w w1) := by show Below _ _ _; rw [hw1]; exact (Below.refl _ _).alloc (Nat.le_refl _) _
 have H1 : Hid (FlsO w1 B V fv) := h.below HB1.out
 have H2 : Hid (RowsO w1 C (flR (⟨e, t2, t4, t6, t7, t9⟩ : FlV))) := h2.below HB1.out
 clear hw1 hq1 h h2
 go_wp2_with fail
 refine (indexFl_any V fv fl o5 m cp q1 e t2 t4 t6 t7 t9 B C _ hV H1.out hfd hs hm hm2 H2.out he HX1.out).mono ?_
 rintro e' w2 ⟨r, rfl, hr, bw⟩
 have HB2 : Hid (Below w.heap.size w w2) := HB1.out.trans (bw.mono HB1.out.size)
 have HRR : Hid (0 ≤ r ↔ ∃ k, k < m ∧ AlikeF (flAt fl k) e) := hr
 clear HX1 HB1 H1 H2 bw hr hV hfd hs
 go_wp2_with fail
 go_ret
 exact ⟨r, rfl, HRR.out, HB2.out⟩
end Go.Proofs.YtbmhonfgffjpcaaGreat
namespace Go.Proofs.YtbmhonfgffjpcaaGreat
open Go.RowKit
open Go.Lib hiding intOf
/-- One that is known, as a value. -/
def kpX (x : KpD × Value × Value × Value) : Value := .agg #[.string x.1.p, x.2.1, x.2.2.1, .int .i64 x.1.st, x.2.2.2, .string x.1.b, .int .i64 x.1.t, .int .i64 x.1.a, .int .i64 x.1.q]
/-- An element of the map is told as itself. -/
def mpR (v : Value) : Option (DataW Value × List MemPlace) := some (.held v, [])
/-- No two in one cell. -/
def ApartA (kv : List (KpD × Value × Value × Value)) : Prop := kv.Pairwise (fun x y => x.1.a ≠ y.1.a)
/-- The map holds just these, each at its cell. -/
def MapIs (D : DataW Value) (kv : List (KpD × Value × Value × Value)) : Prop := (∀ a : Int, Maps.has D (.int .i64 a) = true ↔ ∃ x ∈ kv, x.1.a = a) ∧ ∀ x ∈ kv, ∀ z, D.atKey (.int .i64 x.1.a) z = .held (kpX x)
theorem lit_ne {a b : Int} (h : a ≠ b) : (Lit.int .i64 a) ≠ Lit.int .i64 b := fun e => h (by injection e)
theorem MapIs.nil : MapIs (.map []) [] := ⟨fun a => by simp [Maps.has], fun x hx => by simp at hx⟩
theorem has_put_int {D : DataW Value} (hD : Maps.IsMap D) (a b : Int) (d : DataW Value) : Maps.has (D.put (.int .i64 b) d) (.int .i64 a) = (decide (a = b) || Maps.has D (.int .i64 a)) := by
 by_cases h : a = b
 ·
  subst h
  rw [Maps.has_put_same hD (show WideAt.IsKeyLit (.int .i64 _) from trivial)]
  simp
 ·
  rw [Maps.has_put_other (lit_ne h), decide_eq_false h]
  rfl
/-- One more at a cell that is free. -/
theorem MapIs.put {D : DataW Value} {kv : List (KpD × Value × Value × Value)} (h : MapIs D kv) (hD : Maps.IsMap D) (y : KpD × Value × Value × Value) (hy : ∀ x ∈ kv, x.1.a ≠ y.1.a) : MapIs (D.put (.int .i64 y.1.a) (.held (kpX y))) (kv ++ [y]) := by
 refine ⟨fun a => ?_, fun x hx z => ?_⟩
 ·
  rw [has_put_int hD, Bool.or_eq_true, decide_eq_true_iff, h.1 a]
  constructor
  ·
   rintro (rfl | ⟨x, hx, e⟩)
   · exact ⟨y, by simp, rfl⟩
   · exact ⟨x, by simp [hx], e⟩
  ·
   rintro ⟨x, hx, e⟩
   rcases List.mem_append.1 hx with hx | hx
   · exact .inr ⟨x, hx, e⟩
   ·
    rw [List.mem_singleton.1 hx] at e
    exact .inl e.symm
 ·
  rcases List.mem_append.1 hx with hx | hx
  ·
   rw [Maps.atKey_put_other (lit_ne (hy x hx))]
   exact h.2 x hx z
  ·
   rw [List.mem_singleton.1 hx]
   exact Maps.atKey_put_same hD (show WideAt.IsKeyLit (.int .i64 _) from trivial) _ _
/-- What a map tells of how many there are. -/
structure MapN (D : DataW Value) (kv : List (KpD × Value × Value × Value)) : Prop where
 tidy : Maps.Tidy D
 has : ∀ a : Int, Maps.has D (.int .i64 a) = true ↔ ∃ x ∈ kv, x.1.a = a
 le : Maps.size D ≤ kv.length
 eq : Maps.size D = kv.length ↔ ApartA kv
 is : ApartA kv → MapIs D kv
theorem MapN.nil : MapN (.map []) [] := ⟨Maps.tidy_empty, MapIs.nil.1, Nat.le_refl _, ⟨fun _ => List.Pairwise.nil, fun _ => rfl⟩, fun _ => MapIs.nil⟩
theorem apart_snoc {kv : List (KpD × Value × Value × Value)} {y : KpD × Value × Value × Value} : ApartA (kv ++ [y]) ↔ ApartA kv ∧ ∀ x ∈ kv, x.1.a ≠ y.1.a := by
 unfold ApartA
 rw [List.pairwise_append]
 simp
theorem MapN.put {D : DataW Value} {kv : List (KpD × Value × Value × Value)} (h : MapN D kv) (y : KpD × Value × Value × Value) : MapN (D.put (.int .i64 y.1.a) (.held (kpX y))) (kv ++ [y]) := by
 have hD := h.tidy.isMap
 have hs := Maps.size_put (k := .int .i64 y.1.a) h.tidy (.held (kpX y))
 have hle := h.le
 refine ⟨h.tidy.put (show WideAt.IsKeyLit (.int .i64 _) from trivial) _, fun a => ?_, ?_, ?_, fun ha => ?_⟩
 ·
  rw [has_put_int hD, Bool.or_eq_true, decide_eq_true_iff, h.has a]
  constructor
  ·
   rintro (rfl | ⟨x, hx, e⟩)
   · exact ⟨y, by simp, rfl⟩
   · exact ⟨x, by simp [hx], e⟩
  ·
   rintro ⟨x, hx, e⟩
   rcases List.mem_append.1 hx with hx | hx
   · exact .inr ⟨x, hx, e⟩
   ·
    rw [List.mem_singleton.1 hx] at e
    exact .inl e.symm
 ·
  rw [hs, List.length_append, List.length_singleton]
  split <;> omega
 ·
  rw [hs, List.length_append, List.length_singleton, apart_snoc, ← h.eq]
  by_cases e : Maps.has D (.int .i64 y.1.a) = true
  ·
   rw [if_pos e]
   obtain ⟨x, hx, ex⟩ := (h.has _).1 e
   constructor
   · intro h1; omega
   · rintro ⟨_, h2⟩; exact absurd ex (h2 x hx)
  ·
   rw [if_neg e]
   constructor
   · intro h1; exact ⟨by omega, fun x hx ex => e ((h.has _).2 ⟨x, hx, ex⟩)⟩
   · rintro ⟨h1, _⟩; omega
 ·
  obtain ⟨h1, h2⟩ := apart_snoc.1 ha
  exact (h.is h1).put hD y h2
theorem run_makeMap_hint {P : Program} {t k e : TypeId} (hu : P.underlying t = some (.map k e)) (n : Int) (w : World) : (Instr.makeMap t (some (.int .i64 n))).run P w = .ok (.map (some w.heap.size)) (w.alloc (.map #[] 0)) := by
 simp [Instr.makeMap, run_underlying hu, asInt, asIntOf, Result.andThen]
theorem map_below {P : Program} {k : TypeId} {R : Value → Option (DataW Value × List MemPlace)} {w w' : World} {b n : Nat} {D : DataW Value} (h : w.ownsMap P k R b n D) (hb : Below w.heap.size w w') : w'.ownsMap P k R b n D := by
 have hlt := h.lt
 obtain ⟨es, clock, h1, h2⟩ := h
 exact ⟨es, clock, (hb.block b hlt).trans h1, h2⟩
theorem map_ne {P : Program} {k : TypeId} {R : Value → Option (DataW Value × List MemPlace)} {w : World} {b n q : Nat} {D : DataW Value} {cs : Array Value} {T : TypeId} {fr : Nat × Nat} (h : w.ownsMap P k R b n D) (hq : w.heap[q]? = some (.cells cs T fr)) : b ≠ q := by
 obtain ⟨es, clock, h1, _⟩ := h
 intro e
 subst e
 rw [h1] at hq
 cases hq
theorem map_blk {P : Program} {k : TypeId} {R : Value → Option (DataW Value × List MemPlace)} {w w' : World} {b n q : Nat} {D : DataW Value} {cs : Array Value} {T : TypeId} {fr : Nat × Nat} (h : w.ownsMap P k R b n D) (hq : w.heap[q]? = some (.cells cs T fr)) (hg : w.grownBy w' (some b)) : w'.heap[q]? = some (.cells cs T fr) :=
 (hg.block q (Array.getElem?_eq_some_iff.1 hq).1 (fun e => map_ne h hq (Option.some.inj e).symm)).trans hq
/-- The keys' type. -/
theorem keyInt : Maps.Keyed Tryz.prog 3 := Maps.int_keyed Tryz.underlying3
theorem key_wf {a : Int} (h0 : 0 ≤ a) (h1 : a ≤ 1000) : keyOf Tryz.prog 3 (.int .i64 a) = some (.int .i64 a) := Maps.keyOf_int_mk Tryz.underlying3 (WalkArith.wf_i64 (by omega))
/-- A map of what is known, in a block of one's own. -/
def KnownO (w : World) (b n : Nat) (D : DataW Value) : Prop := w.ownsMap Tryz.prog 3 mpR b n D
/-- A call answers a map of its own that holds these. -/
def KnownIs (kv : List (KpD × Value × Value × Value)) (w : World) (e : Ending) (w' : World) : Prop := ∃ (b n : Nat) (D : DataW Value), e = .returned (.map (some b)) ∧ n ≤ kv.length ∧ KnownO w' b n D ∧ MapN D kv ∧ w.heap.size ≤ b ∧ Below w.heap.size w w'
end Go.Proofs.YtbmhonfgffjpcaaGreat
namespace Go.Proofs.YtbmhonfgffjpcaaGreat
open Go.RowKit
open Go.Lib hiding intOf
/-- Texts as an array's cells. -/
def cellsA (l : List ByteArray) : Array Value := (l.map Value.string).toArray
/-- Twenty empty texts. -/
def noneA : List ByteArray := List.replicate 20 ⟨#[]⟩
/-- The cells with one written. -/
def withP (l : List ByteArray) (x : Int) (t : ByteArray) : List ByteArray := if 0 ≤ x ∧ x < 20 then l.set x.toNat t else l
/-- A call answers an array of texts. -/
def ArrIs (l : List ByteArray) (w : World) (e : Ending) (w' : World) : Prop := e = .returned (.agg (cellsA l)) ∧ Below w.heap.size w w'
theorem cellsA_size (l : List ByteArray) : (cellsA l).size = l.length := by simp [cellsA]
theorem cellsA_at (l : List ByteArray) (i : Nat) (h : i < l.length) : (cellsA l)[i]? = some (.string (textAt l i)) := by
 unfold cellsA
 rw [List.getElem?_toArray, List.getElem?_map, getElem_textAt l i h]
 rfl
theorem cellsA_set (l : List ByteArray) (i : Nat) (t : ByteArray) : (cellsA l).setIfInBounds i (.string t) = cellsA (l.set i t) := by
 unfold cellsA
 rw [List.setIfInBounds_toArray, List.map_set]
theorem noneA_len : noneA.length = 20 := rfl
theorem noneA_cells : cellsA noneA = #[.string ⟨#[]⟩, .string ⟨#[]⟩, .string ⟨#[]⟩, .string ⟨#[]⟩, .string ⟨#[]⟩, .string ⟨#[]⟩, .string ⟨#[]⟩, .string ⟨#[]⟩, .string ⟨#[]⟩, .string ⟨#[]⟩, .string ⟨#[]⟩, .string ⟨#[]⟩, .string ⟨#[]⟩, .string ⟨#[]⟩, .string ⟨#[]⟩, .string ⟨#[]⟩, .string ⟨#[]⟩, .string ⟨#[]⟩, .string ⟨#[]⟩, .string ⟨#[]⟩] := rfl
theorem withP_len (l : List ByteArray) (x : Int) (t : ByteArray) : (withP l x t).length = l.length := by
 unfold withP
 split
 · exact List.length_set
 · rfl
theorem infoA {l : List ByteArray} (h : l.length = 20) : (Tryz.prog.info? 219).map (·.size) = some (cellsA l).size := by
 rw [cellsA_size, h]
 kernel_rfl
theorem cellsA_one (l : List ByteArray) : (cellsA l).all (·.oneCell') = true := by
 unfold cellsA
 rw [List.all_toArray, List.all_eq_true]
 intro v hv
 obtain ⟨a, _, rfl⟩ := List.mem_map.1 hv
 rfl
theorem below_setRow {B : Nat} {a w : World} (h : Below B a w) (g : Nat) (cs : Array Value) (hg : B ≤ g) : Below B a (w.setRow g cs) :=
 h.trans ⟨rfl, rfl, rfl, by simp, fun k hk => setRow_other w g k cs (by omega)⟩
theorem new1 {w : World} {A B C : Obj} : (((w.alloc A).alloc B).alloc C).heap[w.heap.size]? = some A := blk_alloc (blk_alloc (heap_alloc_new w A) B) C
theorem new2 {w : World} {A B C : Obj} : (((w.alloc A).alloc B).alloc C).heap[w.heap.size + 1]? = some B := blk_alloc (heap_alloc2_new w A B) C
theorem new3 {w : World} {A B C : Obj} : (((w.alloc A).alloc B).alloc C).heap[w.heap.size + 1 + 1]? = some C := by
 have h := heap_alloc_new ((w.alloc A).alloc B) C
 have e : ((w.alloc A).alloc B).heap.size = w.heap.size + 1 + 1 := by simp
 rwa [e] at h
theorem new_below {w : World} {A B C : Obj} : Below w.heap.size w (((w.alloc A).alloc B).alloc C) :=
 (((Below.refl _ _).alloc (Nat.le_refl _) _).alloc (by simp) _).alloc (by simp; omega) _
theorem with_any (l : List ByteArray) (hl : l.length = 20) (x : Int) (t : ByteArray) (w : World) :
  Calls Tryz.prog 152 #[.agg (cellsA l), .agg #[.int .i64 x, .string t]] w fun e w' => ArrIs (withP l x t) w e w' := by
 have HL : Hid (l.length = 20) := hl
 have HLW : Hid ((withP l x t).length = 20) := (withP_len l x t).trans hl
 clear hl
 go_enter Tryz.func152, Tryz.ntmps152
 go_upto_region 1 with fail
 obtain ⟨w3, hw3⟩ := exq (((w.alloc (.cells (cellsA l) 219)).alloc (.cells #[.int .i64 x, .string t] 199)).alloc (.cells #[.string ⟨#[]⟩, .string ⟨#[]⟩, .string ⟨#[]⟩, .string ⟨#[]⟩, .string ⟨#[]⟩, .string ⟨#[]⟩, .string ⟨#[]⟩, .string ⟨#[]⟩, .string ⟨#[]⟩, .string ⟨#[]⟩, .string ⟨#[]⟩, .string ⟨#[]⟩, .string ⟨#[]⟩, .string ⟨#[]⟩, .string ⟨#[]⟩, .string ⟨#[]⟩, .string ⟨#[]⟩, .string ⟨#[]⟩, .string ⟨#[]⟩, .string ⟨#[]⟩] 219))
 rw [← hw3]
 have HBW : Hid (Below w.heap.size w w3) := by rw [hw3]; exact new_below
 have hA : w3.heap[w.heap.size]? = some (.cells (cellsA l) 219) := by rw [hw3]; exact new1
 have hB : w3.heap[w.heap.size + 1]? = some (.cells #[.int .i64 x, .string t] 199) := by rw [hw3]; exact new2
 have hC : w3.heap[w.heap.size + 1 + 1]? = some (.cells (cellsA noneA) 219) := by rw [hw3]; exact new3
 obtain ⟨q, hq⟩ := exq (w.heap.size)
 have HQ : Hid (w.heap.size ≤ q) := by rw [hq]; exact Nat.le_refl _
 rw [← hq] at hA hB hC
 rw [← hq]
 have HA : Hid (w3.heap[q]? = some (.cells (cellsA l) 219)) := hA
 have HC : Hid (w3.heap[q + 1 + 1]? = some (.cells (cellsA noneA) 219)) := hC
 have c0 := (cell_of hB 0)
 have c1 := (cell_of hB 1)
 simp only [List.getElem?_toArray, List.getElem?_cons_zero, List.getElem?_cons_succ] at c0 c1
 clear hw3 hA hB hC hq
 by_cases h0 : 0 ≤ x
 ·
  by_cases h1 : x < 20
  ·
   have HE : Hid (withP l x t = l.set x.toNat t) := by unfold withP; rw [Hid, if_pos ⟨h0, h1⟩]
   have c2 : w3.cell? ⟨q, x.toNat, none⟩ = some (.string (textAt l x.toNat)) := (cell_of HA.out _).trans (cellsA_at l _ (by rw [HL.out]; omega))
   have c3 := frozen_of HA.out x.toNat
   go_upto_region 3 with fail
   obtain ⟨w4, hw4⟩ := exq (w3.setCell ⟨q, x.toNat, none⟩ (.string t))
   rw [← hw4]
   have HA4 : Hid (w4.heap[q]? = some (.cells (cellsA (withP l x t)) 219)) := by
    rw [Hid, hw4, HE.out, ← cellsA_set]
    exact heap_setCell_same w3 q _ _ 219 _ HA.out
   have HC4 : Hid (w4.heap[q + 1 + 1]? = some (.cells (cellsA noneA) 219)) := by
    rw [Hid, hw4, heap_setCell_other w3 _ _ _ (by simp; omega)]
    exact HC.out
   have HB4 : Hid (Below w.heap.size w w4) := by rw [hw4]; exact HBW.out.setCell HQ.out _
   clear hw4 HA HC HBW c0 c1 c2 c3 h0 h1
   go_wp2_with (first | refine wpList_load_row rfl 219 _ rfl q rfl 219 _ (0, 0) _ HA4.out Tryz.underlying219 rfl (infoA HLW.out) ?_ | refine wpList_store_row rfl 219 _ _ rfl (q + 1 + 1) _ rfl rfl 219 _ HC4.out (infoA HLW.out) (by rw [cellsA_size, cellsA_size, HLW.out, noneA_len]) (cellsA_one _) ?_)
   exact bodyPost_ret (v := .agg (cellsA (withP l x t))) (results_cell_row Tryz.results152 _ _ (q + 1 + 1) 219 _ (0, 0) _ rfl (setRow_heap _ _ _ _ _ _ HC4.out) Tryz.underlying219 rfl (infoA HLW.out)) rfl ⟨rfl, below_setRow HB4.out _ _ (Nat.le_trans HQ.out (by omega))⟩
  ·
   have HE : Hid (withP l x t = l) := by unfold withP; rw [Hid, if_neg (fun h => h1 h.2)]
   go_upto_region 3 with fail
   clear c0 c1 h0 h1
   rw [← HE.out] at HA
   go_wp2_with (first | refine wpList_load_row rfl 219 _ rfl q rfl 219 _ (0, 0) _ HA.out Tryz.underlying219 rfl (infoA HLW.out) ?_ | refine wpList_store_row rfl 219 _ _ rfl (q + 1 + 1) _ rfl rfl 219 _ HC.out (infoA HLW.out) (by rw [cellsA_size, cellsA_size, HLW.out, noneA_len]) (cellsA_one _) ?_)
   exact bodyPost_ret (v := .agg (cellsA (withP l x t))) (results_cell_row Tryz.results152 _ _ (q + 1 + 1) 219 _ (0, 0) _ rfl (setRow_heap _ _ _ _ _ _ HC.out) Tryz.underlying219 rfl (infoA HLW.out)) rfl ⟨rfl, below_setRow HBW.out _ _ (Nat.le_trans HQ.out (by omega))⟩
 ·
  have HE : Hid (withP l x t = l) := by unfold withP; rw [Hid, if_neg (fun h => h0 h.1)]
  go_upto_region 3 with fail
  clear c0 c1 h0
  rw [← HE.out] at HA
  go_wp2_with (first | refine wpList_load_row rfl 219 _ rfl q rfl 219 _ (0, 0) _ HA.out Tryz.underlying219 rfl (infoA HLW.out) ?_ | refine wpList_store_row rfl 219 _ _ rfl (q + 1 + 1) _ rfl rfl 219 _ HC.out (infoA HLW.out) (by rw [cellsA_size, cellsA_size, HLW.out, noneA_len]) (cellsA_one _) ?_)
  exact bodyPost_ret (v := .agg (cellsA (withP l x t))) (results_cell_row Tryz.results152 _ _ (q + 1 + 1) 219 _ (0, 0) _ rfl (setRow_heap _ _ _ _ _ _ HC.out) Tryz.underlying219 rfl (infoA HLW.out)) rfl ⟨rfl, below_setRow HBW.out _ _ (Nat.le_trans HQ.out (by omega))⟩
end Go.Proofs.YtbmhonfgffjpcaaGreat
namespace Go.Proofs.YtbmhonfgffjpcaaGreat
open Go.RowKit
open Go.Lib hiding intOf
/-- Every write is to a cell. -/
def AllIn (ws : List (Int × ByteArray)) : Prop := ∀ x ∈ ws, 0 ≤ x.1 ∧ x.1 ≤ 19
theorem guardA : Tryz.prog.eqGuardType Tryz.prog.depth 219 = false := by kernel_rfl
theorem equalA (xs ys : List ByteArray) (hx : xs.length = 20) (hy : ys.length = 20) (w : World) :
  (Op.equalIn 10000 219 (.agg (cellsA xs)) (.agg (cellsA ys))).run Tryz.prog w = .ok ((List.range' 0 20 1).all (fun i => (textAt xs i).toList == (textAt ys i).toList)) w := by
 rw [show (10000 : Nat) = 9999 + 1 from rfl, Op.equalIn]
 simp only [Sem.run_bind, run_underlying Tryz.underlying219, Result.andThen_ok, Tryz.sizeOf9, Std.Legacy.Range.forIn_eq_forIn_range', Std.Legacy.Range.size, Nat.sub_zero, Nat.add_sub_cancel, Nat.div_one]
 have hl : ∀ i ∈ List.range' 0 20 1, i < 20 := fun i hi => by simpa using (List.mem_range'_1.1 hi).2
 generalize List.range' 0 20 1 = l at hl ⊢
 induction l with
 | nil => simp
 | cons i l ih =>
  have hi : i < 20 := hl i (by simp)
  have px : ∀ zs : List ByteArray, zs.length = 20 → (part 9 (cellsA zs) (i * 1)).run Tryz.prog w = .ok (.string (textAt zs i)) w := fun zs hz => by
   simp [part, Tryz.isAgg9, cellsA_at zs i (by omega)]
  have pe : (Op.equalIn 9999 9 (.string (textAt xs i)) (.string (textAt ys i))).run Tryz.prog w = .ok ((textAt xs i).toList == (textAt ys i).toList) w := run_equalIn_string w 9998 9 _ _ Tryz.underlying9
  simp only [List.forIn_cons, Sem.run_bind, px xs hx, px ys hy, pe, Result.andThen_ok, List.all_cons]
  cases hb : ((textAt xs i).toList == (textAt ys i).toList)
  · simp
  ·
   simp only [Bool.not_true, Bool.false_eq_true, if_false, Sem.run_pure, Result.andThen_ok, Bool.true_and]
   exact ih fun j hj => hl j (by simp [hj])
theorem neqA (xs ys : List ByteArray) (hx : xs.length = 20) (hy : ys.length = 20) (w : World) :
  (binOp .neq 219 (.agg (cellsA xs)) (.agg (cellsA ys))).run Tryz.prog w = .ok (.bool (!((List.range' 0 20 1).all (fun i => (textAt xs i).toList == (textAt ys i).toList)))) w := by
 rw [run_neq_struct, equalA xs ys hx hy]
 rfl
theorem neq_in (x : Int) (h : 0 ≤ x ∧ x ≤ 19) (w : World) : (binOp .neq 219 (.agg (cellsA (withP noneA x ⟨#[120]⟩))) (.agg #[.string ⟨#[]⟩, .string ⟨#[]⟩, .string ⟨#[]⟩, .string ⟨#[]⟩, .string ⟨#[]⟩, .string ⟨#[]⟩, .string ⟨#[]⟩, .string ⟨#[]⟩, .string ⟨#[]⟩, .string ⟨#[]⟩, .string ⟨#[]⟩, .string ⟨#[]⟩, .string ⟨#[]⟩, .string ⟨#[]⟩, .string ⟨#[]⟩, .string ⟨#[]⟩, .string ⟨#[]⟩, .string ⟨#[]⟩, .string ⟨#[]⟩, .string ⟨#[]⟩])).run Tryz.prog w = .ok (.bool true) w := by
 have h1 := neqA (withP noneA x ⟨#[120]⟩) noneA (withP_len _ _ _) rfl w
 rw [noneA_cells] at h1
 rw [h1]
 have h2 : textAt (withP noneA x ⟨#[120]⟩) x.toNat = ⟨#[120]⟩ := by
  unfold withP
  rw [if_pos ⟨h.1, by omega⟩, textAt_set, if_pos ⟨rfl, by rw [noneA_len]; omega⟩]
 have h3 : textAt noneA x.toNat = ⟨#[]⟩ := by
  unfold textAt noneA
  rw [List.getD_eq_getElem?_getD, List.getElem?_replicate, if_pos (by omega)]
  rfl
 have h4 : ((List.range' 0 20 1).all (fun i => (textAt (withP noneA x ⟨#[120]⟩) i).toList == (textAt noneA i).toList)) = false := by
  rw [List.all_eq_false]
  refine ⟨x.toNat, List.mem_range'_1.2 ⟨by omega, by omega⟩, ?_⟩
  rw [h2, h3, ← beq_toListBytes]
  decide
 rw [h4]
 rfl
theorem neq_out (x : Int) (h : ¬ (0 ≤ x ∧ x ≤ 19)) (w : World) : (binOp .neq 219 (.agg (cellsA (withP noneA x ⟨#[120]⟩))) (.agg #[.string ⟨#[]⟩, .string ⟨#[]⟩, .string ⟨#[]⟩, .string ⟨#[]⟩, .string ⟨#[]⟩, .string ⟨#[]⟩, .string ⟨#[]⟩, .string ⟨#[]⟩, .string ⟨#[]⟩, .string ⟨#[]⟩, .string ⟨#[]⟩, .string ⟨#[]⟩, .string ⟨#[]⟩, .string ⟨#[]⟩, .string ⟨#[]⟩, .string ⟨#[]⟩, .string ⟨#[]⟩, .string ⟨#[]⟩, .string ⟨#[]⟩, .string ⟨#[]⟩])).run Tryz.prog w = .ok (.bool false) w := by
 have e : withP noneA x ⟨#[120]⟩ = noneA := by unfold withP; rw [if_neg (fun h2 => h ⟨h2.1, by omega⟩)]
 have h1 := neqA noneA noneA rfl rfl w
 rw [e]
 rw [noneA_cells] at h1 ⊢
 rw [h1]
 have h4 : ((List.range' 0 20 1).all (fun i => (textAt noneA i).toList == (textAt noneA i).toList)) = true := by
  rw [List.all_eq_true]
  exact fun i _ => by simp
 rw [h4]
 rfl
theorem isCell_any (x : Int) (w : World) :
  Calls Tryz.prog 132 #[.int .i64 x] w fun e w' => BoolIs (0 ≤ x ∧ x ≤ 19) w e w' := by
 have hgb := guardA
 by_cases h : 0 ≤ x ∧ x ≤ 19
 ·
  have hqe := neq_in x h
  have HH : Hid (0 ≤ x ∧ x ≤ 19) := h
  clear h
  go_enter Tryz.func132, Tryz.ntmps132
  go_wp2_with fail
  refine (with_any noneA rfl x ⟨#[120]⟩ _).mono ?_
  rintro e w1 ⟨rfl, bw⟩
  have HBW : Hid (Below w.heap.size w w1) := bw
  clear bw
  go_wp2_with fail
  go_ret
  exact ⟨true, rfl, ⟨fun _ => HH.out, fun _ => rfl⟩, HBW.out⟩
 ·
  have hqe := neq_out x h
  have HH : Hid (¬ (0 ≤ x ∧ x ≤ 19)) := h
  clear h
  go_enter Tryz.func132, Tryz.ntmps132
  go_wp2_with fail
  refine (with_any noneA rfl x ⟨#[120]⟩ _).mono ?_
  rintro e w1 ⟨rfl, bw⟩
  have HBW : Hid (Below w.heap.size w w1) := bw
  clear bw
  go_wp2_with fail
  go_ret
  exact BoolIs.no HH.out HBW.out
theorem allToCells_any (o : Option Addr) (n c : Nat) (ws : List (Int × ByteArray)) (w : World) (h : WriteA w o n ws) (hn : n ≤ 2000000) :
  Calls Tryz.prog 131 #[.slice o n c] w fun e w' => BoolIs (AllIn ws) w e w' := by
 have HW : Hid (WriteA w o n ws) := h
 clear h
 go_enter Tryz.func131, Tryz.ntmps131
 go_wp2_with fail
 go_loopw [7] (fun i wr => ∃ j : Nat, j ≤ n ∧ i = .int .i64 (j : Int) ∧ Hid (Below w.heap.size w wr) ∧ Hid (∀ x ∈ ws.take j, 0 ≤ x.1 ∧ x.1 ≤ 19)) (fun i _ => n - (intOf i).toNat)
 case atStart => exact ⟨0, Nat.zero_le _, rfl, Below.refl _ _, fun x hx => by simp at hx⟩
 case round =>
  obtain ⟨j, hj, rfl, HB, HN⟩ := hrel
  by_cases hlt : (j : Int) < (n : Int)
  ·
   have hjx : j < ws.length := by rw [HW.out.1]; omega
   obtain ⟨g, rfl, hg, r0, r1⟩ := (HW.out.below HB.out).2 j (by omega)
   obtain ⟨y, hy⟩ := exq (writeAt ws j)
   have HM : Hid (y ∈ ws) := by show _ ∈ _; rw [hy]; exact writeAt_mem ws j hjx
   have HTK : Hid (ws.take (j + 1) = ws.take j ++ [y]) := by show _ = _; rw [hy]; exact take_writeAt ws j hjx
   rw [← hy] at r0 r1
   obtain ⟨y0, y1⟩ := y
   simp only at r0 r1
   clear hy hjx
   go_wp2_with fail
   refine (isCell_any y0 _).mono ?_
   rintro e w4 ⟨b, rfl, hb, bw⟩
   have HBW : Hid (Below w.heap.size w w4) := (HB.out.alloc HB.out.size _).trans (bw.mono (Nat.le_trans HB.out.size (by simp)))
   clear bw r0 r1
   cases b with
   | true =>
    have HY : Hid (0 ≤ y0 ∧ y0 ≤ 19) := hb.1 rfl
    clear hb
    go_wp2_with fail
    go_roundw
    case rel =>
     refine ⟨j + 1, by omega, by go_num, HBW, fun x hx => ?_⟩
     rw [HTK.out] at hx
     rcases List.mem_append.1 hx with hx | hx
     · exact HN.out x hx
     · rw [List.mem_singleton.1 hx]; exact HY.out
    case measure => simp [intOf]; omega
   | false =>
    have HY : Hid (¬ (0 ≤ y0 ∧ y0 ≤ 19)) := fun h => nomatch hb.2 h
    clear hb
    go_wp2_with fail
    go_ret
    exact BoolIs.no (fun h => HY.out (h _ HM.out)) HBW.out
  ·
   have HAL : Hid (AllIn ws) := fun x hx => HN.out x (by rw [List.take_of_length_le (by rw [HW.out.1]; omega)]; exact hx)
   clear HN
   go_wp2_with fail
   go_ret
   exact ⟨true, rfl, ⟨fun _ => HAL.out, fun _ => rfl⟩, HB.out⟩
end Go.Proofs.YtbmhonfgffjpcaaGreat
namespace Go.Proofs.YtbmhonfgffjpcaaGreat
open Go.RowKit
open Go.Lib hiding intOf
theorem isObjectCell_any (x : Int) (w : World) :
  Calls Tryz.prog 101 #[.int .i64 x] w fun e w' => BoolIs (5 ≤ x ∧ x ≤ 19) w e w' := by
 have hb0 : Below w.heap.size w w := Below.refl _ _
 go_enter Tryz.func101, Tryz.ntmps101
 by_cases hc1 : 5 ≤ x
 ·
  have H5 : Hid (5 ≤ x) := hc1
  go_wp2_with fail
  refine (isCell_any x _).mono ?_
  rintro e w1 ⟨uc, rfl, huc, bw⟩
  have hb1 := hbt hb0 bw
  clear hb0 bw
  go_wp2_with fail
  go_ret
  cases uc with
  | true => exact BoolIs.yes ⟨H5.out, (huc.1 rfl).2⟩ hb1
  | false => exact BoolIs.no (fun h => nomatch huc.2 ⟨by omega, h.2⟩) hb1
 ·
  have H5 : Hid (¬ 5 ≤ x) := hc1
  go_wp2_with fail
  go_ret
  exact BoolIs.no (fun h => by have h5 := H5.out; omega) hb0
theorem knownOf_any (V : Value) (kv : List (KpD × Value × Value × Value)) (B : Nat) (w : World) (h : KeptsO w B V kv) (hn : kv.length ≤ 1048576) (ha : ∀ x ∈ kv, 0 ≤ x.1.a ∧ x.1.a ≤ 1000) :
  Calls Tryz.prog 134 #[V] w fun e w' => KnownIs kv w e w' := by
 obtain ⟨o3, c3, e3⟩ := slice_of_owns h.row
 subst e3
 obtain ⟨n3, hn3⟩ := exq kv.length
 rw [← hn3] at h ⊢
 obtain ⟨ks, hks⟩ := exq (kv.map (·.1))
 have HKS : Hid (kv.map (·.1) = ks) := hks.symm
 have HLK : Hid (kv.length = n3) := hn3.symm
 have bn3 : n3 ≤ 1048576 := by rw [hn3]; exact hn
 have HKP : Hid (∀ W, Below w.heap.size w W → KeptsO W B (.slice o3 n3 c3) kv) := fun W hb => KeptsO.below h hb
 clear hn3 hks h hn
 have HAB : Hid (∀ x ∈ kv, 0 ≤ x.1.a ∧ x.1.a ≤ 1000) := ha
 clear ha
 have hmm : ∀ W : World, (Instr.makeMap 203 (some (.int .i64 (n3 : Int)))).run Tryz.prog W = .ok (.map (some W.heap.size)) (W.alloc (.map #[] 0)) := fun W => run_makeMap_hint Tryz.underlying203 _ W
 have hb0 : Below w.heap.size w w := Below.refl _ _
 go_enter Tryz.func134, Tryz.ntmps134
 go_upto_region 2 with fail
 obtain ⟨qm1, hqm1⟩ := exq ((w).heap.size)
 obtain ⟨w1, hW1⟩ := exq ((w).alloc (.map #[] 0))
 first | rw [← hW1, ← hqm1] | rw [← hW1]
 have bw := bal hW1
 have hb1 := hbt hb0 bw
 have HGm1 : Hid (w.heap.size ≤ qm1) := by show _ ≤ _; rw [hqm1]; exact hb0.size
 have EMm1_1 : Hid (KnownO w1 qm1 0 (.map [])) := by unfold KnownO; show World.ownsMap _ _ _ _ _ _ _; rw [hW1, hqm1]; exact World.ownsMap_made _ _ _ _
 clear bw hW1 hqm1 hb0
 go_wp2_with fail
 go_loopw [11] (fun i wr => ∃ (j : Nat) (D : DataW Value), j ≤ n3 ∧ i = .int .i64 (j : Int) ∧ Hid (KnownO wr qm1 j D ∧ MapN D (kv.take j) ∧ Below w.heap.size w (wr))) (fun i _ => n3 - (intOf i).toNat)
 case atStart => exact ⟨0, .map [], Nat.zero_le _, rfl, EMm1_1.out, by rw [List.take_zero]; exact MapN.nil, hb1⟩
 case round =>
  obtain ⟨j, D, hj, rfl, HW⟩ := hrel
  by_cases hlt : (j : Int) < (n3 : Int)
  ·
   have hb2 := HW.out.2.2
   have HMN := HW.out.2.1
   have HMNH : Hid (MapN D (kv.take j)) := HMN
   clear HMN
   have EMm1_2 : Hid (KnownO wr qm1 j D) := HW.out.1
   clear HW hb1 EMm1_1
   obtain ⟨g3, p3, hV, _, _⟩ := (HKP.out _ hb2).look j (by rw [HLK.out]; omega)
   rw [HLK.out] at hV
   injection hV with hV1 hV2 hV3
   subst hV1 hV3
   clear hV2
   obtain ⟨xX, hxX⟩ := exq (kvAt kv j)
   have HMx : Hid (xX ∈ kv) := by show _ ∈ _; rw [hxX]; exact kvAt_mem kv j (by rw [HLK.out]; omega)
   have HEx : Hid (kpAt ks j = xX.1) := by show _ = _; rw [hxX, ← HKS.out]; exact (kvAt_fst kv j (by rw [HLK.out]; omega)).symm
   have HTKx : Hid (kv.take (j + 1) = kv.take j ++ [xX]) := by show _ = _; rw [hxX]; exact kvAt_take kv j (by rw [HLK.out]; omega)
   have HKx : Hid (∀ W, Below w.heap.size w W → KpAt W g3 j xX) := fun W hb => by
    obtain ⟨g', p', hV, _, hc⟩ := (HKP.out W hb).look j (by rw [HLK.out]; omega)
    injection hV with hV1 _ _
    cases hV1
    rw [hxX]
    exact hc
   clear hxX
   obtain ⟨x, kuv1, kuv2, kuv3⟩ := xX
   obtain ⟨ku1, kuc1, hu⟩ := slice_of_owns ((HKP.out _ hb2).names HMx.out)
   have hu' : kuv1 = .slice ku1 x.xs.length kuc1 := hu
   subst hu'
   clear hu
   obtain ⟨ku2, kuc2, hu⟩ := slice_of_owns ((HKP.out _ hb2).vals HMx.out)
   have hu' : kuv2 = .slice ku2 x.ys.length kuc2 := hu
   subst hu'
   clear hu
   obtain ⟨ku3, kuc3, hu⟩ := slice_of_owns ((HKP.out _ hb2).flds HMx.out)
   have hu' : kuv3 = .slice ku3 x.fs.length kuc3 := hu
   subst hu'
   clear hu
   have r0x := (HKx.out _ hb2).c0
   have r1x := (HKx.out _ hb2).c1
   have r2x := (HKx.out _ hb2).c2
   have r3x := (HKx.out _ hb2).c3
   have r4x := (HKx.out _ hb2).c4
   have r5x := (HKx.out _ hb2).c5
   have r6x := (HKx.out _ hb2).c6
   have r7x := (HKx.out _ hb2).c7
   have r8x := (HKx.out _ hb2).c8
   dsimp only at r0x r1x r2x r3x r4x r5x r6x r7x r8x
   go_upto_region 5 with fail
   obtain ⟨qv1, hqv1⟩ := exq ((wr).heap.size)
   obtain ⟨w3, hW3⟩ := exq ((wr).alloc (.cells #[.string x.p, .slice ku1 x.xs.length kuc1, .slice ku2 x.ys.length kuc2, .int .i64 x.st, .slice ku3 x.fs.length kuc3, .string x.b, .int .i64 x.t, .int .i64 x.a, .int .i64 x.q] 103))
   have hz3 : (wr).heap.size = qv1 := hqv1.symm
   first | rw [← hW3, ← hqv1] | rw [← hW3]
   have hs3 := hsa hW3 hz3
   have bw := bal hW3
   have hb3 := hbt hb2 bw
   have EMm1_3 : Hid (KnownO w3 qm1 j (D)) := map_below EMm1_2.out bw
   have HBv1_3 := hnew hW3 hz3
   clear hb2 EMm1_2 bw hW3 hz3
   clear hs3 hqv1
   clear r0x r1x r2x r3x r4x r5x r6x r7x r8x
   have cv1_0 := (k9c HBv1_3).1
   have cv1_1 := (k9c HBv1_3).2.1
   have cv1_2 := (k9c HBv1_3).2.2.1
   have cv1_3 := (k9c HBv1_3).2.2.2.1
   have cv1_4 := (k9c HBv1_3).2.2.2.2.1
   have cv1_5 := (k9c HBv1_3).2.2.2.2.2.1
   have cv1_6 := (k9c HBv1_3).2.2.2.2.2.2.1
   have cv1_7 := (k9c HBv1_3).2.2.2.2.2.2.2.1
   have cv1_8 := (k9c HBv1_3).2.2.2.2.2.2.2.2
   have hmp := EMm1_3.out
   unfold KnownO at hmp
   go_wp2_with (first | (at_mapUpdate; refine wpList_mapUpdate_own _ rfl _ _ _ 203 rfl 3 103 keyInt Tryz.underlying203 mpR qm1 (j) (D) rfl hmp (by unfold maxLen; omega) _ _ (.int .i64 x.a) rfl rfl (key_wf (HAB.out _ HMx.out).1 (HAB.out _ HMx.out).2) (.held (.agg #[.string x.p, .slice ku1 x.xs.length kuc1, .slice ku2 x.ys.length kuc2, .int .i64 x.st, .slice ku3 x.fs.length kuc3, .string x.b, .int .i64 x.t, .int .i64 x.a, .int .i64 x.q])) [] rfl ?_) | go_in)
   intro w4 hown1 hgrow
   clear cv1_0 cv1_1 cv1_2 cv1_3 cv1_4 cv1_5 cv1_6 cv1_7 cv1_8
   have hb4 : Below w.heap.size w (w4) := hb3.grown hgrow hb3.size (by intro g hg; cases hg; exact HGm1.out)
   have HBv1_4 : Hid ((w4).heap[qv1]? = some (.cells #[.string x.p, .slice ku1 x.xs.length kuc1, .slice ku2 x.ys.length kuc2, .int .i64 x.st, .slice ku3 x.fs.length kuc3, .string x.b, .int .i64 x.t, .int .i64 x.a, .int .i64 x.q] 103)) := map_blk hmp HBv1_3.out hgrow
   have EMm1_4 : Hid (KnownO w4 qm1 (j + 1) (((D).put (.int .i64 x.a) (.held (.agg #[.string x.p, .slice ku1 x.xs.length kuc1, .slice ku2 x.ys.length kuc2, .int .i64 x.st, .slice ku3 x.fs.length kuc3, .string x.b, .int .i64 x.t, .int .i64 x.a, .int .i64 x.q]))))) := hown1
   clear hown1 hgrow hmp hb3 HBv1_3 EMm1_3
   have HN2 : Hid (MapN (D.put (.int .i64 x.a) (.held (kpX (x, .slice ku1 x.xs.length kuc1, .slice ku2 x.ys.length kuc2, .slice ku3 x.fs.length kuc3)))) (kv.take (j + 1))) := by
    show MapN _ _
    rw [HTKx.out]
    exact HMNH.out.put (x, .slice ku1 x.xs.length kuc1, .slice ku2 x.ys.length kuc2, .slice ku3 x.fs.length kuc3)
   go_wp2_with fail
   go_roundw
   case rel => exact ⟨j + 1, _, by omega, by go_num, EMm1_4.out, HN2.out, hb4⟩
   case measure => simp [intOf]; omega
  ·
   have hb2 := HW.out.2.2
   have HMN := HW.out.2.1
   have HMNH : Hid (MapN D (kv.take j)) := HMN
   clear HMN
   have EMm1_2 : Hid (KnownO wr qm1 j D) := HW.out.1
   clear HW hb1 EMm1_1
   go_wp2_with fail
   go_ret
   have HMN2 : MapN D kv := by
    have h := HMNH.out
    rw [List.take_of_length_le (by rw [HLK.out]; omega)] at h
    exact h
   exact ⟨qm1, j, D, rfl, by rw [HLK.out]; omega, EMm1_2.out, HMN2, HGm1.out, hb2⟩
end Go.Proofs.YtbmhonfgffjpcaaGreat
namespace Go.Proofs.YtbmhonfgffjpcaaGreat
open Go.RowKit
open Go.Lib hiding intOf
theorem implDiskOk_len (o1 : Option Addr) (n1 c1 : Nat) (v2 : Value) (n2 : Nat) (ws : List (Int × ByteArray)) (B : Nat) (w : World) (h : w.ownsRow B 199 2 v2 n2 (flatWrite ws)) (hn2 : n2 ≤ 2000000) :
  Calls Tryz.prog 100 #[.agg #[.slice o1 n1 c1, v2]] w fun e w' => BoolIs (DiskN n1 ws) w e w' := by
 obtain ⟨o2, c2, rfl⟩ := slice_of_owns h
 have HV : Hid (WriteA w o2 n2 ws) := write_view h
 have HLN : Hid (ws.length = n2) := write_len h
 clear h
 by_cases h1 : n1 = 20
 ·
  subst h1
  by_cases h2 : n2 ≤ 16
  ·
   have h3 : (n2 : Int) ≤ 16 := by omega
   go_enter Tryz.func100, Tryz.ntmps100
   go_wp2_with fail
   refine (allToCells_any o2 n2 c2 ws _ (HV.out.below ((Below.refl _ _).alloc (Nat.le_refl _) _)) hn2).mono ?_
   rintro e w1 ⟨b, rfl, hb, bw⟩
   have HB : Hid (b = true ↔ AllIn ws) := hb
   have HBW : Hid (Below w.heap.size w w1) := ((Below.refl _ _).alloc (Nat.le_refl _) _).trans (bw.mono (by simp))
   have HN : Hid (n2 ≤ 16) := h2
   clear hb bw
   go_wp2_with fail
   go_ret
   exact ⟨b, rfl, ⟨fun e => ⟨rfl, by rw [HLN.out]; exact HN.out, HB.out.1 e⟩, fun h => HB.out.2 h.2.2⟩, HBW.out⟩
  ·
   have h3 : ¬ (n2 : Int) ≤ 16 := by omega
   have HNO : Hid (¬ ws.length ≤ 16) := by rw [HLN.out]; exact h2
   go_enter Tryz.func100, Tryz.ntmps100
   go_wp2_with fail
   go_ret
   exact BoolIs.no (fun h => HNO.out h.2.1) ((Below.refl _ _).alloc (Nat.le_refl _) _)
 ·
  have h3 : ¬ (n1 : Int) = 20 := by omega
  have HNO : Hid (¬ n1 = 20) := h1
  go_enter Tryz.func100, Tryz.ntmps100
  go_wp2_with fail
  go_ret
  exact BoolIs.no (fun h => HNO.out h.1) ((Below.refl _ _).alloc (Nat.le_refl _) _)
theorem implDiskOk_any (v1 v2 : Value) (n1 : Nat) (cs : List ByteArray) (n2 : Nat) (ws : List (Int × ByteArray)) (B : Nat) (w : World) (h : DiskO w B v1 n1 cs v2 n2 ws) (_hn1 : n1 ≤ 2000000) (hn2 : n2 ≤ 2000000) :
  Calls Tryz.prog 100 #[.agg #[v1, v2]] w fun e w' => BoolIs (DiskP cs ws) w e w' := by
 obtain ⟨oCx, pCx, rfl⟩ := slice_of_owns h.cells
 have hl : cs.length = n1 := by have := h.cells.1; rw [List.length_map] at this; omega
 have h1 := implDiskOk_len oCx n1 pCx v2 n2 ws B w h.pend hn2
 rw [← hl] at h1
 rw [← hl]
 exact h1
end Go.Proofs.YtbmhonfgffjpcaaGreat
namespace Go.Proofs.YtbmhonfgffjpcaaGreat
open Go.RowKit
open Go.Lib hiding intOf
/-- At most five bans, each right. -/
def BansP (bl : List (Int × ByteArray × ByteArray × Int)) : Prop := bl.length ≤ 5 ∧ ∀ x ∈ bl, BanP x.1 x.2.1 x.2.2.1 x.2.2.2
/-- The number of the one ahead, or nought. -/
def lastQ (ks : List KpD) (i : Nat) : Int := if i = 0 then 0 else (kpAt ks (i - 1)).q
theorem lastQ_succ (ks : List KpD) (i : Nat) : lastQ ks (i + 1) = (kpAt ks i).q := by unfold lastQ; rw [if_neg (by omega), Nat.add_sub_cancel]
/-- Right, but for its cell's being another's. -/
def KpA (ks : List KpD) (sq : Int) (i : Nat) : Prop := ObjK (kpAt ks i) ∧ (5 ≤ (kpAt ks i).a ∧ (kpAt ks i).a ≤ 19) ∧ lastQ ks i < (kpAt ks i).q ∧ (kpAt ks i).q < sq
theorem lastQ_ge {ks : List KpD} {sq : Int} {n : Nat} (h : ∀ m, m < n → KpA ks sq m) : ∀ i, i ≤ n → 0 ≤ lastQ ks i
 | 0, _ => by simp [lastQ]
 | i + 1, hi => by
  have h1 := lastQ_ge h i (by omega)
  have h2 := (h i (by omega)).2.2.1
  rw [lastQ_succ]
  omega
theorem kpOk_A {ks : List KpD} {sq : Int} {i : Nat} (h : KpOk ks sq i) : KpA ks sq i := by
 obtain ⟨h1, h2, h3, h4, _⟩ := h
 refine ⟨h1, h2, ?_, by omega⟩
 unfold lastQ
 split
 · omega
 · exact h4 (by omega)
theorem kpA_Ok {ks : List KpD} {sq : Int} {n i : Nat} (h : ∀ m, m < n → KpA ks sq m) (hi : i < n) (ha : ∀ j, j < i → (kpAt ks j).a ≠ (kpAt ks i).a) : KpOk ks sq i := by
 obtain ⟨h1, h2, h3, h4⟩ := h i hi
 have h5 := lastQ_ge h i (by omega)
 refine ⟨h1, h2, by omega, fun h0 => ?_, ha⟩
 unfold lastQ at h3
 rw [if_neg (by omega)] at h3
 exact h3
theorem apart_at {kv : List (KpD × Value × Value × Value)} : ApartA kv ↔ ∀ i, i < kv.length → ∀ j, j < i → (kpAt (kv.map (·.1)) j).a ≠ (kpAt (kv.map (·.1)) i).a := by
 have e : ∀ i (hi : i < kv.length), kpAt (kv.map (·.1)) i = (kv[i]'hi).1 := fun i hi => by
  rw [← kpAt_get _ i (by rw [List.length_map]; exact hi)]
  simp
 unfold ApartA
 rw [List.pairwise_iff_getElem]
 constructor
 ·
  intro h i hi j hj
  rw [e i hi, e j (by omega)]
  exact h j i (by omega) hi hj
 ·
  intro h i j hi hj hij
  have h2 := h j hj i hij
  rw [e j hj, e i hi] at h2
  exact h2
theorem keptOk_any (V : Value) (kv : List (KpD × Value × Value × Value)) (sq : Int) (B : Nat) (w : World) (h : KeptsO w B V kv) (hn : kv.length ≤ 1048576) (hs : ∀ x ∈ kv, KpSmall x.1) :
  Calls Tryz.prog 102 #[V, .int .i64 sq] w fun e w' => BoolIs (∀ m, m < kv.length → KpOk (kv.map (·.1)) sq m) w e w' := by
 obtain ⟨o3, c3, e3⟩ := slice_of_owns h.row
 subst e3
 obtain ⟨n3, hn3⟩ := exq kv.length
 rw [← hn3] at h ⊢
 obtain ⟨ks, hks⟩ := exq (kv.map (·.1))
 have HKS : Hid (kv.map (·.1) = ks) := hks.symm
 have HLK : Hid (kv.length = n3) := hn3.symm
 have bn3 : n3 ≤ 1048576 := by rw [hn3]; exact hn
 have HKP : Hid (∀ W, Below w.heap.size w W → KeptsO W B (.slice o3 n3 c3) kv) := fun W hb => KeptsO.below h hb
 clear hn3 hks h hn
 have HSM : Hid (∀ x ∈ kv, KpSmall x.1) := hs
 clear hs
 have hb0 : Below w.heap.size w w := Below.refl _ _
 go_enter Tryz.func102, Tryz.ntmps102
 go_wp2_with fail
 go_loopw [5, 10] (fun l i wr => ∃ i' : Nat, i' ≤ n3 ∧ l = .int .i64 (lastQ ks i') ∧ i = .int .i64 (i' : Int) ∧ Hid (Below w.heap.size w (wr)) ∧ Hid (∀ m, m < i' → KpA ks sq m)) (fun _ i _ => n3 - (intOf i).toNat)
 case atStart => exact ⟨0, Nat.zero_le _, rfl, rfl, hb0, fun m hm => absurd hm (by omega)⟩
 case round =>
  obtain ⟨i, hi, rfl, rfl, HW, HN⟩ := hrel
  by_cases hlt : (i : Int) < (n3 : Int)
  ·
   have hb1 := HW.out
   clear HW hb0
   obtain ⟨g3, p3, hV, _, _⟩ := (HKP.out _ hb1).look i (by rw [HLK.out]; omega)
   rw [HLK.out] at hV
   injection hV with hV1 hV2 hV3
   subst hV1 hV3
   clear hV2
   obtain ⟨xX, hxX⟩ := exq (kvAt kv i)
   have HMx : Hid (xX ∈ kv) := by show _ ∈ _; rw [hxX]; exact kvAt_mem kv i (by rw [HLK.out]; omega)
   have HEx : Hid (kpAt ks i = xX.1) := by show _ = _; rw [hxX, ← HKS.out]; exact (kvAt_fst kv i (by rw [HLK.out]; omega)).symm
   have HTKx : Hid (kv.take (i + 1) = kv.take i ++ [xX]) := by show _ = _; rw [hxX]; exact kvAt_take kv i (by rw [HLK.out]; omega)
   have HKx : Hid (∀ W, Below w.heap.size w W → KpAt W g3 i xX) := fun W hb => by
    obtain ⟨g', p', hV, _, hc⟩ := (HKP.out W hb).look i (by rw [HLK.out]; omega)
    injection hV with hV1 _ _
    cases hV1
    rw [hxX]
    exact hc
   clear hxX
   obtain ⟨x, kuv1, kuv2, kuv3⟩ := xX
   obtain ⟨ku1, kuc1, hu⟩ := slice_of_owns ((HKP.out _ hb1).names HMx.out)
   have hu' : kuv1 = .slice ku1 x.xs.length kuc1 := hu
   subst hu'
   clear hu
   obtain ⟨ku2, kuc2, hu⟩ := slice_of_owns ((HKP.out _ hb1).vals HMx.out)
   have hu' : kuv2 = .slice ku2 x.ys.length kuc2 := hu
   subst hu'
   clear hu
   obtain ⟨ku3, kuc3, hu⟩ := slice_of_owns ((HKP.out _ hb1).flds HMx.out)
   have hu' : kuv3 = .slice ku3 x.fs.length kuc3 := hu
   subst hu'
   clear hu
   have r0x := (HKx.out _ hb1).c0
   have r1x := (HKx.out _ hb1).c1
   have r2x := (HKx.out _ hb1).c2
   have r3x := (HKx.out _ hb1).c3
   have r4x := (HKx.out _ hb1).c4
   have r5x := (HKx.out _ hb1).c5
   have r6x := (HKx.out _ hb1).c6
   have r7x := (HKx.out _ hb1).c7
   have r8x := (HKx.out _ hb1).c8
   dsimp only at r0x r1x r2x r3x r4x r5x r6x r7x r8x
   go_upto_region 5 with fail
   obtain ⟨qv1, hqv1⟩ := exq ((wr).heap.size)
   obtain ⟨w2, hW2⟩ := exq ((wr).alloc (.cells #[.string x.p, .slice ku1 x.xs.length kuc1, .slice ku2 x.ys.length kuc2, .int .i64 x.st, .slice ku3 x.fs.length kuc3, .string x.b, .int .i64 x.t, .int .i64 x.a, .int .i64 x.q] 103))
   have hz2 : (wr).heap.size = qv1 := hqv1.symm
   first | rw [← hW2, ← hqv1] | rw [← hW2]
   have hs2 := hsa hW2 hz2
   have bw := bal hW2
   have hb2 := hbt hb1 bw
   have HM2 := hsz bw
   have HBv1_2 := hnew hW2 hz2
   clear hb1 bw hW2 hz2
   clear hs2 hqv1
   clear r0x r1x r2x r3x r4x r5x r6x r7x r8x
   have cv1_0 := (k9c HBv1_2).1
   have cv1_1 := (k9c HBv1_2).2.1
   have cv1_2 := (k9c HBv1_2).2.2.1
   have cv1_3 := (k9c HBv1_2).2.2.2.1
   have cv1_4 := (k9c HBv1_2).2.2.2.2.1
   have cv1_5 := (k9c HBv1_2).2.2.2.2.2.1
   have cv1_6 := (k9c HBv1_2).2.2.2.2.2.2.1
   go_wp2_with fail
   refine (implObjOk_k x _ _ _ _ ((HKP.out _ hb2).read HMx.out) (HSM.out _ HMx.out)).mono ?_
   rintro e w3 ⟨uo, rfl, huo, bw⟩
   have hb3 := hbt hb2 bw
   have HBv1_3 := hblk HBv1_2 bw
   clear hb2 HBv1_2 bw
   clear cv1_0 cv1_1 cv1_2 cv1_3 cv1_4 cv1_5 cv1_6
   cases uo with
   | false =>
    have HNuo : Hid (¬ (ObjK x)) := fun h => nomatch huo.2 h
    clear huo
    go_wp2_with fail
    go_ret
    exact BoolIs.no (fun h => by have hk := h i (by omega); rw [HKS.out] at hk; have hA := kpOk_A hk; unfold KpA at hA; rw [HEx.out] at hA; exact HNuo.out hA.1) hb3
   | true =>
    have HYuo : Hid (ObjK x) := huo.1 rfl
    clear huo
    have cv1_7 := (k9c HBv1_3).2.2.2.2.2.2.2.1
    go_wp2_with fail
    refine (isObjectCell_any x.a _).mono ?_
    rintro e w4 ⟨uka, rfl, huka, bw⟩
    have hb4 := hbt hb3 bw
    have HBv1_4 := hblk HBv1_3 bw
    clear hb3 HBv1_3 bw
    clear cv1_7
    cases uka with
    | false =>
     have HNuka : Hid (¬ (5 ≤ x.a ∧ x.a ≤ 19)) := fun h => nomatch huka.2 h
     clear huka
     go_wp2_with fail
     go_ret
     exact BoolIs.no (fun h => by have hk := h i (by omega); rw [HKS.out] at hk; have hA := kpOk_A hk; unfold KpA at hA; rw [HEx.out] at hA; exact HNuka.out hA.2.1) hb4
    | true =>
     have HYuka : Hid (5 ≤ x.a ∧ x.a ≤ 19) := huka.1 rfl
     clear huka
     by_cases hc1 : x.q ≤ (lastQ ks i)
     ·
      have HLQ : Hid (x.q ≤ lastQ ks i) := hc1
      have cv1_8 := (k9c HBv1_4).2.2.2.2.2.2.2.2
      go_wp2_with fail
      go_ret
      exact BoolIs.no (fun h => by have hk := h i (by omega); rw [HKS.out] at hk; have hA := kpOk_A hk; unfold KpA at hA; rw [HEx.out] at hA; have h2 := HLQ.out; omega) hb4
     ·
      have HLQ : Hid (¬ x.q ≤ lastQ ks i) := hc1
      have cv1_8 := (k9c HBv1_4).2.2.2.2.2.2.2.2
      by_cases hc2 : sq ≤ x.q
      ·
       have HGQ : Hid (sq ≤ x.q) := hc2
       go_wp2_with fail
       go_ret
       exact BoolIs.no (fun h => by have hk := h i (by omega); rw [HKS.out] at hk; have hA := kpOk_A hk; unfold KpA at hA; rw [HEx.out] at hA; have h2 := HGQ.out; omega) hb4
      ·
       have HGQ : Hid (¬ sq ≤ x.q) := hc2
       have HN2 : Hid (∀ m, m < i + 1 → KpA ks sq m) := fun m hm => by
        by_cases e : m = i
        ·
         subst e
         unfold KpA
         rw [HEx.out]
         have h1 := HLQ.out
         have h2 := HGQ.out
         exact ⟨HYuo.out, HYuka.out, by omega, by omega⟩
        · exact HN.out m (by omega)
       have HLS : Hid (x.q = lastQ ks (i + 1)) := by show _ = _; rw [lastQ_succ, HEx.out]
       go_wp2_with fail
       go_roundw
       case rel => exact ⟨i + 1, by omega, congrArg (Value.int .i64) HLS.out, by go_num, hb4, HN2⟩
       case measure => simp [intOf]; omega
  ·
   have hb1 := HW.out
   clear HW hb0
   have HKA : Hid (∀ m, m < n3 → KpA ks sq m) := fun m hm => HN.out m (by omega)
   have HAB : Hid (∀ x ∈ kv, 0 ≤ x.1.a ∧ x.1.a ≤ 1000) := fun x hx => by
    obtain ⟨j, hj, e⟩ := List.getElem_of_mem hx
    have h2 := (HKA.out j (by rw [← HLK.out]; exact hj)).2.1
    rw [← HKS.out, ← kvAt_fst kv j hj, ← kvAt_get kv j hj, e] at h2
    omega
   clear HN
   go_wp2_with fail
   refine (knownOf_any _ kv B _ (HKP.out _ hb1) (by rw [HLK.out]; exact bn3) (fun x hx => HAB.out x hx)).mono ?_
   rintro e w2 ⟨bM, nM, D, rfl, hnM, hko, hmn, hbg, bw⟩
   have HBK : Hid (w.heap.size ≤ (wr).heap.size) := hb1.size
   have hb2 := hbt hb1 bw
   have HM2 := hsz bw
   clear hb1 bw
   have EMmk_2 : Hid (KnownO w2 bM nM D) := hko
   have HMN : Hid (MapN D kv) := hmn
   clear hbg hko hmn
   by_cases hc1 : (Maps.size (D) : Int) = (n3 : Int)
   ·
    have hc1b : (((Maps.size (D) : Int) : Int) == ((n3 : Int) : Int)) = true := by simpa using hc1
    have hc1n : (((Maps.size (D) : Int) : Int) != ((n3 : Int) : Int)) = false := by simpa using hc1
    have HSZ : Hid ((Maps.size D : Int) = (n3 : Int)) := hc1
    have hc1H : Hid ((Maps.size (D) : Int) = (n3 : Int)) := hc1
    clear hc1
    have hmp := EMmk_2.out
    unfold KnownO at hmp
    go_wp2_with (first | (at_len; refine wpList_len_own _ rfl _ 203 rfl 3 103 Tryz.underlying203 mpR bM nM (D) rfl hmp ?_) | go_in)
    go_ret
    refine BoolIs.yes (fun m hm => ?_) hb2
    have ha : ApartA kv := HMN.out.eq.1 (by have := HSZ.out; rw [HLK.out]; omega)
    rw [apart_at] at ha
    rw [HKS.out] at ha ⊢
    exact kpA_Ok (n := n3) HKA.out hm (ha m (by rw [HLK.out]; exact hm))
   ·
    have hc1b : (((Maps.size (D) : Int) : Int) == ((n3 : Int) : Int)) = false := by simpa using hc1
    have hc1n : (((Maps.size (D) : Int) : Int) != ((n3 : Int) : Int)) = true := by simpa using hc1
    have HSZ : Hid (¬ (Maps.size D : Int) = (n3 : Int)) := hc1
    have hc1H : Hid (¬ ((Maps.size (D) : Int) = (n3 : Int))) := hc1
    clear hc1
    have hmp := EMmk_2.out
    unfold KnownO at hmp
    go_wp2_with (first | (at_len; refine wpList_len_own _ rfl _ 203 rfl 3 103 Tryz.underlying203 mpR bM nM (D) rfl hmp ?_) | go_in)
    go_ret
    refine BoolIs.no (fun h => ?_) hb2
    have hsz := HSZ.out
    have ha : ApartA kv := apart_at.2 (fun m hm => (h m (by rw [← HLK.out]; exact hm)).2.2.2.2)
    have h2 := HMN.out.eq.2 ha
    rw [HLK.out] at h2
    omega
theorem bansOk_any (VB : Value) (bl : List (Int × ByteArray × ByteArray × Int)) (B : Nat) (w : World) (h : w.ownsRow B 152 4 VB bl.length (flatBan bl)) (hn : bl.length ≤ 1048576) (hz : ∀ x ∈ bl, x.2.1.size ≤ maxLen ∧ x.2.2.1.size ≤ maxLen) :
  Calls Tryz.prog 103 #[VB] w fun e w' => BoolIs (BansP bl) w e w' := by
 obtain ⟨o4, c4, e4⟩ := slice_of_owns h
 subst e4
 obtain ⟨n4, hn4⟩ := exq bl.length
 rw [← hn4] at h ⊢
 have HLB : Hid (bl.length = n4) := hn4.symm
 have bn4 : n4 ≤ 1048576 := by rw [hn4]; exact hn
 have HBN : Hid (∀ W, Below w.heap.size w W → W.ownsRow B 152 4 (.slice o4 n4 c4) n4 (flatBan bl)) := fun W hb => owns_below h hb (fun g hg => owns_lt h hg)
 have HBZ : Hid (∀ x ∈ bl, x.2.1.size ≤ maxLen ∧ x.2.2.1.size ≤ maxLen) := hz
 clear hn4 h hn hz
 have hb0 : Below w.heap.size w w := Below.refl _ _
 go_enter Tryz.func103, Tryz.ntmps103
 go_wp2_with fail
 go_loopw [7] (fun i wr => ∃ j : Nat, j ≤ n4 ∧ i = .int .i64 (j : Int) ∧ Hid (Below w.heap.size w (wr)) ∧ Hid (∀ x ∈ bl.take j, BanP x.1 x.2.1 x.2.2.1 x.2.2.2)) (fun i _ => n4 - (intOf i).toNat)
 case atStart => exact ⟨0, Nat.zero_le _, rfl, hb0, fun x hx => by simp at hx⟩
 case round =>
  obtain ⟨j, hj, rfl, HW, HN⟩ := hrel
  by_cases hlt : (j : Int) < (n4 : Int)
  ·
   have hb1 := HW.out
   clear HW hb0
   have hbn := HBN.out _ hb1
   try rw [HLB.out] at hbn
   have hbv := ban_view hbn
   clear hbn
   obtain ⟨g4, hog, hgl, r1, r2, r3, r4⟩ := hbv.2 j (by first | omega | (rw [HLB.out]; omega))
   clear hbv
   subst hog
   obtain ⟨y, hy⟩ := exq (banAt bl j)
   rw [← hy] at r1 r2 r3 r4
   have HM : Hid (y ∈ bl) := by show _ ∈ _; rw [hy]; exact banAt_mem bl j (by rw [HLB.out]; omega)
   have HTK : Hid (bl.take (j + 1) = bl.take j ++ [y]) := by show _ = _; rw [hy]; exact take_banAt bl j (by rw [HLB.out]; omega)
   clear hy hgl
   obtain ⟨y0, y1, y2, y3⟩ := y
   dsimp only at r1 r2 r3 r4
   go_upto_region 4 with fail
   obtain ⟨qv1, hqv1⟩ := exq ((wr).heap.size)
   obtain ⟨w2, hW2⟩ := exq ((wr).alloc (.cells #[.int .i64 y0, .string y1, .string y2, .int .i64 y3] 152))
   have hz2 : (wr).heap.size = qv1 := hqv1.symm
   first | rw [← hW2, ← hqv1] | rw [← hW2]
   have hs2 := hsa hW2 hz2
   have bw := bal hW2
   have hb2 := hbt hb1 bw
   have HBv1_2 := hnew hW2 hz2
   clear hb1 bw hW2 hz2
   clear hs2 hqv1
   clear r1 r2 r3 r4
   have cv1_0 := (k4c HBv1_2).1
   have cv1_1 := (k4c HBv1_2).2.1
   have cv1_2 := (k4c HBv1_2).2.2.1
   have cv1_3 := (k4c HBv1_2).2.2.2
   go_wp2_with fail
   refine (implBanOk_any y0 y1 y2 y3 _ (HBZ.out _ HM.out).1 (HBZ.out _ HM.out).2).mono ?_
   rintro e w3 ⟨ub, rfl, hub, bw⟩
   have hb3 := hbt hb2 bw
   have HBv1_3 := hblk HBv1_2 bw
   clear hb2 HBv1_2 bw
   clear cv1_0 cv1_1 cv1_2 cv1_3
   cases ub with
   | false =>
    have HNub : Hid (¬ (BanP y0 y1 y2 y3)) := fun h => nomatch hub.2 h
    clear hub
    go_wp2_with fail
    go_ret
    exact BoolIs.no (fun h => HNub.out ((show BansP bl from h).2 _ HM.out)) hb3
   | true =>
    have HYub : Hid (BanP y0 y1 y2 y3) := hub.1 rfl
    clear hub
    have HN2 : Hid (∀ x ∈ bl.take (j + 1), BanP x.1 x.2.1 x.2.2.1 x.2.2.2) := fun x hx => by
     rw [HTK.out] at hx
     rcases List.mem_append.1 hx with hx | hx
     · exact HN.out x hx
     · rw [List.mem_singleton.1 hx]; exact HYub.out
    go_wp2_with fail
    go_roundw
    case rel => exact ⟨j + 1, by omega, by go_num, hb3, HN2⟩
    case measure => simp [intOf]; omega
  ·
   have hb1 := HW.out
   clear HW hb0
   have HAL : Hid (∀ x ∈ bl, BanP x.1 x.2.1 x.2.2.1 x.2.2.2) := fun x hx => HN.out x (by rw [List.take_of_length_le (by rw [HLB.out]; omega)]; exact hx)
   clear HN
   by_cases hc1 : (n4 : Int) ≤ 5
   ·
    have HB5 : Hid (n4 ≤ 5) := (by have := hc1; show _ ≤ _; omega)
    go_wp2_with fail
    go_ret
    exact BoolIs.yes (⟨by rw [HLB.out]; exact HB5.out, HAL.out⟩ : BansP bl) hb1
   ·
    have HB5 : Hid (¬ n4 ≤ 5) := (by have := hc1; show ¬ _; omega)
    go_wp2_with fail
    go_ret
    exact BoolIs.no (fun h => by have h1 : bl.length ≤ 5 := h.1; have h5 := HB5.out; rw [HLB.out] at h1; omega) hb1
theorem implShelfOk_any (v1 v2 V VB : Value) (kv : List (KpD × Value × Value × Value)) (s : ShD) (B : Nat) (w : World) (h : ShelfO w B v1 v2 V VB kv s) (hz : ShSmall s) :
  Calls Tryz.prog 67 #[.agg #[v1, v2, V, VB, .int .i64 s.nx, .int .i64 s.sq]] w fun e w' => BoolIs (ShelfP s) w e w' := by
 obtain ⟨o1, c1, e1⟩ := slice_of_owns h.disk.cells
 obtain ⟨o2, c2, e2⟩ := slice_of_owns h.disk.pend
 obtain ⟨o3, c3, e3⟩ := slice_of_owns h.kept.row
 obtain ⟨o4, c4, e4⟩ := slice_of_owns h.bans
 subst e1 e2 e3 e4
 obtain ⟨n1, hn1⟩ := exq (s.cs.length)
 obtain ⟨n2, hn2⟩ := exq (s.ws.length)
 obtain ⟨n3, hn3⟩ := exq kv.length
 obtain ⟨n4, hn4⟩ := exq (s.bl.length)
 rw [← hn1, ← hn2, ← hn3, ← hn4] at h ⊢
 have HLN : Hid (s.cs.length = n1 ∧ s.ws.length = n2 ∧ kv.length = n3 ∧ s.bl.length = n4) := ⟨hn1.symm, hn2.symm, hn3.symm, hn4.symm⟩
 have HKS : Hid (kv.map (·.1) = s.ks) := h.2
 have HZ : Hid (ShSmall s) := hz
 have bn1 : n1 ≤ 1048576 := by rw [hn1]; exact hz.c
 have bn2 : n2 ≤ 1048576 := by rw [hn2]; exact hz.w
 have bn3 : n3 ≤ 1048576 := by rw [hn3, ← List.length_map (f := (·.1)), h.2]; exact hz.k
 have bn4 : n4 ≤ 1048576 := by rw [hn4]; exact hz.b
 have HSH : Hid (∀ W, Below w.heap.size w W → ShelfO W B (.slice o1 n1 c1) (.slice o2 n2 c2) (.slice o3 n3 c3) (.slice o4 n4 c4) kv s) := fun W hb => h.below hb
 have HKP : Hid (∀ W, Below w.heap.size w W → KeptsO W B (.slice o3 n3 c3) kv) := fun W hb => (h.below hb).kept
 have HLK : Hid (kv.length = n3) := hn3.symm
 clear hn1 hn2 hn3 hn4 h hz
 have hb0 : Below w.heap.size w w := Below.refl _ _
 go_enter Tryz.func67, Tryz.ntmps67
 go_upto_region 1 with fail
 obtain ⟨qv1, hqv1⟩ := exq ((w).heap.size)
 obtain ⟨w1, hW1⟩ := exq ((w).alloc (.cells #[.slice o1 n1 c1, .slice o2 n2 c2, .slice o3 n3 c3, .slice o4 n4 c4, .int .i64 s.nx, .int .i64 s.sq] 53))
 have hz1 : (w).heap.size = qv1 := hqv1.symm
 first | rw [← hW1, ← hqv1] | rw [← hW1]
 have hs1 := hsa hW1 hz1
 have bw := bal hW1
 have hb1 := hbt hb0 bw
 have HBv1_1 := hnew hW1 hz1
 clear hb0 bw hW1 hz1
 clear hs1 hqv1
 have cv1_0 := (k6c HBv1_1).1
 have cv1_1 := (k6c HBv1_1).2.1
 go_wp2_with fail
 refine (implDiskOk_any _ _ n1 s.cs n2 s.ws B _ (by have hd := (HSH.out _ hb1).disk; rw [HLN.out.1, HLN.out.2.1] at hd; exact hd) (by omega) (by omega)).mono ?_
 rintro e w2 ⟨ud, rfl, hud, bw⟩
 have hb2 := hbt hb1 bw
 have HBv1_2 := hblk HBv1_1 bw
 clear hb1 HBv1_1 bw
 clear cv1_0 cv1_1
 cases ud with
 | false =>
  have HNud : Hid (¬ (DiskP s.cs s.ws)) := fun h => nomatch hud.2 h
  clear hud
  go_wp2_with fail
  go_ret
  exact BoolIs.no (fun h => HNud.out h.1) hb2
 | true =>
  have HYud : Hid (DiskP s.cs s.ws) := hud.1 rfl
  clear hud
  have cv1_4 := (k6c HBv1_2).2.2.2.2.1
  go_wp2_with fail
  refine (isObjectCell_any s.nx _).mono ?_
  rintro e w3 ⟨unx, rfl, hunx, bw⟩
  have hb3 := hbt hb2 bw
  have HBv1_3 := hblk HBv1_2 bw
  clear hb2 HBv1_2 bw
  clear cv1_4
  cases unx with
  | false =>
   have HNunx : Hid (¬ (5 ≤ s.nx ∧ s.nx ≤ 19)) := fun h => nomatch hunx.2 h
   clear hunx
   go_wp2_with fail
   go_ret
   exact BoolIs.no (fun h => HNunx.out h.2.2.1) hb3
  | true =>
   have HYunx : Hid (5 ≤ s.nx ∧ s.nx ≤ 19) := hunx.1 rfl
   clear hunx
   by_cases hc1 : s.sq < 1
   ·
    have HQ1 : Hid (s.sq < 1) := hc1
    have cv1_5 := (k6c HBv1_3).2.2.2.2.2
    go_wp2_with fail
    go_ret
    exact BoolIs.no (fun h => by have h1 := HQ1.out; have h2 := h.2.2.2.1; omega) hb3
   ·
    have HQ1 : Hid (¬ s.sq < 1) := hc1
    have cv1_5 := (k6c HBv1_3).2.2.2.2.2
    by_cases hc2 : 100000 < s.sq
    ·
     have HQ2 : Hid (100000 < s.sq) := hc2
     go_wp2_with fail
     go_ret
     exact BoolIs.no (fun h => by have h1 := HQ2.out; have h2 := h.2.2.2.1; omega) hb3
    ·
     have HQ2 : Hid (¬ 100000 < s.sq) := hc2
     have cv1_2 := (k6c HBv1_3).2.2.1
     go_wp2_with fail
     refine (keptOk_any _ kv s.sq B _ (HKP.out _ hb3) (by rw [HLK.out]; exact bn3) (fun x hx => HZ.out.kv HKS.out hx)).mono ?_
     rintro e w4 ⟨uk, rfl, huk, bw⟩
     have hb4 := hbt hb3 bw
     have HBv1_4 := hblk HBv1_3 bw
     clear hb3 HBv1_3 bw
     clear cv1_5 cv1_2
     cases uk with
     | false =>
      have HNuk : Hid (¬ (∀ m, m < kv.length → KpOk (kv.map (·.1)) s.sq m)) := fun h => nomatch huk.2 h
      clear huk
      go_wp2_with fail
      go_ret
      exact BoolIs.no (fun h => HNuk.out (fun m hm => by rw [HKS.out]; exact h.2.2.2.2.2 m (by rw [← HKS.out, List.length_map]; exact hm))) hb4
     | true =>
      have HYuk : Hid (∀ m, m < kv.length → KpOk (kv.map (·.1)) s.sq m) := huk.1 rfl
      clear huk
      have cv1_3 := (k6c HBv1_4).2.2.2.1
      go_wp2_with fail
      refine (bansOk_any _ s.bl B _ (by have hd := (HSH.out _ hb4).bans; exact hd) HZ.out.b HZ.out.bm).mono ?_
      rintro e w5 ⟨ub, rfl, hub, bw⟩
      have hb5 := hbt hb4 bw
      have HBv1_5 := hblk HBv1_4 bw
      clear hb4 HBv1_4 bw
      clear cv1_3
      cases ub with
      | false =>
       have HNub : Hid (¬ (BansP s.bl)) := fun h => nomatch hub.2 h
       clear hub
       go_wp2_with fail
       go_ret
       exact BoolIs.no (fun h => HNub.out ⟨h.2.1, h.2.2.2.2.1⟩) hb5
      | true =>
       have HYub : Hid (BansP s.bl) := hub.1 rfl
       clear hub
       go_wp2_with fail
       go_ret
       exact BoolIs.yes ⟨HYud.out, HYub.out.1, HYunx.out, ⟨by have := HQ1.out; omega, by have := HQ2.out; omega⟩, HYub.out.2, fun i hi => by have hk := HYuk.out; rw [HKS.out] at hk; exact hk i (by rw [← HKS.out, List.length_map] at hi; exact hi)⟩ hb5
end Go.Proofs.YtbmhonfgffjpcaaGreat
namespace Go.Proofs.YtbmhonfgffjpcaaGreat
open Go.RowKit
open Go.Lib hiding intOf
theorem FlsO.cap {w : World} {B : Nat} {o : Option Addr} {n c : Nat} {fv : List FlV} (h : FlsO w B (.slice o n c) fv) : n ≤ c := by
 rcases h.row.2 with ⟨h1, _⟩ | ⟨g, cap, cur, h1, _, _, h2, _⟩
 ·
  injection h1 with _ h3 _
  omega
 ·
  injection h1 with _ h3 h4
  omega
theorem flightsOk_any (V : Value) (fv : List FlV) (fl : List FlD) (B : Nat) (w : World) (h : FlsO w B V fv) (hfd : fv.map (·.d) = fl) (hs : ∀ x ∈ fv, FlSmall x.d) (hn : fv.length ≤ 1048576) :
  Calls Tryz.prog 69 #[V] w fun e w' => BoolIs (FlsP fl) w e w' := by
 obtain ⟨o5, c5, rfl⟩ := h.len
 obtain ⟨n5, hn5⟩ := exq fv.length
 rw [← hn5] at h hn ⊢
 have HLF : Hid (fv.length = n5) := hn5.symm
 have HLC : Hid (fl.length = n5) := by show _ = _; rw [← hfd, List.length_map, hn5]
 have HFD : Hid (fv.map (·.d) = fl) := hfd
 have HFS : Hid (∀ x ∈ fv, FlSmall x.d) := hs
 have HFL : Hid (∀ W, Below w.heap.size w W → FlsO W B (.slice o5 n5 c5) fv) := fun W hb => h.below hb
 clear hn5 h hfd hs
 have hb0 : Below w.heap.size w w := Below.refl _ _
 go_enter Tryz.func69, Tryz.ntmps69
 by_cases hc1 : 5 < (n5 : Int)
 ·
  have Hf5 : Hid (¬ n5 ≤ 5) := (by have := hc1; show ¬ _; omega)
  go_wp2_with fail
  go_ret
  exact BoolIs.no (fun h => by have h1 := h.1; have h5 := Hf5.out; rw [HLC.out] at h1; omega) hb0
 ·
  have Hf5 : Hid (n5 ≤ 5) := (by have := hc1; show _ ≤ _; omega)
  go_wp2_with fail
  go_loopw [10] (fun i wr => ∃ i' : Nat, i' ≤ n5 ∧ i = .int .i64 (i' : Int) ∧ Hid (Below w.heap.size w (wr)) ∧ Hid (∀ m, m < i' → FlAtOk fl m)) (fun i _ => n5 - (intOf i).toNat)
  case atStart => exact ⟨0, Nat.zero_le _, rfl, hb0, fun m hm => absurd hm (by omega)⟩
  case round =>
   obtain ⟨i, hi, rfl, HW, HN⟩ := hrel
   by_cases hlt : (i : Int) < (n5 : Int)
   ·
    have hb1 := HW.out
    clear HW hb0
    obtain ⟨g5, p5, hV, _, _⟩ := (HFL.out _ hb1).look i (by rw [HLF.out]; omega)
    rw [HLF.out] at hV
    injection hV with hV1 hV2 hV3
    subst hV1 hV3
    clear hV2
    obtain ⟨dX, hdX⟩ := exq (flvAt fv i)
    have HMd : Hid (dX ∈ fv) := by show _ ∈ _; rw [hdX]; exact getD_mem0 _ fv i (by rw [HLF.out]; omega)
    have HEd : Hid (flAt fl i = dX.d) := by show _ = _; rw [hdX, ← HFD.out]; exact getD_map0 _ _ _ fv i (by rw [HLF.out]; omega)
    have HKd : Hid (∀ W, Below w.heap.size w W → FlAt W g5 i dX) := fun W hb => by
     obtain ⟨g', p', hV, _, hc⟩ := (HFL.out W hb).look i (by rw [HLF.out]; omega)
     injection hV with hV1 _ _
     cases hV1
     rw [hdX]
     exact hc
    have HRd : Hid (∀ W, Below w.heap.size w W → RowsO W B (flR dX)) := fun W hb => (HFL.out W hb).item HMd.out
    have HSd : Hid (FlSmall dX.d) := HFS.out _ HMd.out
    clear hdX
    obtain ⟨d, kuv2, kuv4, kuv6, kuv7, kuv9⟩ := dX
    obtain ⟨ku2, kuc2, hu⟩ := slice_of_owns ((HRd.out _ hb1).own (⟨171, 2, kuv2, d.qfs.length, flatF d.qfs⟩ : Rw) (by simp [flR]))
    obtain rfl : kuv2 = .slice ku2 d.qfs.length kuc2 := hu
    obtain ⟨ku4, kuc4, hu⟩ := slice_of_owns ((HRd.out _ hb1).own (⟨3, 1, kuv4, d.who.length, d.who.map (Value.int .i64)⟩ : Rw) (by simp [flR]))
    obtain rfl : kuv4 = .slice ku4 d.who.length kuc4 := hu
    obtain ⟨ku6, kuc6, hu⟩ := slice_of_owns ((HRd.out _ hb1).own (⟨9, 1, kuv6, d.oxs.length, d.oxs.map Value.string⟩ : Rw) (by simp [flR]))
    obtain rfl : kuv6 = .slice ku6 d.oxs.length kuc6 := hu
    obtain ⟨ku7, kuc7, hu⟩ := slice_of_owns ((HRd.out _ hb1).own (⟨9, 1, kuv7, d.oys.length, d.oys.map Value.string⟩ : Rw) (by simp [flR]))
    obtain rfl : kuv7 = .slice ku7 d.oys.length kuc7 := hu
    obtain ⟨ku9, kuc9, hu⟩ := slice_of_owns ((HRd.out _ hb1).own (⟨171, 2, kuv9, d.ofs.length, flatF d.ofs⟩ : Rw) (by simp [flR]))
    obtain rfl : kuv9 = .slice ku9 d.ofs.length kuc9 := hu
    have r0d := (HKd.out _ hb1).c0
    have r1d := (HKd.out _ hb1).c1
    have r2d := (HKd.out _ hb1).c2
    have r3d := (HKd.out _ hb1).c3
    have r4d := (HKd.out _ hb1).c4
    have r5d := (HKd.out _ hb1).c5
    have r6d := (HKd.out _ hb1).c6
    have r7d := (HKd.out _ hb1).c7
    have r8d := (HKd.out _ hb1).c8
    have r9d := (HKd.out _ hb1).c9
    have r10d := (HKd.out _ hb1).c10
    have r11d := (HKd.out _ hb1).c11
    have r12d := (HKd.out _ hb1).c12
    dsimp only at r0d r1d r2d r3d r4d r5d r6d r7d r8d r9d r10d r11d r12d
    have hcp := FlsO.cap (HFL.out _ hb1)
    have hic : i ≤ c5 := by omega
    have hic2 : ¬ (c5 < i) := by omega
    clear hcp
    go_upto_region 6 with fail
    obtain ⟨qv1, hqv1⟩ := exq ((wr).heap.size)
    obtain ⟨w2, hW2⟩ := exq ((wr).alloc (.cells #[.int .i64 d.qmt, .string d.qpa, .slice ku2 d.qfs.length kuc2, .string d.qbd, .slice ku4 d.who.length kuc4, .string d.opa, .slice ku6 d.oxs.length kuc6, .slice ku7 d.oys.length kuc7, .int .i64 d.ost, .slice ku9 d.ofs.length kuc9, .string d.obd, .int .i64 d.otm, .bool d.has] 129))
    have hz2 : (wr).heap.size = qv1 := hqv1.symm
    first | rw [← hW2, ← hqv1] | rw [← hW2]
    have hs2 := hsa hW2 hz2
    have bw := bal hW2
    have hb2 := hbt hb1 bw
    have HBv1_2 := hnew hW2 hz2
    clear hb1 bw hW2 hz2
    clear hs2 hqv1
    clear r0d r1d r2d r3d r4d r5d r6d r7d r8d r9d r10d r11d r12d
    go_upto_region 6 with fail
    refine wp_region_held_drew (S := fun W => W.heap[qv1]? = some (.cells #[.int .i64 d.qmt, .string d.qpa, .slice ku2 d.qfs.length kuc2, .string d.qbd, .slice ku4 d.who.length kuc4, .string d.opa, .slice ku6 d.oxs.length kuc6, .slice ku7 d.oys.length kuc7, .int .i64 d.ost, .slice ku9 d.ofs.length kuc9, .string d.obd, .int .i64 d.otm, .bool d.has] 129)) (by kernel_rfl) HBv1_2.out (fun _ => ?_)
    obtain ⟨w3, hX⟩ := exq w2.drew
    have bw := bdr hX
    rw [← hX]
    have hb3 := hbt hb2 bw
    have HBv1_3 := hblk HBv1_2 bw
    have hS3 := HBv1_3.out
    clear hb2 HBv1_2 bw hX
    refine tkL 0 (.agg #[.int .i64 d.qmt, .string d.qpa, .slice ku2 d.qfs.length kuc2, .string d.qbd, .slice ku4 d.who.length kuc4, .string d.opa, .slice ku6 d.oxs.length kuc6, .slice ku7 d.oys.length kuc7, .int .i64 d.ost, .slice ku9 d.ofs.length kuc9, .string d.obd, .int .i64 d.otm, .bool d.has]) 15 rfl rfl (Or.inl ⟨by rfl, by intro W hW; have hhv1 := hW; have y0 := (cell_of hhv1 0).trans rfl; have y1 := (cell_of hhv1 1).trans rfl; have y2 := (cell_of hhv1 2).trans rfl; have y3 := (cell_of hhv1 3).trans rfl; have y4 := (cell_of hhv1 4).trans rfl; have y5 := (cell_of hhv1 5).trans rfl; have y6 := (cell_of hhv1 6).trans rfl; have y7 := (cell_of hhv1 7).trans rfl; have y8 := (cell_of hhv1 8).trans rfl; have y9 := (cell_of hhv1 9).trans rfl; have y10 := (cell_of hhv1 10).trans rfl; have y11 := (cell_of hhv1 11).trans rfl; have y12 := (cell_of hhv1 12).trans rfl; go_simp⟩) hS3 ?_
    go_frame
    refine rd1 1 rfl (fun K hK => ?_)
    go_simp
    refine (flightOk_any d _ _ _ _ _ B _ (HRd.out _ hb3) HSd.out).mono ?_
    rintro e w4 ⟨uf, rfl, huf, bw⟩
    have hb4 := hbt hb3 bw
    have HBv1_4 := hblk HBv1_3 bw
    clear hb3 HBv1_3 bw
    have hS4 := HBv1_4.out
    refine hK.out _ _ hS4 (fun _ => ?_)
    clear hK K hS3
    cases uf with
    | false =>
     have HNuf : Hid (¬ (FlOk d)) := fun h => nomatch huf.2 h
     clear huf
     refine tkP 2 (.bool true) 17 rfl rfl hS4 ?_
     go_frame
     refine tkP 3 (.bool true) 18 rfl rfl hS4 ?_
     go_frame
     refine tkN 4 19 rfl rfl hS4 ?_
     go_frame
     refine tkN 5 20 rfl rfl hS4 ?_
     go_frame
     refine tkN 6 21 rfl rfl hS4 ?_
     go_frame
     refine tkN 7 22 rfl rfl hS4 ?_
     go_frame
     refine tkN 8 23 rfl rfl hS4 ?_
     go_frame
     refine tkN 9 24 rfl rfl hS4 ?_
     go_frame
     refine tkN 10 25 rfl rfl hS4 ?_
     go_frame
     refine tkP 11 (.bool true) 26 rfl rfl hS4 ?_
     go_frame
     clear hS4
     refine wpAnyH_done (by kernel_rfl) ?_ _
     go_wp2_with fail
     go_ret
     exact BoolIs.no (fun h => by have hk := h.2 i (by rw [HLC.out]; omega); unfold FlAtOk at hk; rw [HEd.out] at hk; exact HNuf.out hk.1) hb4
    | true =>
     have HYuf : Hid (FlOk d) := huf.1 rfl
     clear huf
     refine tkP 2 (.bool false) 17 rfl rfl hS4 ?_
     go_frame
     refine tkP 3 (.bool false) 18 rfl rfl hS4 ?_
     go_frame
     refine tkP 4 (.slice (some ⟨g5, 0, none⟩) n5 c5) 19 rfl rfl hS4 ?_
     go_frame
     refine tkP 5 (.int .i64 (i : Int)) 20 rfl rfl hS4 ?_
     go_frame
     refine tkP 6 (.slice (some ⟨g5, 0, none⟩) i c5) 21 rfl rfl hS4 ?_
     go_frame
     refine tkP 7 (.pointer (some ⟨qv1, 0, none⟩)) 22 rfl rfl hS4 ?_
     go_frame
     refine tkL 8 (.agg #[.int .i64 d.qmt, .string d.qpa, .slice ku2 d.qfs.length kuc2, .string d.qbd]) 23 rfl rfl (Or.inl ⟨by rfl, by intro W hW; have hhv1 := hW; have y0 := (cell_of hhv1 0).trans rfl; have y1 := (cell_of hhv1 1).trans rfl; have y2 := (cell_of hhv1 2).trans rfl; have y3 := (cell_of hhv1 3).trans rfl; go_simp⟩) hS4 ?_
     go_frame
     refine rd1 9 rfl (fun K hK => ?_)
     go_simp
     refine (alikePlace_any (.slice (some ⟨g5, 0, none⟩) n5 c5) fv fl _ i c5 d _ _ _ _ _ B B _ ⟨c5, by rw [HLF.out]⟩ (HFL.out _ hb4) HFD.out HFS.out (by rw [HLF.out]; omega) (by omega) (HRd.out _ hb4) HSd.out).mono ?_
     rintro e w5 ⟨rp, rfl, hrp, bw⟩
     have HRP : Hid (0 ≤ rp ↔ ∃ k, k < i ∧ AlikeF (flAt fl k) d) := hrp
     clear hrp
     have hb5 := hbt hb4 bw
     have HBv1_5 := hblk HBv1_4 bw
     clear hb4 HBv1_4 bw
     have hS5 := HBv1_5.out
     refine hK.out _ _ hS5 (fun _ => ?_)
     clear hK K hS4
     by_cases hc2 : 0 ≤ rp
     ·
      have HAL : Hid (0 ≤ rp) := hc2
      refine tkP 10 (.bool true) 25 rfl rfl hS5 ?_
      go_frame
      refine tkP 11 (.bool true) 26 rfl rfl hS5 ?_
      go_frame
      clear hS5
      refine wpAnyH_done (by kernel_rfl) ?_ _
      go_wp2_with fail
      go_ret
      exact BoolIs.no (fun h => by have hk := h.2 i (by rw [HLC.out]; omega); unfold FlAtOk at hk; rw [HEd.out] at hk; obtain ⟨k, hk2, hA⟩ := HRP.out.1 HAL.out; exact hk.2 k hk2 hA) hb5
     ·
      have HAL : Hid (¬ (0 ≤ rp)) := hc2
      refine tkP 10 (.bool false) 25 rfl rfl hS5 ?_
      go_frame
      refine tkP 11 (.bool false) 26 rfl rfl hS5 ?_
      go_frame
      clear hS5
      refine wpAnyH_done (by kernel_rfl) ?_ _
      have HN2 : Hid (∀ m, m < i + 1 → FlAtOk fl m) := fun m hm => by
       by_cases e : m = i
       ·
        subst e
        unfold FlAtOk
        rw [HEd.out]
        exact ⟨HYuf.out, fun k hk hA => HAL.out (HRP.out.2 ⟨k, hk, hA⟩)⟩
       · exact HN.out m (by omega)
      go_wp2_with fail
      go_roundw
      case rel => exact ⟨i + 1, by omega, by go_num, hb5, HN2⟩
      case measure => simp [intOf]; omega
   ·
    have hb1 := HW.out
    clear HW hb0
    have HFA : Hid (∀ m, m < fl.length → FlAtOk fl m) := fun m hm => HN.out m (by rw [HLC.out] at hm; omega)
    clear HN
    go_wp2_with fail
    go_ret
    exact BoolIs.yes ⟨by rw [HLC.out]; exact Hf5.out, HFA.out⟩ hb1
theorem implCacheOk_any (v1 v2 V VB F E R : Value) (kv : List (KpD × Value × Value × Value)) (fv : List FlV) (ev : List SeV) (rv : List RpV) (c : CaD) (B : Nat) (w : World) (h : CacheO w B v1 v2 V VB F E R kv fv ev rv c) (hz : CaSmall c) :
  Calls Tryz.prog 33 #[.agg #[v1, v2, V, VB, .int .i64 c.s.nx, .int .i64 c.s.sq, F, .int .i64 c.now, E, R]] w fun e w' => BoolIs (CacheP c) w e w' := by
 obtain ⟨o1, c1, rfl⟩ := slice_of_owns h.shelf.disk.cells
 obtain ⟨o2, c2, rfl⟩ := slice_of_owns h.shelf.disk.pend
 obtain ⟨o3, c3, rfl⟩ := h.shelf.kept.len
 obtain ⟨o4, c4, rfl⟩ := slice_of_owns h.shelf.bans
 obtain ⟨o5, c5, rfl⟩ := h.fls.len
 obtain ⟨o6, c6, rfl⟩ := h.ses.len
 obtain ⟨o7, c7, rfl⟩ := h.rps.len
 obtain ⟨n5, hn5⟩ := exq fv.length
 obtain ⟨n6, hn6⟩ := exq ev.length
 obtain ⟨n7, hn7⟩ := exq rv.length
 rw [← hn5, ← hn6, ← hn7] at h ⊢
 have HLF : Hid (fv.length = n5) := hn5.symm
 have HLC : Hid (c.fl.length = n5 ∧ c.se.length = n6 ∧ c.sn.length = n7) := ⟨by rw [← h.hf, List.length_map, hn5], by rw [← h.he, List.length_map, hn6], by rw [← h.hr, List.length_map, hn7]⟩
 have HFD : Hid (fv.map (·.d) = c.fl) := h.hf
 have HZ : Hid (CaSmall c) := hz
 have bn5 : n5 ≤ 1048576 := by rw [← HLC.out.1]; exact hz.nf
 have bn6 : n6 ≤ 1048576 := by rw [← HLC.out.2.1]; exact hz.ne
 have bn7 : n7 ≤ 1048576 := by rw [← HLC.out.2.2]; exact hz.nr
 have HCA : Hid (∀ W, Below w.heap.size w W → CacheO W B (.slice o1 c.s.cs.length c1) (.slice o2 c.s.ws.length c2) (.slice o3 kv.length c3) (.slice o4 c.s.bl.length c4) (.slice o5 n5 c5) (.slice o6 n6 c6) (.slice o7 n7 c7) kv fv ev rv c) := fun W hb => h.below hb
 clear hn5 hn6 hn7 h hz
 have HFL : Hid (∀ W, Below w.heap.size w W → FlsO W B (.slice o5 n5 c5) fv) := fun W hb => (HCA.out W hb).fls
 have HFS : Hid (∀ x ∈ fv, FlSmall x.d) := fun x hx => HZ.out.fl _ (by rw [← HFD.out]; exact List.mem_map.2 ⟨x, hx, rfl⟩)
 have hb0 : Below w.heap.size w w := Below.refl _ _
 go_enter Tryz.func33, Tryz.ntmps33
 go_upto_region 1 with fail
 obtain ⟨qv1, hqv1⟩ := exq ((w).heap.size)
 obtain ⟨w1, hW1⟩ := exq ((w).alloc (.cells #[.slice o1 c.s.cs.length c1, .slice o2 c.s.ws.length c2, .slice o3 kv.length c3, .slice o4 c.s.bl.length c4, .int .i64 c.s.nx, .int .i64 c.s.sq, .slice o5 n5 c5, .int .i64 c.now, .slice o6 n6 c6, .slice o7 n7 c7] 58))
 have hz1 : (w).heap.size = qv1 := hqv1.symm
 first | rw [← hW1, ← hqv1] | rw [← hW1]
 have hs1 := hsa hW1 hz1
 have bw := bal hW1
 have hb1 := hbt hb0 bw
 have HBv1_1 := hnew hW1 hz1
 clear hb0 bw hW1 hz1
 clear hs1 hqv1
 have cv1_0 := (k10c HBv1_1).1
 have cv1_1 := (k10c HBv1_1).2.1
 have cv1_2 := (k10c HBv1_1).2.2.1
 have cv1_3 := (k10c HBv1_1).2.2.2.1
 have cv1_4 := (k10c HBv1_1).2.2.2.2.1
 have cv1_5 := (k10c HBv1_1).2.2.2.2.2.1
 go_wp2_with fail
 refine (implShelfOk_any _ _ _ _ kv c.s B _ (HCA.out _ hb1).shelf HZ.out.s).mono ?_
 rintro e w2 ⟨us, rfl, hus, bw⟩
 have hb2 := hbt hb1 bw
 have HBv1_2 := hblk HBv1_1 bw
 clear hb1 HBv1_1 bw
 clear cv1_0 cv1_1 cv1_2 cv1_3 cv1_4 cv1_5
 cases us with
 | false =>
  have HNus : Hid (¬ (ShelfP c.s)) := fun h => nomatch hus.2 h
  clear hus
  go_wp2_with fail
  go_ret
  exact BoolIs.no (fun h => HNus.out h.1) hb2
 | true =>
  have HYus : Hid (ShelfP c.s) := hus.1 rfl
  clear hus
  have cv1_7 := (k10c HBv1_2).2.2.2.2.2.2.2.1
  go_wp2_with fail
  refine (timeOk_any c.now _).mono ?_
  rintro e w3 ⟨rfl, hwe⟩
  have bw : Below (w2).heap.size (w2) w3 := by rw [hwe]; exact Below.refl _ _
  clear hwe
  obtain ⟨un, hun⟩ : ∃ u, u = decide ((0 : Int) ≤ c.now ∧ c.now ≤ 1000000) := ⟨_, rfl⟩
  rw [← hun]
  have hb3 := hbt hb2 bw
  have HBv1_3 := hblk HBv1_2 bw
  clear hb2 HBv1_2 bw
  clear cv1_7
  cases un with
  | false =>
   have HNun : Hid (¬ ((0 : Int) ≤ c.now ∧ c.now ≤ 1000000)) := (show ¬ ((0 : Int) ≤ c.now ∧ c.now ≤ 1000000) from of_decide_eq_false hun.symm)
   clear hun
   go_wp2_with fail
   go_ret
   exact BoolIs.no (fun h => HNun.out h.2.1) hb3
  | true =>
   have HYun : Hid ((0 : Int) ≤ c.now ∧ c.now ≤ 1000000) := (show ((0 : Int) ≤ c.now ∧ c.now ≤ 1000000) from of_decide_eq_true hun.symm)
   clear hun
   have cv1_6 := (k10c HBv1_3).2.2.2.2.2.2.1
   go_wp2_with fail
   refine (flightsOk_any _ fv c.fl B _ (HFL.out _ hb3) HFD.out HFS.out (by rw [HLF.out]; omega)).mono ?_
   rintro e w4 ⟨uf, rfl, huf, bw⟩
   have hb4 := hbt hb3 bw
   have HBv1_4 := hblk HBv1_3 bw
   clear hb3 HBv1_3 bw
   clear cv1_6
   cases uf with
   | false =>
    have HNuf : Hid (¬ (FlsP c.fl)) := fun h => nomatch huf.2 h
    clear huf
    go_wp2_with fail
    go_ret
    exact BoolIs.no (fun h => HNuf.out h.2.2.1) hb4
   | true =>
    have HYuf : Hid (FlsP c.fl) := huf.1 rfl
    clear huf
    by_cases hc1 : (n6 : Int) ≤ 1500
    ·
     have hde5 : decide ((n6 : Int) ≤ 1500) = true := decide_eq_true hc1
     have He5 : Hid (n6 ≤ 1500) := (by have := hc1; show _ ≤ _; omega)
     have cv1_8 := (k10c HBv1_4).2.2.2.2.2.2.2.2.1
     have cv1_9 := (k10c HBv1_4).2.2.2.2.2.2.2.2.2
     by_cases hc2 : (n7 : Int) ≤ 1500
     ·
      have hdr5 : decide ((n7 : Int) ≤ 1500) = true := decide_eq_true hc2
      have Hr5 : Hid (n7 ≤ 1500) := (by have := hc2; show _ ≤ _; omega)
      go_wp2_with fail
      go_ret
      exact BoolIs.yes ⟨HYus.out, HYun.out, HYuf.out, by rw [HLC.out.2.1]; exact He5.out, by rw [HLC.out.2.2]; exact Hr5.out⟩ hb4
     ·
      have hdr5 : decide ((n7 : Int) ≤ 1500) = false := decide_eq_false hc2
      have Hr5 : Hid (¬ n7 ≤ 1500) := (by have := hc2; show ¬ _; omega)
      go_wp2_with fail
      go_ret
      exact BoolIs.no (fun h => by have h1 := h.2.2.2.2; have h5 := Hr5.out; rw [HLC.out.2.2] at h1; omega) hb4
    ·
     have hde5 : decide ((n6 : Int) ≤ 1500) = false := decide_eq_false hc1
     have He5 : Hid (¬ n6 ≤ 1500) := (by have := hc1; show ¬ _; omega)
     have cv1_8 := (k10c HBv1_4).2.2.2.2.2.2.2.2.1
     go_wp2_with fail
     go_ret
     exact BoolIs.no (fun h => by have h1 := h.2.2.2.1; have h5 := He5.out; rw [HLC.out.2.1] at h1; omega) hb4
end Go.Proofs.YtbmhonfgffjpcaaGreat
