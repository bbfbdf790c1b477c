/- ReplyText: at every argument the program answers as the specification (the law answers true), and it writes into no argument: no condition. The card lists the tables that strconv.Itoa's text names. -/
import Derived.Test.YtopeegjmpphjnaaDoorFnExactReplyTextB
import Derived.Test.YtopeegjmpphjnaaDoorTie
import Derived.Test.YtopeegjmpphjnaaDoorCards
import Derived.Below
import Derived.ChangeOld
import Derived.ShutString
import Derived.Deep.RegionHeld3
import Derived.Deep.DrawnRows
import Derived.Deep.CutRange
import Derived.Deep.DeepCutAuto
namespace Go.Proofs.YtopeegjmpphjnaaDoor
namespace fnExactReplyText
open Go.ChangeShapes Go.WideShapes Go.ChangeAt Go.RowKit
open Go.ChangeMaps (open_string shut_string)
attribute [local go_sem ↓] Go.wp_at_zero Go.wp_at_succ

theorem own : ownKnob Tryd.prog.godebug = none := by kernel_rfl
theorem laidOut : laidOutB Tryd.prog = true := by kernel_rfl

open Go.Lib hiding intOf
set_option maxHeartbeats 16000000 in
set_option maxRecDepth 100000 in
theorem walk1 (w : World) (ra : RpD) (rb3 : Option Addr) (re3 : Nat) (rb6 : Option Addr) (re6 : Nat) (rb11 : Option Addr) (re11 : Nat) (rb12 : Option Addr) (re12 : Nat) (rb14 : Option Addr) (re14 : Nat) (k3 : ArgF w w.heap.size rb3 ra.qfs.length ra.qfs) (k6 : ArgF w w.heap.size rb6 ra.rfs.length ra.rfs) (k11 : ArgT w w.heap.size rb11 ra.oxs.length ra.oxs) (k12 : ArgT w w.heap.size rb12 ra.oys.length ra.oys) (k14 : ArgF w w.heap.size rb14 ra.ofs.length ra.ofs) (hmr : RpMax ra) (hT : TabOk w) :
    Calls Tryd.prog 3 #[.agg #[.int .i64 ra.cli, .int .i64 ra.qmt, .string ra.qpa, .slice rb3 ra.qfs.length re3, .string ra.qbd, .int .i64 ra.rst, .slice rb6 ra.rfs.length re6, .string ra.rbd, .int .i64 ra.knd, .int .i64 ra.tim, .string ra.opa, .slice rb11 ra.oxs.length re11, .slice rb12 ra.oys.length re12, .int .i64 ra.ost, .slice rb14 ra.ofs.length re14, .string ra.obd, .int .i64 ra.otm, .int .i64 ra.bns]] w fun e w' => e = .returned (.bool true) ∧ Below w.heap.size w w' := by
  have HK3 : Hid (∀ W, Below w.heap.size w W → ArgF W w.heap.size rb3 ra.qfs.length ra.qfs) := fun W h => k3.below h
  have HK6 : Hid (∀ W, Below w.heap.size w W → ArgF W w.heap.size rb6 ra.rfs.length ra.rfs) := fun W h => k6.below h
  have HK11 : Hid (∀ W, Below w.heap.size w W → ArgT W w.heap.size rb11 ra.oxs.length ra.oxs) := fun W h => k11.below h
  have HK12 : Hid (∀ W, Below w.heap.size w W → ArgT W w.heap.size rb12 ra.oys.length ra.oys) := fun W h => k12.below h
  have HK14 : Hid (∀ W, Below w.heap.size w W → ArgF W w.heap.size rb14 ra.ofs.length ra.ofs) := fun W h => k14.below h
  have HMR : Hid (RpMax ra) := hmr
  clear k3 k6 k11 k12 k14 hmr
  have HT : Hid (∀ W, Below w.heap.size w W → TabOk W) := fun W h => hT.below h
  clear hT
  have hb0 : Below w.heap.size w w := Below.refl _ _
  go_enter Tryd.func3, Tryd.ntmps3
  go_upto_region 1 with fail
  obtain ⟨qv1, hqv1⟩ : ∃ q, q = (w).heap.size := ⟨_, rfl⟩
  obtain ⟨w1, hW1⟩ : ∃ W, W = (w).alloc (.cells #[.int .i64 ra.cli, .int .i64 ra.qmt, .string ra.qpa, .slice rb3 ra.qfs.length re3, .string ra.qbd, .int .i64 ra.rst, .slice rb6 ra.rfs.length re6, .string ra.rbd, .int .i64 ra.knd, .int .i64 ra.tim, .string ra.opa, .slice rb11 ra.oxs.length re11, .slice rb12 ra.oys.length re12, .int .i64 ra.ost, .slice rb14 ra.ofs.length re14, .string ra.obd, .int .i64 ra.otm, .int .i64 ra.bns] 31) := ⟨_, rfl⟩
  have hz1 : (w).heap.size = qv1 := hqv1.symm
  first | rw [← hW1, ← hqv1] | rw [← hW1]
  have hs1 : w1.heap.size = qv1 + 1 := by rw [hW1, ← hz1]; simp
  have bw : Below (w).heap.size (w) w1 := by rw [hW1]; exact (Below.refl _ _).alloc (Nat.le_refl _) _
  have hb1 : Below w.heap.size w (w1) := hb0.trans (bw.mono hb0.size)
  have HBv1_1 : Hid ((w1).heap[qv1]? = some (.cells #[.int .i64 ra.cli, .int .i64 ra.qmt, .string ra.qpa, .slice rb3 ra.qfs.length re3, .string ra.qbd, .int .i64 ra.rst, .slice rb6 ra.rfs.length re6, .string ra.rbd, .int .i64 ra.knd, .int .i64 ra.tim, .string ra.opa, .slice rb11 ra.oxs.length re11, .slice rb12 ra.oys.length re12, .int .i64 ra.ost, .slice rb14 ra.ofs.length re14, .string ra.obd, .int .i64 ra.otm, .int .i64 ra.bns] 31)) := by show _ = _; rw [hW1, ← hz1]; exact heap_alloc_new _ _
  clear hb0 bw hW1 hz1
  clear hs1 hqv1
  have HRGv1 : World.rangeAt (w1) qv1 0 [.int .i64 ra.cli, .int .i64 ra.qmt, .string ra.qpa, .slice rb3 ra.qfs.length re3, .string ra.qbd, .int .i64 ra.rst, .slice rb6 ra.rfs.length re6, .string ra.rbd, .int .i64 ra.knd, .int .i64 ra.tim, .string ra.opa, .slice rb11 ra.oxs.length re11, .slice rb12 ra.oys.length re12, .int .i64 ra.ost, .slice rb14 ra.ofs.length re14, .string ra.obd, .int .i64 ra.otm, .int .i64 ra.bns] := range_of HBv1_1.out
  have HIFv1 : (Tryd.prog.info? 31).map (·.size) = some 18 := by kernel_rfl
  go_wp2_with (first | (refine wpList_load_mid rfl 31 _ rfl qv1 0 rfl [.int .i64 ra.cli, .int .i64 ra.qmt, .string ra.qpa, .slice rb3 ra.qfs.length re3, .string ra.qbd, .int .i64 ra.rst, .slice rb6 ra.rfs.length re6, .string ra.rbd, .int .i64 ra.knd, .int .i64 ra.tim, .string ra.opa, .slice rb11 ra.oxs.length re11, .slice rb12 ra.oys.length re12, .int .i64 ra.ost, .slice rb14 ra.ofs.length re14, .string ra.obd, .int .i64 ra.otm, .int .i64 ra.bns] _ HRGv1 Tryd.underlying31 rfl HIFv1 ?_) | fail)
  refine (szReply_any 1048576 (by omega) (by omega) ra rb3 re3 rb6 re6 rb11 re11 rb12 re12 rb14 re14 w.heap.size _ (HK3.out _ hb1) (HK6.out _ hb1) (HK11.out _ hb1) (HK12.out _ hb1) (HK14.out _ hb1) hb1.size HMR.out).mono ?_
  rintro e w2 ⟨r2, rfl, hl2, hr2, bw⟩
  have hb2 : Below w.heap.size w (w2) := hb1.trans (bw.mono hb1.size)
  have HBv1_2 : Hid ((w2).heap[qv1]? = some (.cells #[.int .i64 ra.cli, .int .i64 ra.qmt, .string ra.qpa, .slice rb3 ra.qfs.length re3, .string ra.qbd, .int .i64 ra.rst, .slice rb6 ra.rfs.length re6, .string ra.rbd, .int .i64 ra.knd, .int .i64 ra.tim, .string ra.opa, .slice rb11 ra.oxs.length re11, .slice rb12 ra.oys.length re12, .int .i64 ra.ost, .slice rb14 ra.ofs.length re14, .string ra.obd, .int .i64 ra.otm, .int .i64 ra.bns] 31)) := blk_below HBv1_1.out bw
  clear hb1 HBv1_1 bw
  clear HRGv1 HIFv1
  by_cases hc1 : r2 < 0
  · clear hr2
    go_wp2_with fail
    go_ret
    exact ⟨rfl, hb2⟩
  · obtain ⟨_, hzr2⟩ := hr2 (by omega)
    have HSR : Hid (RpSmall ra) := hzr2
    clear hr2 hzr2
    obtain ⟨p, hp⟩ : ∃ p, p = replyT ra.cli ra.knd ra.rst ra.rfs := ⟨_, rfl⟩
    have HLF : Hid (ra.rfs.length ≤ 1048576) := HSR.out.rfs.1
    have HCF : Hid (CopyF ra.rfs) := fun i hi => by
      have := szTo_get ra.rfs ra.rfs.length i hi
      have := HSR.out.rfs.2
      omega
    have HGF : Hid ((getV ra.rfs ageB).size ≤ 1048576) := by
      show _ ≤ _
      unfold getV
      split
      · rename_i hx
        have := szTo_get ra.rfs ra.rfs.length (atF ra.rfs ageB) hx
        have := HSR.out.rfs.2
        omega
      · decide
    have HSP : Hid (∀ W : World, Below w.heap.size w W → ∀ (t3 t6 t11 t12 t14 : Value) (C : Nat), RowsO W C (rpR (⟨ra, t3, t6, t11, t12, t14⟩ : RpV)) → Calls Tryd.prog 5 #[.agg #[.int .i64 ra.cli, .int .i64 ra.qmt, .string ra.qpa, t3, .string ra.qbd, .int .i64 ra.rst, t6, .string ra.rbd, .int .i64 ra.knd, .int .i64 ra.tim, .string ra.opa, t11, t12, .int .i64 ra.ost, t14, .string ra.obd, .int .i64 ra.otm, .int .i64 ra.bns]] W fun e w' => TextIs p W e w') := fun W hW t3 t6 t11 t12 t14 C hr => by rw [hp]; exact specReplyText_any ra t3 t6 t11 t12 t14 C W (FieldsV.of_owns (hr.own (⟨68, 2, t6, ra.rfs.length, flatF ra.rfs⟩ : Rw) (by simp [rpR]))) HLF.out HCF.out HGF.out HMR.out.cls.1 HMR.out.cls.2 HMR.out.sts.1 HMR.out.sts.2
    have HIM : Hid (∀ W : World, Below w.heap.size w W → ∀ (t3 t6 t11 t12 t14 : Value) (C : Nat), RowsO W C (rpR (⟨ra, t3, t6, t11, t12, t14⟩ : RpV)) → Calls Tryd.prog 7 #[.agg #[.int .i64 ra.cli, .int .i64 ra.qmt, .string ra.qpa, t3, .string ra.qbd, .int .i64 ra.rst, t6, .string ra.rbd, .int .i64 ra.knd, .int .i64 ra.tim, .string ra.opa, t11, t12, .int .i64 ra.ost, t14, .string ra.obd, .int .i64 ra.otm, .int .i64 ra.bns]] W fun e w' => TextIs p W e w') := fun W hW t3 t6 t11 t12 t14 C hr => by rw [hp]; exact implReplyText_any ra t3 t6 t11 t12 t14 C W (FieldsV.of_owns (hr.own (⟨68, 2, t6, ra.rfs.length, flatF ra.rfs⟩ : Rw) (by simp [rpR]))) HLF.out HCF.out HGF.out HMR.out.cls.1 HMR.out.cls.2 HMR.out.sts.1 HMR.out.sts.2 (HT.out W hW)
    clear hp
    have HRGv1 : World.rangeAt (w2) qv1 0 [.int .i64 ra.cli, .int .i64 ra.qmt, .string ra.qpa, .slice rb3 ra.qfs.length re3, .string ra.qbd, .int .i64 ra.rst, .slice rb6 ra.rfs.length re6, .string ra.rbd, .int .i64 ra.knd, .int .i64 ra.tim, .string ra.opa, .slice rb11 ra.oxs.length re11, .slice rb12 ra.oys.length re12, .int .i64 ra.ost, .slice rb14 ra.ofs.length re14, .string ra.obd, .int .i64 ra.otm, .int .i64 ra.bns] := range_of HBv1_2.out
    have HIFv1 : (Tryd.prog.info? 31).map (·.size) = some 18 := by kernel_rfl
    go_wp2_with (first | (refine wpList_load_mid rfl 31 _ rfl qv1 0 rfl [.int .i64 ra.cli, .int .i64 ra.qmt, .string ra.qpa, .slice rb3 ra.qfs.length re3, .string ra.qbd, .int .i64 ra.rst, .slice rb6 ra.rfs.length re6, .string ra.rbd, .int .i64 ra.knd, .int .i64 ra.tim, .string ra.opa, .slice rb11 ra.oxs.length re11, .slice rb12 ra.oys.length re12, .int .i64 ra.ost, .slice rb14 ra.ofs.length re14, .string ra.obd, .int .i64 ra.otm, .int .i64 ra.bns] _ HRGv1 Tryd.underlying31 rfl HIFv1 ?_) | fail)
    refine (toReply_any ra rb3 re3 rb6 re6 rb11 re11 rb12 re12 rb14 re14 w.heap.size _ (HK3.out _ hb2) (HK6.out _ hb2) (HK11.out _ hb2) (HK12.out _ hb2) (HK14.out _ hb2) hb2.size HSR.out.lens).mono ?_
    rintro e w3 ⟨⟨xd, t3, t6, t11, t12, t14⟩, rfl, hxd, hro, bw⟩
    have hxd2 : xd = ra := hxd
    clear hxd
    subst xd
    obtain ⟨oA1_3, pA1_3, hu⟩ := slice_of_owns (hro.own (⟨68, 2, t3, ra.qfs.length, flatF ra.qfs⟩ : Rw) (by simp [rpR]))
    obtain rfl : t3 = .slice oA1_3 ra.qfs.length pA1_3 := hu
    obtain ⟨oA1_6, pA1_6, hu⟩ := slice_of_owns (hro.own (⟨68, 2, t6, ra.rfs.length, flatF ra.rfs⟩ : Rw) (by simp [rpR]))
    obtain rfl : t6 = .slice oA1_6 ra.rfs.length pA1_6 := hu
    obtain ⟨oA1_11, pA1_11, hu⟩ := slice_of_owns (hro.own (⟨9, 1, t11, ra.oxs.length, ra.oxs.map Value.string⟩ : Rw) (by simp [rpR]))
    obtain rfl : t11 = .slice oA1_11 ra.oxs.length pA1_11 := hu
    obtain ⟨oA1_12, pA1_12, hu⟩ := slice_of_owns (hro.own (⟨9, 1, t12, ra.oys.length, ra.oys.map Value.string⟩ : Rw) (by simp [rpR]))
    obtain rfl : t12 = .slice oA1_12 ra.oys.length pA1_12 := hu
    obtain ⟨oA1_14, pA1_14, hu⟩ := slice_of_owns (hro.own (⟨68, 2, t14, ra.ofs.length, flatF ra.ofs⟩ : Rw) (by simp [rpR]))
    obtain rfl : t14 = .slice oA1_14 ra.ofs.length pA1_14 := hu
    obtain ⟨b1, hbq1⟩ : ∃ b, b = (w2).heap.size := ⟨_, rfl⟩
    have hb3 : Below w.heap.size w (w3) := hb2.trans (bw.mono hb2.size)
    have HBv1_3 : Hid ((w3).heap[qv1]? = some (.cells #[.int .i64 ra.cli, .int .i64 ra.qmt, .string ra.qpa, .slice rb3 ra.qfs.length re3, .string ra.qbd, .int .i64 ra.rst, .slice rb6 ra.rfs.length re6, .string ra.rbd, .int .i64 ra.knd, .int .i64 ra.tim, .string ra.opa, .slice rb11 ra.oxs.length re11, .slice rb12 ra.oys.length re12, .int .i64 ra.ost, .slice rb14 ra.ofs.length re14, .string ra.obd, .int .i64 ra.otm, .int .i64 ra.bns] 31)) := blk_below HBv1_2.out bw
    clear hb2 HBv1_2 bw
    have EP1_3 : Hid (RowsO (w3) b1 (rpR (⟨ra, .slice oA1_3 ra.qfs.length pA1_3, .slice oA1_6 ra.rfs.length pA1_6, .slice oA1_11 ra.oxs.length pA1_11, .slice oA1_12 ra.oys.length pA1_12, .slice oA1_14 ra.ofs.length pA1_14⟩ : RpV))) := by show RowsO _ _ _; rw [hbq1]; exact hro
    clear hro hbq1
    clear HRGv1 HIFv1
    go_wp2_with fail
    refine (HSP.out _ hb3 _ _ _ _ _ _ EP1_3.out).mono ?_
    rintro e w4 ⟨rfl, bw⟩
    have hb4 : Below w.heap.size w (w4) := hb3.trans (bw.mono hb3.size)
    have HBv1_4 : Hid ((w4).heap[qv1]? = some (.cells #[.int .i64 ra.cli, .int .i64 ra.qmt, .string ra.qpa, .slice rb3 ra.qfs.length re3, .string ra.qbd, .int .i64 ra.rst, .slice rb6 ra.rfs.length re6, .string ra.rbd, .int .i64 ra.knd, .int .i64 ra.tim, .string ra.opa, .slice rb11 ra.oxs.length re11, .slice rb12 ra.oys.length re12, .int .i64 ra.ost, .slice rb14 ra.ofs.length re14, .string ra.obd, .int .i64 ra.otm, .int .i64 ra.bns] 31)) := blk_below HBv1_3.out bw
    have EP1_4 : Hid (RowsO (w4) b1 (rpR (⟨ra, .slice oA1_3 ra.qfs.length pA1_3, .slice oA1_6 ra.rfs.length pA1_6, .slice oA1_11 ra.oxs.length pA1_11, .slice oA1_12 ra.oys.length pA1_12, .slice oA1_14 ra.ofs.length pA1_14⟩ : RpV))) := EP1_3.out.below bw
    clear hb3 HBv1_3 EP1_3 bw
    have HRGv1 : World.rangeAt (w4) qv1 0 [.int .i64 ra.cli, .int .i64 ra.qmt, .string ra.qpa, .slice rb3 ra.qfs.length re3, .string ra.qbd, .int .i64 ra.rst, .slice rb6 ra.rfs.length re6, .string ra.rbd, .int .i64 ra.knd, .int .i64 ra.tim, .string ra.opa, .slice rb11 ra.oxs.length re11, .slice rb12 ra.oys.length re12, .int .i64 ra.ost, .slice rb14 ra.ofs.length re14, .string ra.obd, .int .i64 ra.otm, .int .i64 ra.bns] := range_of HBv1_4.out
    have HIFv1 : (Tryd.prog.info? 31).map (·.size) = some 18 := by kernel_rfl
    go_wp2_with (first | (refine wpList_load_mid rfl 31 _ rfl qv1 0 rfl [.int .i64 ra.cli, .int .i64 ra.qmt, .string ra.qpa, .slice rb3 ra.qfs.length re3, .string ra.qbd, .int .i64 ra.rst, .slice rb6 ra.rfs.length re6, .string ra.rbd, .int .i64 ra.knd, .int .i64 ra.tim, .string ra.opa, .slice rb11 ra.oxs.length re11, .slice rb12 ra.oys.length re12, .int .i64 ra.ost, .slice rb14 ra.ofs.length re14, .string ra.obd, .int .i64 ra.otm, .int .i64 ra.bns] _ HRGv1 Tryd.underlying31 rfl HIFv1 ?_) | fail)
    refine (toReply_any ra rb3 re3 rb6 re6 rb11 re11 rb12 re12 rb14 re14 w.heap.size _ (HK3.out _ hb4) (HK6.out _ hb4) (HK11.out _ hb4) (HK12.out _ hb4) (HK14.out _ hb4) hb4.size HSR.out.lens).mono ?_
    rintro e w5 ⟨⟨xd, t3, t6, t11, t12, t14⟩, rfl, hxd, hro, bw⟩
    have hxd2 : xd = ra := hxd
    clear hxd
    subst xd
    obtain ⟨oA2_3, pA2_3, hu⟩ := slice_of_owns (hro.own (⟨68, 2, t3, ra.qfs.length, flatF ra.qfs⟩ : Rw) (by simp [rpR]))
    obtain rfl : t3 = .slice oA2_3 ra.qfs.length pA2_3 := hu
    obtain ⟨oA2_6, pA2_6, hu⟩ := slice_of_owns (hro.own (⟨68, 2, t6, ra.rfs.length, flatF ra.rfs⟩ : Rw) (by simp [rpR]))
    obtain rfl : t6 = .slice oA2_6 ra.rfs.length pA2_6 := hu
    obtain ⟨oA2_11, pA2_11, hu⟩ := slice_of_owns (hro.own (⟨9, 1, t11, ra.oxs.length, ra.oxs.map Value.string⟩ : Rw) (by simp [rpR]))
    obtain rfl : t11 = .slice oA2_11 ra.oxs.length pA2_11 := hu
    obtain ⟨oA2_12, pA2_12, hu⟩ := slice_of_owns (hro.own (⟨9, 1, t12, ra.oys.length, ra.oys.map Value.string⟩ : Rw) (by simp [rpR]))
    obtain rfl : t12 = .slice oA2_12 ra.oys.length pA2_12 := hu
    obtain ⟨oA2_14, pA2_14, hu⟩ := slice_of_owns (hro.own (⟨68, 2, t14, ra.ofs.length, flatF ra.ofs⟩ : Rw) (by simp [rpR]))
    obtain rfl : t14 = .slice oA2_14 ra.ofs.length pA2_14 := hu
    obtain ⟨b2, hbq2⟩ : ∃ b, b = (w4).heap.size := ⟨_, rfl⟩
    have hb5 : Below w.heap.size w (w5) := hb4.trans (bw.mono hb4.size)
    have HBv1_5 : Hid ((w5).heap[qv1]? = some (.cells #[.int .i64 ra.cli, .int .i64 ra.qmt, .string ra.qpa, .slice rb3 ra.qfs.length re3, .string ra.qbd, .int .i64 ra.rst, .slice rb6 ra.rfs.length re6, .string ra.rbd, .int .i64 ra.knd, .int .i64 ra.tim, .string ra.opa, .slice rb11 ra.oxs.length re11, .slice rb12 ra.oys.length re12, .int .i64 ra.ost, .slice rb14 ra.ofs.length re14, .string ra.obd, .int .i64 ra.otm, .int .i64 ra.bns] 31)) := blk_below HBv1_4.out bw
    have EP1_5 : Hid (RowsO (w5) b1 (rpR (⟨ra, .slice oA1_3 ra.qfs.length pA1_3, .slice oA1_6 ra.rfs.length pA1_6, .slice oA1_11 ra.oxs.length pA1_11, .slice oA1_12 ra.oys.length pA1_12, .slice oA1_14 ra.ofs.length pA1_14⟩ : RpV))) := EP1_4.out.below bw
    clear hb4 HBv1_4 EP1_4 bw
    have EP2_5 : Hid (RowsO (w5) b2 (rpR (⟨ra, .slice oA2_3 ra.qfs.length pA2_3, .slice oA2_6 ra.rfs.length pA2_6, .slice oA2_11 ra.oxs.length pA2_11, .slice oA2_12 ra.oys.length pA2_12, .slice oA2_14 ra.ofs.length pA2_14⟩ : RpV))) := by show RowsO _ _ _; rw [hbq2]; exact hro
    clear hro hbq2
    clear HRGv1 HIFv1
    have HTHa : World.there ((w5).alloc (.cells #[.int .i64 0, .int .i64 0, .string ⟨#[]⟩, .slice none 0 0, .string ⟨#[]⟩, .int .i64 0, .slice none 0 0, .string ⟨#[]⟩, .int .i64 0, .int .i64 0, .string ⟨#[]⟩, .slice none 0 0, .slice none 0 0, .int .i64 0, .slice none 0 0, .string ⟨#[]⟩, .int .i64 0, .int .i64 0] 42)) (w5).heap.size 0 18 := there_of (heap_alloc_new _ _) rfl
    have HIFa : (Tryd.prog.info? 42).map (·.size) = some 18 := by kernel_rfl
    have HWEa : Hid (((w5).alloc (.cells #[.int .i64 0, .int .i64 0, .string ⟨#[]⟩, .slice none 0 0, .string ⟨#[]⟩, .int .i64 0, .slice none 0 0, .string ⟨#[]⟩, .int .i64 0, .int .i64 0, .string ⟨#[]⟩, .slice none 0 0, .slice none 0 0, .int .i64 0, .slice none 0 0, .string ⟨#[]⟩, .int .i64 0, .int .i64 0] 42)).setCells (w5).heap.size 0 (#[.int .i64 ra.cli, .int .i64 ra.qmt, .string ra.qpa, .slice oA2_3 ra.qfs.length pA2_3, .string ra.qbd, .int .i64 ra.rst, .slice oA2_6 ra.rfs.length pA2_6, .string ra.rbd, .int .i64 ra.knd, .int .i64 ra.tim, .string ra.opa, .slice oA2_11 ra.oxs.length pA2_11, .slice oA2_12 ra.oys.length pA2_12, .int .i64 ra.ost, .slice oA2_14 ra.ofs.length pA2_14, .string ra.obd, .int .i64 ra.otm, .int .i64 ra.bns] : Array Value).toList = (w5).alloc (.cells #[.int .i64 ra.cli, .int .i64 ra.qmt, .string ra.qpa, .slice oA2_3 ra.qfs.length pA2_3, .string ra.qbd, .int .i64 ra.rst, .slice oA2_6 ra.rfs.length pA2_6, .string ra.rbd, .int .i64 ra.knd, .int .i64 ra.tim, .string ra.opa, .slice oA2_11 ra.oxs.length pA2_11, .slice oA2_12 ra.oys.length pA2_12, .int .i64 ra.ost, .slice oA2_14 ra.ofs.length pA2_14, .string ra.obd, .int .i64 ra.otm, .int .i64 ra.bns] 42)) := alloc_whole rfl
    go_upto_region 7 with (first | (refine wpList_store_mid rfl 42 _ _ rfl (w5).heap.size 0 #[.int .i64 ra.cli, .int .i64 ra.qmt, .string ra.qpa, .slice oA2_3 ra.qfs.length pA2_3, .string ra.qbd, .int .i64 ra.rst, .slice oA2_6 ra.rfs.length pA2_6, .string ra.rbd, .int .i64 ra.knd, .int .i64 ra.tim, .string ra.opa, .slice oA2_11 ra.oxs.length pA2_11, .slice oA2_12 ra.oys.length pA2_12, .int .i64 ra.ost, .slice oA2_14 ra.ofs.length pA2_14, .string ra.obd, .int .i64 ra.otm, .int .i64 ra.bns] rfl rfl HTHa HIFa (by simp [Value.oneCell']) ?_; rw [HWEa.out]) | fail)
    clear HTHa HIFa HWEa
    obtain ⟨qv2, hqv2⟩ : ∃ q, q = (w5).heap.size := ⟨_, rfl⟩
    obtain ⟨w6, hW6⟩ : ∃ W, W = (w5).alloc (.cells #[.int .i64 ra.cli, .int .i64 ra.qmt, .string ra.qpa, .slice oA2_3 ra.qfs.length pA2_3, .string ra.qbd, .int .i64 ra.rst, .slice oA2_6 ra.rfs.length pA2_6, .string ra.rbd, .int .i64 ra.knd, .int .i64 ra.tim, .string ra.opa, .slice oA2_11 ra.oxs.length pA2_11, .slice oA2_12 ra.oys.length pA2_12, .int .i64 ra.ost, .slice oA2_14 ra.ofs.length pA2_14, .string ra.obd, .int .i64 ra.otm, .int .i64 ra.bns] 42) := ⟨_, rfl⟩
    have hz6 : (w5).heap.size = qv2 := hqv2.symm
    first | rw [← hW6, ← hqv2] | rw [← hW6]
    have hs6 : w6.heap.size = qv2 + 1 := by rw [hW6, ← hz6]; simp
    have bw : Below (w5).heap.size (w5) w6 := by rw [hW6]; exact (Below.refl _ _).alloc (Nat.le_refl _) _
    have hb6 : Below w.heap.size w (w6) := hb5.trans (bw.mono hb5.size)
    have HBv1_6 : Hid ((w6).heap[qv1]? = some (.cells #[.int .i64 ra.cli, .int .i64 ra.qmt, .string ra.qpa, .slice rb3 ra.qfs.length re3, .string ra.qbd, .int .i64 ra.rst, .slice rb6 ra.rfs.length re6, .string ra.rbd, .int .i64 ra.knd, .int .i64 ra.tim, .string ra.opa, .slice rb11 ra.oxs.length re11, .slice rb12 ra.oys.length re12, .int .i64 ra.ost, .slice rb14 ra.ofs.length re14, .string ra.obd, .int .i64 ra.otm, .int .i64 ra.bns] 31)) := blk_below HBv1_5.out bw
    have EP1_6 : Hid (RowsO (w6) b1 (rpR (⟨ra, .slice oA1_3 ra.qfs.length pA1_3, .slice oA1_6 ra.rfs.length pA1_6, .slice oA1_11 ra.oxs.length pA1_11, .slice oA1_12 ra.oys.length pA1_12, .slice oA1_14 ra.ofs.length pA1_14⟩ : RpV))) := EP1_5.out.below bw
    have EP2_6 : Hid (RowsO (w6) b2 (rpR (⟨ra, .slice oA2_3 ra.qfs.length pA2_3, .slice oA2_6 ra.rfs.length pA2_6, .slice oA2_11 ra.oxs.length pA2_11, .slice oA2_12 ra.oys.length pA2_12, .slice oA2_14 ra.ofs.length pA2_14⟩ : RpV))) := EP2_5.out.below bw
    have HBv2_6 : Hid ((w6).heap[qv2]? = some (.cells #[.int .i64 ra.cli, .int .i64 ra.qmt, .string ra.qpa, .slice oA2_3 ra.qfs.length pA2_3, .string ra.qbd, .int .i64 ra.rst, .slice oA2_6 ra.rfs.length pA2_6, .string ra.rbd, .int .i64 ra.knd, .int .i64 ra.tim, .string ra.opa, .slice oA2_11 ra.oxs.length pA2_11, .slice oA2_12 ra.oys.length pA2_12, .int .i64 ra.ost, .slice oA2_14 ra.ofs.length pA2_14, .string ra.obd, .int .i64 ra.otm, .int .i64 ra.bns] 42)) := by show _ = _; rw [hW6, ← hz6]; exact heap_alloc_new _ _
    clear hb5 HBv1_5 EP1_5 EP2_5 bw hW6 hz6
    clear hs6 hqv2
    have HRGv2 : World.rangeAt (w6) qv2 0 [.int .i64 ra.cli, .int .i64 ra.qmt, .string ra.qpa, .slice oA2_3 ra.qfs.length pA2_3, .string ra.qbd, .int .i64 ra.rst, .slice oA2_6 ra.rfs.length pA2_6, .string ra.rbd, .int .i64 ra.knd, .int .i64 ra.tim, .string ra.opa, .slice oA2_11 ra.oxs.length pA2_11, .slice oA2_12 ra.oys.length pA2_12, .int .i64 ra.ost, .slice oA2_14 ra.ofs.length pA2_14, .string ra.obd, .int .i64 ra.otm, .int .i64 ra.bns] := range_of HBv2_6.out
    have HIFv2 : (Tryd.prog.info? 42).map (·.size) = some 18 := by kernel_rfl
    go_wp2_with (first | (refine wpList_load_mid rfl 42 _ rfl qv2 0 rfl [.int .i64 ra.cli, .int .i64 ra.qmt, .string ra.qpa, .slice oA2_3 ra.qfs.length pA2_3, .string ra.qbd, .int .i64 ra.rst, .slice oA2_6 ra.rfs.length pA2_6, .string ra.rbd, .int .i64 ra.knd, .int .i64 ra.tim, .string ra.opa, .slice oA2_11 ra.oxs.length pA2_11, .slice oA2_12 ra.oys.length pA2_12, .int .i64 ra.ost, .slice oA2_14 ra.ofs.length pA2_14, .string ra.obd, .int .i64 ra.otm, .int .i64 ra.bns] _ HRGv2 Tryd.underlying42 rfl HIFv2 ?_) | fail)
    refine (HIM.out _ hb6 _ _ _ _ _ _ EP2_6.out).mono ?_
    rintro e w7 ⟨rfl, bw⟩
    have hb7 : Below w.heap.size w (w7) := hb6.trans (bw.mono hb6.size)
    have HBv1_7 : Hid ((w7).heap[qv1]? = some (.cells #[.int .i64 ra.cli, .int .i64 ra.qmt, .string ra.qpa, .slice rb3 ra.qfs.length re3, .string ra.qbd, .int .i64 ra.rst, .slice rb6 ra.rfs.length re6, .string ra.rbd, .int .i64 ra.knd, .int .i64 ra.tim, .string ra.opa, .slice rb11 ra.oxs.length re11, .slice rb12 ra.oys.length re12, .int .i64 ra.ost, .slice rb14 ra.ofs.length re14, .string ra.obd, .int .i64 ra.otm, .int .i64 ra.bns] 31)) := blk_below HBv1_6.out bw
    have HBv2_7 : Hid ((w7).heap[qv2]? = some (.cells #[.int .i64 ra.cli, .int .i64 ra.qmt, .string ra.qpa, .slice oA2_3 ra.qfs.length pA2_3, .string ra.qbd, .int .i64 ra.rst, .slice oA2_6 ra.rfs.length pA2_6, .string ra.rbd, .int .i64 ra.knd, .int .i64 ra.tim, .string ra.opa, .slice oA2_11 ra.oxs.length pA2_11, .slice oA2_12 ra.oys.length pA2_12, .int .i64 ra.ost, .slice oA2_14 ra.ofs.length pA2_14, .string ra.obd, .int .i64 ra.otm, .int .i64 ra.bns] 42)) := blk_below HBv2_6.out bw
    have EP1_7 : Hid (RowsO (w7) b1 (rpR (⟨ra, .slice oA1_3 ra.qfs.length pA1_3, .slice oA1_6 ra.rfs.length pA1_6, .slice oA1_11 ra.oxs.length pA1_11, .slice oA1_12 ra.oys.length pA1_12, .slice oA1_14 ra.ofs.length pA1_14⟩ : RpV))) := EP1_6.out.below bw
    have EP2_7 : Hid (RowsO (w7) b2 (rpR (⟨ra, .slice oA2_3 ra.qfs.length pA2_3, .slice oA2_6 ra.rfs.length pA2_6, .slice oA2_11 ra.oxs.length pA2_11, .slice oA2_12 ra.oys.length pA2_12, .slice oA2_14 ra.ofs.length pA2_14⟩ : RpV))) := EP2_6.out.below bw
    clear hb6 HBv1_6 HBv2_6 EP1_6 EP2_6 bw
    clear HRGv2 HIFv2
    go_upto_region 10 with fail
    refine wp_region_held_drew (S := fun W => W.heap[qv2]? = some (.cells #[.int .i64 ra.cli, .int .i64 ra.qmt, .string ra.qpa, .slice oA2_3 ra.qfs.length pA2_3, .string ra.qbd, .int .i64 ra.rst, .slice oA2_6 ra.rfs.length pA2_6, .string ra.rbd, .int .i64 ra.knd, .int .i64 ra.tim, .string ra.opa, .slice oA2_11 ra.oxs.length pA2_11, .slice oA2_12 ra.oys.length pA2_12, .int .i64 ra.ost, .slice oA2_14 ra.ofs.length pA2_14, .string ra.obd, .int .i64 ra.otm, .int .i64 ra.bns] 42) ∧ W.heap[qv1]? = some (.cells #[.int .i64 ra.cli, .int .i64 ra.qmt, .string ra.qpa, .slice rb3 ra.qfs.length re3, .string ra.qbd, .int .i64 ra.rst, .slice rb6 ra.rfs.length re6, .string ra.rbd, .int .i64 ra.knd, .int .i64 ra.tim, .string ra.opa, .slice rb11 ra.oxs.length re11, .slice rb12 ra.oys.length re12, .int .i64 ra.ost, .slice rb14 ra.ofs.length re14, .string ra.obd, .int .i64 ra.otm, .int .i64 ra.bns] 31)) (by kernel_rfl) ⟨HBv2_7.out, HBv1_7.out⟩ (fun _ => ?_)
    obtain ⟨w8, hX⟩ : ∃ X, X = w7.drew := ⟨_, rfl⟩
    have bw : Below w7.heap.size w7 w8 := by rw [hX]; exact (Below.refl _ _).drew
    rw [← hX]
    have hb8 : Below w.heap.size w (w8) := hb7.trans (bw.mono hb7.size)
    have HBv1_8 : Hid ((w8).heap[qv1]? = some (.cells #[.int .i64 ra.cli, .int .i64 ra.qmt, .string ra.qpa, .slice rb3 ra.qfs.length re3, .string ra.qbd, .int .i64 ra.rst, .slice rb6 ra.rfs.length re6, .string ra.rbd, .int .i64 ra.knd, .int .i64 ra.tim, .string ra.opa, .slice rb11 ra.oxs.length re11, .slice rb12 ra.oys.length re12, .int .i64 ra.ost, .slice rb14 ra.ofs.length re14, .string ra.obd, .int .i64 ra.otm, .int .i64 ra.bns] 31)) := blk_below HBv1_7.out bw
    have HBv2_8 : Hid ((w8).heap[qv2]? = some (.cells #[.int .i64 ra.cli, .int .i64 ra.qmt, .string ra.qpa, .slice oA2_3 ra.qfs.length pA2_3, .string ra.qbd, .int .i64 ra.rst, .slice oA2_6 ra.rfs.length pA2_6, .string ra.rbd, .int .i64 ra.knd, .int .i64 ra.tim, .string ra.opa, .slice oA2_11 ra.oxs.length pA2_11, .slice oA2_12 ra.oys.length pA2_12, .int .i64 ra.ost, .slice oA2_14 ra.ofs.length pA2_14, .string ra.obd, .int .i64 ra.otm, .int .i64 ra.bns] 42)) := blk_below HBv2_7.out bw
    have EP1_8 : Hid (RowsO (w8) b1 (rpR (⟨ra, .slice oA1_3 ra.qfs.length pA1_3, .slice oA1_6 ra.rfs.length pA1_6, .slice oA1_11 ra.oxs.length pA1_11, .slice oA1_12 ra.oys.length pA1_12, .slice oA1_14 ra.ofs.length pA1_14⟩ : RpV))) := EP1_7.out.below bw
    have EP2_8 : Hid (RowsO (w8) b2 (rpR (⟨ra, .slice oA2_3 ra.qfs.length pA2_3, .slice oA2_6 ra.rfs.length pA2_6, .slice oA2_11 ra.oxs.length pA2_11, .slice oA2_12 ra.oys.length pA2_12, .slice oA2_14 ra.ofs.length pA2_14⟩ : RpV))) := EP2_7.out.below bw
    have hS8 : w8.heap[qv2]? = some (.cells #[.int .i64 ra.cli, .int .i64 ra.qmt, .string ra.qpa, .slice oA2_3 ra.qfs.length pA2_3, .string ra.qbd, .int .i64 ra.rst, .slice oA2_6 ra.rfs.length pA2_6, .string ra.rbd, .int .i64 ra.knd, .int .i64 ra.tim, .string ra.opa, .slice oA2_11 ra.oxs.length pA2_11, .slice oA2_12 ra.oys.length pA2_12, .int .i64 ra.ost, .slice oA2_14 ra.ofs.length pA2_14, .string ra.obd, .int .i64 ra.otm, .int .i64 ra.bns] 42) ∧ w8.heap[qv1]? = some (.cells #[.int .i64 ra.cli, .int .i64 ra.qmt, .string ra.qpa, .slice rb3 ra.qfs.length re3, .string ra.qbd, .int .i64 ra.rst, .slice rb6 ra.rfs.length re6, .string ra.rbd, .int .i64 ra.knd, .int .i64 ra.tim, .string ra.opa, .slice rb11 ra.oxs.length re11, .slice rb12 ra.oys.length re12, .int .i64 ra.ost, .slice rb14 ra.ofs.length re14, .string ra.obd, .int .i64 ra.otm, .int .i64 ra.bns] 31) := ⟨HBv2_8.out, HBv1_8.out⟩
    clear hb7 HBv1_7 HBv2_7 EP1_7 EP2_7 bw hX
    refine wpAnyH_takeD (i := 0) (v := .agg #[.int .i64 ra.cli, .int .i64 ra.qmt, .string ra.qpa, .slice oA2_3 ra.qfs.length pA2_3, .string ra.qbd, .int .i64 ra.rst, .slice oA2_6 ra.rfs.length pA2_6, .string ra.rbd, .int .i64 ra.knd, .int .i64 ra.tim, .string ra.opa, .slice oA2_11 ra.oxs.length pA2_11, .slice oA2_12 ra.oys.length pA2_12, .int .i64 ra.ost, .slice oA2_14 ra.ofs.length pA2_14, .string ra.obd, .int .i64 ra.otm, .int .i64 ra.bns]) (some 22) rfl rfl (by kernel_rfl) (by kernel_rfl) (by kernel_rfl) (fun _ _ _ h => h) (yieldsIf_load_mid (by rfl) 42 _ rfl qv2 0 rfl [.int .i64 ra.cli, .int .i64 ra.qmt, .string ra.qpa, .slice oA2_3 ra.qfs.length pA2_3, .string ra.qbd, .int .i64 ra.rst, .slice oA2_6 ra.rfs.length pA2_6, .string ra.rbd, .int .i64 ra.knd, .int .i64 ra.tim, .string ra.opa, .slice oA2_11 ra.oxs.length pA2_11, .slice oA2_12 ra.oys.length pA2_12, .int .i64 ra.ost, .slice oA2_14 ra.ofs.length pA2_14, .string ra.obd, .int .i64 ra.otm, .int .i64 ra.bns] _ (fun W hW => by obtain ⟨hhv2, hhv1⟩ := hW; exact range_of hhv2) Tryd.underlying42 rfl (by kernel_rfl)) hS8 ?_
    simp only [Act.put, List.setIfInBounds_toArray, List.set_cons_zero, List.set_cons_succ]
    refine wpAnyH_takeD (i := 1) (v := .agg #[.int .i64 ra.cli, .int .i64 ra.qmt, .string ra.qpa, .slice rb3 ra.qfs.length re3, .string ra.qbd, .int .i64 ra.rst, .slice rb6 ra.rfs.length re6, .string ra.rbd, .int .i64 ra.knd, .int .i64 ra.tim, .string ra.opa, .slice rb11 ra.oxs.length re11, .slice rb12 ra.oys.length re12, .int .i64 ra.ost, .slice rb14 ra.ofs.length re14, .string ra.obd, .int .i64 ra.otm, .int .i64 ra.bns]) (some 23) rfl rfl (by kernel_rfl) (by kernel_rfl) (by kernel_rfl) (fun _ _ _ h => h) (yieldsIf_load_mid (by rfl) 31 _ rfl qv1 0 rfl [.int .i64 ra.cli, .int .i64 ra.qmt, .string ra.qpa, .slice rb3 ra.qfs.length re3, .string ra.qbd, .int .i64 ra.rst, .slice rb6 ra.rfs.length re6, .string ra.rbd, .int .i64 ra.knd, .int .i64 ra.tim, .string ra.opa, .slice rb11 ra.oxs.length re11, .slice rb12 ra.oys.length re12, .int .i64 ra.ost, .slice rb14 ra.ofs.length re14, .string ra.obd, .int .i64 ra.otm, .int .i64 ra.bns] _ (fun W hW => by obtain ⟨hhv2, hhv1⟩ := hW; exact range_of hhv1) Tryd.underlying31 rfl (by kernel_rfl)) hS8 ?_
    simp only [Act.put, List.setIfInBounds_toArray, List.set_cons_zero, List.set_cons_succ]
    refine wpAnyH_ready (rs := [2]) (by kernel_rfl) (by simp) ?_
    refine AllReadyH.cons rfl (fun K hK => ?_) AllReadyH.nil
    go_simp
    refine (toReply_any ra rb3 re3 rb6 re6 rb11 re11 rb12 re12 rb14 re14 w.heap.size _ (HK3.out _ hb8) (HK6.out _ hb8) (HK11.out _ hb8) (HK12.out _ hb8) (HK14.out _ hb8) hb8.size HSR.out.lens).mono ?_
    rintro e w9 ⟨⟨xd, t3, t6, t11, t12, t14⟩, rfl, hxd, hro, bw⟩
    have hxd2 : xd = ra := hxd
    clear hxd
    subst xd
    obtain ⟨oA3_3, pA3_3, hu⟩ := slice_of_owns (hro.own (⟨68, 2, t3, ra.qfs.length, flatF ra.qfs⟩ : Rw) (by simp [rpR]))
    obtain rfl : t3 = .slice oA3_3 ra.qfs.length pA3_3 := hu
    obtain ⟨oA3_6, pA3_6, hu⟩ := slice_of_owns (hro.own (⟨68, 2, t6, ra.rfs.length, flatF ra.rfs⟩ : Rw) (by simp [rpR]))
    obtain rfl : t6 = .slice oA3_6 ra.rfs.length pA3_6 := hu
    obtain ⟨oA3_11, pA3_11, hu⟩ := slice_of_owns (hro.own (⟨9, 1, t11, ra.oxs.length, ra.oxs.map Value.string⟩ : Rw) (by simp [rpR]))
    obtain rfl : t11 = .slice oA3_11 ra.oxs.length pA3_11 := hu
    obtain ⟨oA3_12, pA3_12, hu⟩ := slice_of_owns (hro.own (⟨9, 1, t12, ra.oys.length, ra.oys.map Value.string⟩ : Rw) (by simp [rpR]))
    obtain rfl : t12 = .slice oA3_12 ra.oys.length pA3_12 := hu
    obtain ⟨oA3_14, pA3_14, hu⟩ := slice_of_owns (hro.own (⟨68, 2, t14, ra.ofs.length, flatF ra.ofs⟩ : Rw) (by simp [rpR]))
    obtain rfl : t14 = .slice oA3_14 ra.ofs.length pA3_14 := hu
    obtain ⟨b3, hbq3⟩ : ∃ b, b = (w8).heap.size := ⟨_, rfl⟩
    have hb9 : Below w.heap.size w (w9) := hb8.trans (bw.mono hb8.size)
    have HBv1_9 : Hid ((w9).heap[qv1]? = some (.cells #[.int .i64 ra.cli, .int .i64 ra.qmt, .string ra.qpa, .slice rb3 ra.qfs.length re3, .string ra.qbd, .int .i64 ra.rst, .slice rb6 ra.rfs.length re6, .string ra.rbd, .int .i64 ra.knd, .int .i64 ra.tim, .string ra.opa, .slice rb11 ra.oxs.length re11, .slice rb12 ra.oys.length re12, .int .i64 ra.ost, .slice rb14 ra.ofs.length re14, .string ra.obd, .int .i64 ra.otm, .int .i64 ra.bns] 31)) := blk_below HBv1_8.out bw
    have HBv2_9 : Hid ((w9).heap[qv2]? = some (.cells #[.int .i64 ra.cli, .int .i64 ra.qmt, .string ra.qpa, .slice oA2_3 ra.qfs.length pA2_3, .string ra.qbd, .int .i64 ra.rst, .slice oA2_6 ra.rfs.length pA2_6, .string ra.rbd, .int .i64 ra.knd, .int .i64 ra.tim, .string ra.opa, .slice oA2_11 ra.oxs.length pA2_11, .slice oA2_12 ra.oys.length pA2_12, .int .i64 ra.ost, .slice oA2_14 ra.ofs.length pA2_14, .string ra.obd, .int .i64 ra.otm, .int .i64 ra.bns] 42)) := blk_below HBv2_8.out bw
    have EP1_9 : Hid (RowsO (w9) b1 (rpR (⟨ra, .slice oA1_3 ra.qfs.length pA1_3, .slice oA1_6 ra.rfs.length pA1_6, .slice oA1_11 ra.oxs.length pA1_11, .slice oA1_12 ra.oys.length pA1_12, .slice oA1_14 ra.ofs.length pA1_14⟩ : RpV))) := EP1_8.out.below bw
    have EP2_9 : Hid (RowsO (w9) b2 (rpR (⟨ra, .slice oA2_3 ra.qfs.length pA2_3, .slice oA2_6 ra.rfs.length pA2_6, .slice oA2_11 ra.oxs.length pA2_11, .slice oA2_12 ra.oys.length pA2_12, .slice oA2_14 ra.ofs.length pA2_14⟩ : RpV))) := EP2_8.out.below bw
    clear hb8 HBv1_8 HBv2_8 EP1_8 EP2_8 bw
    have EP3_9 : Hid (RowsO (w9) b3 (rpR (⟨ra, .slice oA3_3 ra.qfs.length pA3_3, .slice oA3_6 ra.rfs.length pA3_6, .slice oA3_11 ra.oxs.length pA3_11, .slice oA3_12 ra.oys.length pA3_12, .slice oA3_14 ra.ofs.length pA3_14⟩ : RpV))) := by show RowsO _ _ _; rw [hbq3]; exact hro
    clear hro hbq3
    have hS9 : w9.heap[qv2]? = some (.cells #[.int .i64 ra.cli, .int .i64 ra.qmt, .string ra.qpa, .slice oA2_3 ra.qfs.length pA2_3, .string ra.qbd, .int .i64 ra.rst, .slice oA2_6 ra.rfs.length pA2_6, .string ra.rbd, .int .i64 ra.knd, .int .i64 ra.tim, .string ra.opa, .slice oA2_11 ra.oxs.length pA2_11, .slice oA2_12 ra.oys.length pA2_12, .int .i64 ra.ost, .slice oA2_14 ra.ofs.length pA2_14, .string ra.obd, .int .i64 ra.otm, .int .i64 ra.bns] 42) ∧ w9.heap[qv1]? = some (.cells #[.int .i64 ra.cli, .int .i64 ra.qmt, .string ra.qpa, .slice rb3 ra.qfs.length re3, .string ra.qbd, .int .i64 ra.rst, .slice rb6 ra.rfs.length re6, .string ra.rbd, .int .i64 ra.knd, .int .i64 ra.tim, .string ra.opa, .slice rb11 ra.oxs.length re11, .slice rb12 ra.oys.length re12, .int .i64 ra.ost, .slice rb14 ra.ofs.length re14, .string ra.obd, .int .i64 ra.otm, .int .i64 ra.bns] 31) := ⟨HBv2_9.out, HBv1_9.out⟩
    refine hK.out _ _ hS9 (fun _ => ?_)
    clear hK K hS8
    refine wpAnyH_ready (rs := [3]) (by kernel_rfl) (by simp) ?_
    refine AllReadyH.cons rfl (fun K hK => ?_) AllReadyH.nil
    go_simp
    refine (eqReply_any ra (⟨ra, .slice oA2_3 ra.qfs.length pA2_3, .slice oA2_6 ra.rfs.length pA2_6, .slice oA2_11 ra.oxs.length pA2_11, .slice oA2_12 ra.oys.length pA2_12, .slice oA2_14 ra.ofs.length pA2_14⟩ : RpV) (⟨ra, .slice oA3_3 ra.qfs.length pA3_3, .slice oA3_6 ra.rfs.length pA3_6, .slice oA3_11 ra.oxs.length pA3_11, .slice oA3_12 ra.oys.length pA3_12, .slice oA3_14 ra.ofs.length pA3_14⟩ : RpV) _ _ _ rfl rfl EP2_9.out EP3_9.out HSR.out.lens.lim).mono ?_
    rintro e w10 ⟨rfl, bw⟩
    have hb10 : Below w.heap.size w (w10) := hb9.trans (bw.mono hb9.size)
    have HBv1_10 : Hid ((w10).heap[qv1]? = some (.cells #[.int .i64 ra.cli, .int .i64 ra.qmt, .string ra.qpa, .slice rb3 ra.qfs.length re3, .string ra.qbd, .int .i64 ra.rst, .slice rb6 ra.rfs.length re6, .string ra.rbd, .int .i64 ra.knd, .int .i64 ra.tim, .string ra.opa, .slice rb11 ra.oxs.length re11, .slice rb12 ra.oys.length re12, .int .i64 ra.ost, .slice rb14 ra.ofs.length re14, .string ra.obd, .int .i64 ra.otm, .int .i64 ra.bns] 31)) := blk_below HBv1_9.out bw
    have HBv2_10 : Hid ((w10).heap[qv2]? = some (.cells #[.int .i64 ra.cli, .int .i64 ra.qmt, .string ra.qpa, .slice oA2_3 ra.qfs.length pA2_3, .string ra.qbd, .int .i64 ra.rst, .slice oA2_6 ra.rfs.length pA2_6, .string ra.rbd, .int .i64 ra.knd, .int .i64 ra.tim, .string ra.opa, .slice oA2_11 ra.oxs.length pA2_11, .slice oA2_12 ra.oys.length pA2_12, .int .i64 ra.ost, .slice oA2_14 ra.ofs.length pA2_14, .string ra.obd, .int .i64 ra.otm, .int .i64 ra.bns] 42)) := blk_below HBv2_9.out bw
    have EP1_10 : Hid (RowsO (w10) b1 (rpR (⟨ra, .slice oA1_3 ra.qfs.length pA1_3, .slice oA1_6 ra.rfs.length pA1_6, .slice oA1_11 ra.oxs.length pA1_11, .slice oA1_12 ra.oys.length pA1_12, .slice oA1_14 ra.ofs.length pA1_14⟩ : RpV))) := EP1_9.out.below bw
    have EP2_10 : Hid (RowsO (w10) b2 (rpR (⟨ra, .slice oA2_3 ra.qfs.length pA2_3, .slice oA2_6 ra.rfs.length pA2_6, .slice oA2_11 ra.oxs.length pA2_11, .slice oA2_12 ra.oys.length pA2_12, .slice oA2_14 ra.ofs.length pA2_14⟩ : RpV))) := EP2_9.out.below bw
    have EP3_10 : Hid (RowsO (w10) b3 (rpR (⟨ra, .slice oA3_3 ra.qfs.length pA3_3, .slice oA3_6 ra.rfs.length pA3_6, .slice oA3_11 ra.oxs.length pA3_11, .slice oA3_12 ra.oys.length pA3_12, .slice oA3_14 ra.ofs.length pA3_14⟩ : RpV))) := EP3_9.out.below bw
    clear hb9 HBv1_9 HBv2_9 EP1_9 EP2_9 EP3_9 bw
    have hS10 : w10.heap[qv2]? = some (.cells #[.int .i64 ra.cli, .int .i64 ra.qmt, .string ra.qpa, .slice oA2_3 ra.qfs.length pA2_3, .string ra.qbd, .int .i64 ra.rst, .slice oA2_6 ra.rfs.length pA2_6, .string ra.rbd, .int .i64 ra.knd, .int .i64 ra.tim, .string ra.opa, .slice oA2_11 ra.oxs.length pA2_11, .slice oA2_12 ra.oys.length pA2_12, .int .i64 ra.ost, .slice oA2_14 ra.ofs.length pA2_14, .string ra.obd, .int .i64 ra.otm, .int .i64 ra.bns] 42) ∧ w10.heap[qv1]? = some (.cells #[.int .i64 ra.cli, .int .i64 ra.qmt, .string ra.qpa, .slice rb3 ra.qfs.length re3, .string ra.qbd, .int .i64 ra.rst, .slice rb6 ra.rfs.length re6, .string ra.rbd, .int .i64 ra.knd, .int .i64 ra.tim, .string ra.opa, .slice rb11 ra.oxs.length re11, .slice rb12 ra.oys.length re12, .int .i64 ra.ost, .slice rb14 ra.ofs.length re14, .string ra.obd, .int .i64 ra.otm, .int .i64 ra.bns] 31) := ⟨HBv2_10.out, HBv1_10.out⟩
    refine hK.out _ _ hS10 (fun _ => ?_)
    clear hK K hS9
    refine wpAnyH_takeD (i := 4) (v := .bool false) (some 26) rfl rfl (by kernel_rfl) (by kernel_rfl) (by kernel_rfl) (fun _ _ _ h => h) (Or.inl ⟨by rfl, by intro W _; go_simp⟩) hS10 ?_
    simp only [Act.put, List.setIfInBounds_toArray, List.set_cons_zero, List.set_cons_succ]
    clear hS10
    refine wpAnyH_done (by kernel_rfl) ?_ _
    go_wp2_with fail
    go_ret
    exact ⟨rfl, hb10⟩


set_option maxRecDepth 100000 in
theorem contract (H : Type) (enc : TypeId × Value → H) (W : World) (base : Nat) (args : Array Value) (ds gs : List (DataW H)) (before : List MemPlace)
    (hval : ∀ (j : Nat) t v, Tryd.f3.params[j]? = some t → args[j]? = some v → Value.okWide Tryd.prog W .any base t v)
    (hW : DataW.Whole enc Tryd.prog Tryd.f3.params.toList Rows.fnExactReplyTextSpec.vars false W args.toList ds gs before) (hL : laidMetH Tryd.prog Rows.fnExactReplyTextRow.laid W) (_ : W.ShapedOpen Tryd.prog) :
    Calls Tryd.prog 3 args W fun e W' => ∃ v, e = .returned v ∧ Rows.fnExactReplyTextSpec.post enc Tryd.prog Tryd.f3 false true false false W args v W' := by
  have hT : TabOk W := table hL
  have hW' := hW
  obtain ⟨p, q, hA0, hV, rfl, hfz, hnd⟩ := hW
  have hA : DataW.TrodAll enc Tryd.prog W 0 (fun _ => true) true Tryd.f3.params.toList args.toList ds p := hA0
  rw [Tryd.params3] at hA hval
  obtain ⟨v0, vs0, d0, ds0, p0, q0, hargs, rfl, rfl, h0, r0⟩ := trodAll_cons hA
  obtain ⟨rfl, rfl, rfl⟩ := trodAll_nil r0
  obtain rfl : args = #[v0] := by cases args; simp_all
  obtain ⟨rfl, rfl⟩ := trodVars_none hV
  have k0 := h0
  have lt0 : ∀ x ∈ p0, x.block < W.heap.size := by obtain ⟨m, hm⟩ := k0; exact DataW.trod_lt m _ _ _ hm
  obtain ⟨rd0, ra30, rc30, ra60, rc60, rax0, rcx0, ray0, rcy0, raz0, rcz0, rfl, ga0, gb0, gc0, gd0, ge0, gf0⟩ := openReply (hval 0 31 v0 rfl rfl) h0
  clear hA0
  refine (walk1 W rd0 ra30 rc30 ra60 rc60 rax0 rcx0 ray0 rcy0 raz0 rcz0 ga0 gb0 gc0 gd0 ge0 gf0 hT).mono fun e W' ⟨he, bel⟩ => ?_
  subst he
  exact ⟨_, rfl, _, _, _, [], _, [], hW', trodAll_mk1 (shut_bool Tryd.underlying4 _), (trodAll_cons_mk (Below.trod laidOut (by kernel_rfl) (of_decide_eq_true (by kernel_rfl)) k0 bel lt0) trodAll_mk0), rfl, bel.frame _, fun h => by cases h⟩

theorem laid_met (os : Os) : laidMet Tryd.prog Rows.fnExactReplyTextRow.laid ((withTables (World.holding Tryd.prog os ⟨#[], #[], []⟩)).forCall (fun _ _ => 0) ⟨#[], #[.agg #[.int .i64 0, .int .i64 0, .string ByteArray.empty, .slice none 0 0, .string ByteArray.empty, .int .i64 0, .slice none 0 0, .string ByteArray.empty, .int .i64 0, .int .i64 0, .string ByteArray.empty, .slice none 0 0, .slice none 0 0, .int .i64 0, .slice none 0 0, .string ByteArray.empty, .int .i64 0, .int .i64 0]], []⟩).memory :=
  laidMet_of_run' 80 (by kernel_rfl) (by kernel_rfl)
theorem reads (os : Os) {H : Type} (enc : TypeId × Value → H) : ∃ places, DataW.whole enc Tryd.prog ((withTables (World.holding Tryd.prog os ⟨#[], #[], []⟩)).forCall (fun _ _ => 0) ⟨#[], #[.agg #[.int .i64 0, .int .i64 0, .string ByteArray.empty, .slice none 0 0, .string ByteArray.empty, .int .i64 0, .slice none 0 0, .string ByteArray.empty, .int .i64 0, .int .i64 0, .string ByteArray.empty, .slice none 0 0, .slice none 0 0, .int .i64 0, .slice none 0 0, .string ByteArray.empty, .int .i64 0, .int .i64 0]], []⟩).memory Tryd.f3.params.toList Rows.fnExactReplyTextSpec.vars false #[(.agg #[.int .i64 0, .int .i64 0, .string ByteArray.empty, .slice none 0 0, .string ByteArray.empty, .int .i64 0, .slice none 0 0, .string ByteArray.empty, .int .i64 0, .int .i64 0, .string ByteArray.empty, .slice none 0 0, .slice none 0 0, .int .i64 0, .slice none 0 0, .string ByteArray.empty, .int .i64 0, .int .i64 0] : Value)].toList 8 = some ([.agg [.lit (.int .i64 0), .agg [.lit (.int .i64 0), .lit (.string []), .nil, .lit (.string [])], .agg [.lit (.int .i64 0), .nil, .lit (.string [])], .lit (.int .i64 0), .lit (.int .i64 0), .agg [.lit (.string []), .nil, .nil, .agg [.lit (.int .i64 0), .nil, .lit (.string [])], .lit (.int .i64 0)], .lit (.int .i64 0)]], [], places) :=
  ⟨[], by kernel_rfl⟩

set_option maxRecDepth 100000 in
theorem lifted (os : Os) (started : os.Started) (H : Type) (enc : TypeId × Value → H) (F : Stop.Interp) :
    ReturnsInHanded {} Tryd.checked os 3 .any ((OpenSpec.ofChange Rows.fnExactReplyTextSpec).preRow enc Tryd.prog Tryd.f3 Rows.fnExactReplyTextRow.domain false Rows.fnExactReplyTextRow.laid) (((OpenSpec.ofChange Rows.fnExactReplyTextSpec).at F).post enc Tryd.prog Tryd.f3 false true false false) := by
  obtain ⟨places, hx⟩ := reads os enc
  refine returnsInHanded_of_row (C := Tryd.checked) (s := OpenSpec.ofChange Rows.fnExactReplyTextSpec) own started (by kernel_rfl) Tryd.func3
    (witness_row_at (enc := enc) (C := Tryd.checked) false (withTables (World.holding Tryd.prog os ⟨#[], #[], []⟩)) #[.agg #[.int .i64 0, .int .i64 0, .string ByteArray.empty, .slice none 0 0, .string ByteArray.empty, .int .i64 0, .slice none 0 0, .string ByteArray.empty, .int .i64 0, .int .i64 0, .string ByteArray.empty, .slice none 0 0, .slice none 0 0, .int .i64 0, .slice none 0 0, .string ByteArray.empty, .int .i64 0, .int .i64 0]] rfl (by kernel_rfl) (by kernel_rfl) (by kernel_rfl)
      (OpenSpec.preRow_of_cond 8 hx (by kernel_rfl) (fun k hk => by cases hk) (by kernel_rfl) (laid_met os))) ?_
  intro W base args ds gs before hval hW _ _ _ hL hSh _
  exact contract H enc W base args ds gs before hval hW hL hSh

theorem said : Rows.FnExactReplyTextSaid :=
  OpenClaim.holds_of_cond 3 Tryd.f3 rfl rfl rfl rfl rfl rfl rfl ⟨rfl, rfl, rfl, rfl, rfl⟩ rfl rfl rfl rfl rfl (by kernel_rfl) Tryd.func3 (by kernel_rfl)
    (of_decide_eq_true (by kernel_rfl)) (by unfold Func.isWrapper; first | (rw [if_pos (by decide +kernel)]; kernel_rfl) | (rw [if_neg (by decide +kernel)]; exact ⟨rfl, rfl⟩))
    (fun os started H enc _ F => by rw [OpenClaim.pre_eq_preRow]; exact lifted os started H enc F)

theorem plain (f : FuncId) (fn : Func) (hf : Tryd.pinned.checked.prog.funcNamed "loop.example/g00239/laws.FnExactReplyText" = some f) (hfn : Tryd.pinned.checked.prog.funcs[f]? = some fn) :
    true = Tryd.pinned.checked.prog.looks [] ∧ ∀ (j : Nat) t, fn.params[j]? = some t → Tryd.pinned.checked.prog.wantsStandIn t = false := by
  obtain rfl : f = 3 := Option.some.inj ((show Tryd.prog.funcNamed "loop.example/g00239/laws.FnExactReplyText" = some 3 by kernel_rfl).symm.trans hf) |>.symm
  obtain rfl : fn = Tryd.f3 := (Option.some.inj (Tryd.func3.symm.trans hfn)).symm
  refine ⟨by kernel_rfl, fun j t ht => ?_⟩
  rw [Tryd.params3] at ht
  obtain rfl : t = 31 := by simpa using Array.mem_of_getElem? ht
  exact (show Tryd.prog.wantsStandIn 31 = false by kernel_rfl)

theorem card : Rows.FnExactReplyTextCardSaid :=
  Claim7.holds_tied_plain_at .later [] _ _ _ _ said (fun _ h => by cases h) (by kernel_rfl) (fun _ h => by cases h) fnExactReplyText_row_tie rfl ⟨rfl, rfl⟩ (by kernel_rfl) rfl plain (by kernel_rfl)
end fnExactReplyText

theorem fnExactReplyText_holds : Rows.FnExactReplyTextCardSaid := fnExactReplyText.card
#print axioms fnExactReplyText_holds
end Go.Proofs.YtopeegjmpphjnaaDoor
