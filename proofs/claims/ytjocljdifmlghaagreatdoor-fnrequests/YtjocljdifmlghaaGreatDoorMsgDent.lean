/- 'DrawReqText', 'DrawReqRead' of the specification: contracts over the translation. -/
import Derived.Test.YtjocljdifmlghaaGreatDoorMsgDentA
import Derived.Test.YtjocljdifmlghaaGreatDoorMsgReadJ
import Derived.Test.YtjocljdifmlghaaGreatDoorFieldSame
namespace Go.Proofs.YtjocljdifmlghaaGreatDoor
open Go.RowKit
open Go.Lib hiding intOf

/-- A request that was drawn out of a code. -/
def ReqGot (w : World) (e : Ending) (w' : World) : Prop :=
  ∃ (m : Int) (p : ByteArray) (v : Value) (fs : List (ByteArray × ByteArray)) (b : ByteArray), e = .returned (.agg #[.int .i64 m, .string p, v, .string b]) ∧ p.size ≤ 64 ∧ w'.ownsRow w.heap.size 55 2 v fs.length (flatF fs) ∧ fs.length ≤ 40 ∧ ShortF fs ∧ b.size ≤ 140 ∧ Below w.heap.size w w'
theorem reqT_size {m : Int} {p : ByteArray} {fs : List (ByteArray × ByteArray)} {b : ByteArray} (h : ReqP m p fs b) : (reqT m p fs b).size ≤ 1100 := by
  have h1 := methB_size m
  have h2 := restT_size (decide (b.size ≠ 0)) h.2.2.1 h.2.2.2
  have h3 := h.2.1.2.2.1
  have e1 : (⟨#[32]⟩ : ByteArray).size = 1 := rfl
  have e2 : (⟨#[72, 84, 84, 80, 47, 49, 46, 49]⟩ : ByteArray).size = 8 := rfl
  have e3 : (⟨#[13, 10]⟩ : ByteArray).size = 2 := rfl
  rw [← rest_req]
  simp only [ByteArray.size_append]
  omega

set_option maxHeartbeats 1000000 in
set_option maxRecDepth 100000 in
theorem DrawReqText_any (a : Option Addr) (len cap : Nat) (zs : List Int) (w : World) (hcode : CodeAt w w.heap.size a len zs) :
    Calls Tryz.prog 5 #[.slice a len cap] w fun e w' => ReqGot w e w' := by
  obtain ⟨R, hR⟩ : ∃ x, x = w.heap.size := ⟨_, rfl⟩
  have hb0 : Below w.heap.size w (w.alloc (.cells #[.int .i64 0, .string ⟨#[]⟩, .slice none 0 0, .string ⟨#[]⟩] 26)) := (Below.refl _ _).alloc (Nat.le_refl _) _
  have hR0 := heap_alloc_new w (.cells #[.int .i64 0, .string ⟨#[]⟩, .slice none 0 0, .string ⟨#[]⟩] 26)
  have hco0 := hcode.below hb0
  have HS0 : Hid ((w.alloc (.cells #[.int .i64 0, .string ⟨#[]⟩, .slice none 0 0, .string ⟨#[]⟩] 26)).heap.size = w.heap.size + 1) := by show _ = _; simp
  clear hcode
  go_enter Tryz.func5, Tryz.ntmps5
  go_wp2_with fail
  refine (l1New_any w.heap.size a len cap zs _ hco0).mono ?_
  rintro e w1 ⟨rfl, hcu1, hb1⟩
  have hco1 := hco0.below (hb1.mono hb0.size)
  have hR1 : w1.heap[R]? = some (.cells #[.int .i64 0, .string ⟨#[]⟩, .slice none 0 0, .string ⟨#[]⟩] 26) := by
    rw [hR, hb1.block _ (by rw [HS0.out]; omega)]; exact hR0
  have hbw1 := hb0.trans (hb1.mono hb0.size)
  rw [HS0.out] at hcu1 ⊢
  obtain ⟨c, hc⟩ : ∃ c, c = w.heap.size + 1 := ⟨_, rfl⟩
  rw [← hc] at hcu1 ⊢
  rw [← hR] at hco1 ⊢
  have hcR : R < c := by omega
  have hwR : w.heap.size ≤ R := by omega
  have hwc : w.heap.size ≤ c := by omega
  clear hb0 hb1 hR0 hco0 hc hR
  go_wp2_with fail
  refine (l3DrawBadReq_any c R a len cap zs _ hcu1 hco1 (by omega)).mono ?_
  rintro e w2 ⟨m, p, v, fs, b, rfl, _, hp, hown2, hfl, hsh, hbs, _, hg2⟩
  have hlt1 := hcu1.lt
  have hb2 := below_of_grown hbw1 hg2 (by omega)
  have hR2 : w2.heap[R]? = some (.cells #[.int .i64 0, .string ⟨#[]⟩, .slice none 0 0, .string ⟨#[]⟩] 26) := by
    rw [hg2.block R (by omega) (by simp; omega)]; exact hR1
  obtain ⟨oa, cp, rfl⟩ := slice_of_owns hown2
  obtain ⟨n, hn⟩ : ∃ x, x = fs.length := ⟨_, rfl⟩
  rw [← hn] at hown2
  rw [← hn]
  have HN : Hid (n = fs.length) := hn
  obtain ⟨⟨c0, c1, c2, c3⟩, f0, f1, f2, f3⟩ := four_facts hR2
  obtain ⟨⟨k0, k1, k2, k3⟩, _⟩ := four_facts (four_set hR2 (.int .i64 m) (.string p) (.slice oa n cp) (.string b))
  have HB4 : Hid (Below w.heap.size w (fourSet w2 R (.int .i64 m) (.string p) (.slice oa n cp) (.string b))) := below_four hb2 hwR
  have HOWN : Hid ((fourSet w2 R (.int .i64 m) (.string p) (.slice oa n cp) (.string b)).ownsRow w.heap.size 55 2 (.slice oa n cp) fs.length (flatF fs)) := by
    show World.ownsRow _ _ _ _ _ _ _
    unfold fourSet
    rw [← HN.out]
    obtain ⟨o1, _, r1⟩ := owns_set (o := 0) (x := .int .i64 m) (owns_wide hown2 hbw1.size) (by decide) hR2
    obtain ⟨o2, _, r2⟩ := owns_set (o := 1) (x := .string p) o1 (by decide) r1
    obtain ⟨o3, _, r3⟩ := owns_set (o := 2) (x := .slice oa n cp) o2 (by decide) r2
    exact (owns_set (o := 3) o3 (by decide) r3).1
  have HF : Hid (p.size ≤ 64 ∧ fs.length ≤ 40 ∧ ShortF fs ∧ b.size ≤ 140) := ⟨hp, hfl, hsh, hbs⟩
  unfold fourSet at k0 k1 k2 k3
  clear hR2 hR1 hb2 hown2 hg2 hcu1 hco1 hn hp hfl hsh hbs hbw1
  go_wp2_with fail
  exact bodyPost_ret (v := .agg #[.int .i64 m, .string p, .slice oa n cp, .string b]) (by simp [results, Tryz.results5, go_sem, k0, k1, k2, k3]) rfl ⟨m, p, _, fs, b, rfl, HF.out.1, HOWN.out, HF.out.2.1, HF.out.2.2.1, HF.out.2.2.2, HB4.out⟩

def dentL : List ByteArray := [⟨#[32]⟩, ⟨#[13, 10]⟩, ⟨#[97, 58, 32, 98, 13, 10]⟩, ⟨#[120]⟩, ⟨#[99, 111, 110, 116, 101, 110, 116, 45, 108, 101, 110, 103, 116, 104, 58, 32, 51, 13, 10]⟩, ⟨#[10]⟩]
theorem dent_short : ∀ j, j < 6 → (textAt dentL j).size ≤ 64 := by decide
set_option maxHeartbeats 1000000 in
set_option maxRecDepth 100000 in
theorem DrawReqRead_any (a : Option Addr) (len cap : Nat) (zs : List Int) (w : World) (hcode : CodeAt w w.heap.size a len zs) :
    Calls Tryz.prog 11 #[.slice a len cap] w fun e w' => ∃ t : ByteArray, e = .returned (.string t) ∧ t.size ≤ 30000 ∧ Below w.heap.size w w' := by
  go_enter Tryz.func11, Tryz.ntmps11
  go_wp2_with fail
  refine (l1New_any w.heap.size a len cap zs _ hcode).mono ?_
  rintro e w1 ⟨rfl, hcu1, hb1⟩
  have hco1 := hcode.below hb1
  obtain ⟨c, hc⟩ : ∃ c, c = w.heap.size := ⟨_, rfl⟩
  rw [← hc] at hcu1 hco1
  rw [← hc]
  have hcge : w.heap.size ≤ c := by omega
  clear hc hcode
  go_wp2_with fail
  refine (l3DrawReq_any c c a len cap zs _ hcu1 hco1 (Nat.le_refl _)).mono ?_
  rintro e w2 ⟨m, p, v, fs, b, rfl, _, hp, hown2, hfl, hsh, hbs, hcu2, hg2⟩
  have hb2 := below_of_grown hb1 hg2 (by omega)
  have hco2 := hco1.grown hg2 (Nat.le_refl _)
  have hv2 := FieldsV.of_owns hown2
  obtain ⟨oa, cp, rfl⟩ := slice_of_owns hown2
  have hwk : WalkF fs.length fs := fun i hi => by
    have := hsh.name i hi
    unfold maxLen; omega
  obtain ⟨n, hn⟩ : ∃ x, x = fs.length := ⟨_, rfl⟩
  rw [← hn] at hv2 hwk hfl
  rw [← hn]
  clear hcu1 hco1 hg2 hown2 hsh hn hb1
  go_wp2_with fail
  refine (specReqText_any m p _ b n _ fs _ hv2 (by omega) hwk (by unfold maxLen; omega) (by unfold maxLen; omega)).mono ?_
  rintro e w3 ⟨u, rfl, ku, kn, bb3⟩
  have hus : u.size ≤ 1100 := by
    by_cases h : ReqP m p fs b
    · rw [ku h]; exact reqT_size h
    · rw [kn h]; exact Nat.zero_le _
  have hb3 := hb2.trans (bb3.mono hb2.size)
  have hco3 := hco2.grown (grown_below bb3 _) (Nat.le_refl _)
  have hcu3 := hcu2.below bb3 hcu2.lt
  have hlt3 := hcu3.lt
  have hbb : Below w3.heap.size w3 (w3.alloc (.cells #[.string ⟨#[32]⟩, .string ⟨#[13, 10]⟩, .string ⟨#[97, 58, 32, 98, 13, 10]⟩, .string ⟨#[120]⟩, .string ⟨#[99, 111, 110, 116, 101, 110, 116, 45, 108, 101, 110, 103, 116, 104, 58, 32, 51, 13, 10]⟩, .string ⟨#[10]⟩] 9)) := (Below.refl _ _).alloc (Nat.le_refl _) _
  have hcu4 := hcu3.below hbb hlt3
  have hco4 := hco3.grown (grown_below hbb _) (Nat.le_refl _)
  have hb4 := hb3.trans (hbb.mono hb3.size)
  have hl4 : ListAt (w3.alloc (.cells #[.string ⟨#[32]⟩, .string ⟨#[13, 10]⟩, .string ⟨#[97, 58, 32, 98, 13, 10]⟩, .string ⟨#[120]⟩, .string ⟨#[99, 111, 110, 116, 101, 110, 116, 45, 108, 101, 110, 103, 116, 104, 58, 32, 51, 13, 10]⟩, .string ⟨#[10]⟩] 9)) w3.heap.size 6 (textAt dentL) := listAt_alloc w3 dentL
  clear ku kn bb3 hb2 hb3 hco2 hco3 hcu2 hcu3 hbb hv2 hwk
  go_wp2_with fail
  refine (l3Dent_any c c u (textAt dentL) w3.heap.size 6 dent_short (by omega) (by omega) a len cap zs _ hcu4 hco4 (Nat.le_refl _) (by omega) (by omega) hl4).mono ?_
  rintro e w5 ⟨t, rfl, hts, _, hg5⟩
  have hb5 := below_of_grown hb4 hg5 (by omega)
  clear hcu4 hco4 hl4 hg5 hb4
  go_wp2_with fail
  go_ret
  exact ⟨t, rfl, by omega, hb5⟩

end Go.Proofs.YtjocljdifmlghaaGreatDoor
