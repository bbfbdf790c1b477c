/- What chapter 2's laws draw out of a code: contracts over the translation. -/
import Derived.Test.YtnabeailjbghjaaFieldDraw2
namespace Go.Proofs.Ytnabeailjbghjaa
open Go.RowKit
open Go.Lib hiding intOf

set_option maxHeartbeats 200000 in
set_option maxRecDepth 100000 in
theorem l2DrawName_any (c B : Nat) (a : Option Addr) (len cap : Nat) (zs : List Int) (w : World) (hcur : CurAt w c a len cap) (hcode : CodeAt w B a len zs) (hB : B ≤ c) :
    Calls Try.prog 30 #[.pointer (some ⟨c, 0, none⟩)] w fun e w' => TextDrawn 64 w c a len cap e w' := by
  go_enter Try.func30, Try.ntmps30
  go_wp2_with fail
  refine (pick_new c B [⟨#[101, 116, 97, 103]⟩, ⟨#[118, 97, 114, 121]⟩, ⟨#[108, 97, 110, 103]⟩, ⟨#[97, 103, 101]⟩, ⟨#[120, 45, 97]⟩, ⟨#[122, 122]⟩, ⟨#[]⟩] 64 (by decide) a len cap zs w hcur hcode hB (by decide) (by decide)).mono ?_
  rintro e w1 ⟨t, rfl, ht, hcu1, hg1⟩
  go_wp2
  go_ret
  exact ⟨t, rfl, ht, hcu1, hg1⟩

/-- A draw out of a code: fields, a name, a text; it turns nothing that was there. -/
def PutDrawn (w : World) (e : Ending) (w' : World) : Prop :=
  ∃ (v : Value) (fs : List (ByteArray × ByteArray)) (nm tx : ByteArray), e = .returned (.tuple #[v, .string nm, .string tx]) ∧ w'.ownsRow w.heap.size 33 2 v fs.length (flatF fs) ∧ fs.length ≤ 40 ∧ ShortF fs ∧ nm.size ≤ 64 ∧ tx.size ≤ 64 ∧ Below w.heap.size w w'
def GetDrawn (w : World) (e : Ending) (w' : World) : Prop :=
  ∃ (v : Value) (fs : List (ByteArray × ByteArray)) (nm : ByteArray), e = .returned (.tuple #[v, .string nm]) ∧ w'.ownsRow w.heap.size 33 2 v fs.length (flatF fs) ∧ fs.length ≤ 40 ∧ ShortF fs ∧ nm.size ≤ 64 ∧ Below w.heap.size w w'
set_option maxHeartbeats 200000 in
set_option maxRecDepth 100000 in
theorem DrawGet_any (a : Option Addr) (len cap : Nat) (zs : List Int) (w : World) (hcode : CodeAt w w.heap.size a len zs) :
    Calls Try.prog 18 #[.slice a len cap] w fun e w' => GetDrawn w e w' := by
  go_enter Try.func18, Try.ntmps18
  go_wp2_with fail
  refine (l1New_any w.heap.size a len cap zs _ hcode).mono ?_
  rintro e w1 ⟨rfl, hcu1, hb1⟩
  have hco1 := hcode.below hb1
  obtain ⟨c, hc⟩ : ∃ c, c = w.heap.size := ⟨_, rfl⟩
  rw [← hc] at hcu1 hco1
  rw [← hc]
  have hcge : w.heap.size ≤ c := by omega
  clear hc hcode
  go_wp2_with fail
  refine (l2Draw_any c c a len cap zs _ hcu1 hco1 (Nat.le_refl _)).mono ?_
  rintro e w2 ⟨v, fs, rfl, hown2, hfl, hsh, hcu2, hg2⟩
  have hs1 := hb1.size
  have hb2 := below_of_grown hb1 hg2 (by omega)
  have hco2 := hco1.grown hg2 (Nat.le_refl _)
  have hcl1 := hcu1.lt
  clear hcu1 hco1 hg2
  go_wp2_with fail
  refine (l2DrawName_any c c a len cap zs _ hcu2 hco2 (Nat.le_refl _)).mono ?_
  rintro e w3 ⟨nm, rfl, hnm, hcu3, hg3⟩
  have hb3 := below_of_grown hb2 hg3 (by omega)
  have hown3 := owns_base (owns_grown hown2 hg3 hcl1) hs1
  clear hcu2 hco2 hg3 hown2
  go_wp2
  go_ret2
  exact ⟨v, fs, nm, rfl, hown3, hfl, hsh, hnm, hb3⟩

set_option maxHeartbeats 200000 in
set_option maxRecDepth 100000 in
theorem DrawPut_any (a : Option Addr) (len cap : Nat) (zs : List Int) (w : World) (hcode : CodeAt w w.heap.size a len zs) :
    Calls Try.prog 10 #[.slice a len cap] w fun e w' => PutDrawn w e w' := by
  go_enter Try.func10, Try.ntmps10
  go_wp2_with fail
  refine (l1New_any w.heap.size a len cap zs _ hcode).mono ?_
  rintro e w1 ⟨rfl, hcu1, hb1⟩
  have hco1 := hcode.below hb1
  obtain ⟨c, hc⟩ : ∃ c, c = w.heap.size := ⟨_, rfl⟩
  rw [← hc] at hcu1 hco1
  rw [← hc]
  have hcge : w.heap.size ≤ c := by omega
  clear hc hcode
  go_wp2_with fail
  refine (l2Draw_any c c a len cap zs _ hcu1 hco1 (Nat.le_refl _)).mono ?_
  rintro e w2 ⟨v, fs, rfl, hown2, hfl, hsh, hcu2, hg2⟩
  have hs1 := hb1.size
  have hb2 := below_of_grown hb1 hg2 (by omega)
  have hco2 := hco1.grown hg2 (Nat.le_refl _)
  have hcl1 := hcu1.lt
  clear hcu1 hco1 hg2
  go_wp2_with fail
  refine (l2DrawName_any c c a len cap zs _ hcu2 hco2 (Nat.le_refl _)).mono ?_
  rintro e w3 ⟨nm, rfl, hnm, hcu3, hg3⟩
  have hb3 := below_of_grown hb2 hg3 (by omega)
  have hco3 := hco2.grown hg3 (Nat.le_refl _)
  have hown3 := owns_grown hown2 hg3 hcl1
  clear hcu2 hco2 hg3 hown2
  go_wp2_with fail
  refine (l1DrawText_any c c a len cap zs _ hcu3 hco3 (Nat.le_refl _)).mono ?_
  rintro e w4 ⟨tx, rfl, htx, hcu4, hg4⟩
  have hb4 := below_of_grown hb3 hg4 (by omega)
  have hown4 := owns_base (owns_grown hown3 hg4 hcl1) hs1
  clear hcu3 hco3 hg4 hown3
  go_wp2
  go_ret3
  exact ⟨v, fs, nm, tx, rfl, hown4, hfl, hsh, hnm, by omega, hb4⟩

end Go.Proofs.Ytnabeailjbghjaa
