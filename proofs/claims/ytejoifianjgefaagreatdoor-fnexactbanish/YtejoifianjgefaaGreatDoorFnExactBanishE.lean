/- What the proof of FnExactBanish leans on: contracts of the program's and the specification's functions, and plain facts (part 5 of 11). -/
import Derived.Test.YtejoifianjgefaaGreatDoorFnExactBanishD
set_option maxHeartbeats 16000000
set_option maxRecDepth 100000
namespace Go.Proofs.YtejoifianjgefaaGreatDoor
open Go.Proofs.Tryz
open Go.RowKit
open Go.Lib hiding intOf
theorem bJ7 (st : Int) (u : Value) (d : Tx) (k base : Nat) (gs : Fs) (w : World) (hu : aB3 w base u k gs) (hk : k ≤ 1999999) (hc2 : aT2 gs) (hd : d.size ≤ 281474976710656) :
  Calls prog 233 #[.agg #[.int .i64 st, u, .string d]] w fun e w' => ∃ v, e = .returned (.agg #[.int .i64 st, v, .string d]) ∧ w'.ownsRow w.heap.size 184 2 v gs.length (aF3 gs) ∧ Below w.heap.size w w' := by
 obtain ⟨ob, cb, rfl, _⟩ := hu.slice;have b5 : Hid (∀ W, Bw w W → aB3 W base (.slice ob k cb) k gs) := fun W h => hu.below h
 have b1 : Hid (gs.length = k) := hu.len;have b6 := hid hc2;have b7 := hid hd;clear hu hc2 hd;have K0 := jnil w;go_enter func233, ntmps233;go_upto_region 1 with fail
 obtain ⟨q1, a6⟩ := exq (w.heap.size);obtain ⟨w1, a3⟩ := exq (w.alloc (.cells #[.int .i64 st, .slice ob k cb, .string d] 49));have a7 := a6.symm;rw [← a3]; try rw [← a6];have b2 := hsa a3 a7;have bw := bal a3;have K1 := ja K0 a3 a7;clear bw a3 a7 K0;obtain ⟨q2, a8⟩ := exq (q1 + 1);obtain ⟨w2, a4⟩ := exq (w1.alloc (.cells #[.int .i64 0, .slice none 0 0, .string ⟨#[]⟩] 49));have a9 : w1.heap.size = q2 := by rw [a8]; exact b2
 rw [← a4]; try rw [← a8];have b8 := hsa a4 a9;have bw := bal a4;have K2 := ja K1 a4 a9;clear bw a4 a9 K1;clear b8 a8 b2 a6;go_upto_region 1 with fail
 refine wp_region_held_drew (S := fun W => W.heap[q1]? = some (.cells #[.int .i64 st, .slice ob k cb, .string d] 49)) (by kernel_rfl) (jb K2 1 rfl) (fun _ => ?_)
 obtain ⟨w3, hX⟩ := exq w2.drew;have bw := bdr hX;rw [← hX];have K3 := jw K2 bw;have a2 := (jb K3 1 rfl);clear bw hX K2;refine tkP 0 (.pointer (some ⟨q1, 0, none⟩)) 3 rfl rfl a2 ?_;go_frame;refine tkL 1 (.int .i64 st) 4 rfl rfl (Or.inl ⟨by rfl, by intro W hW; have a0 := hW; have y0 := c3c a0; go_simp⟩) a2 ?_;go_frame;refine tkP 2 (.pointer (some ⟨q1, 1, none⟩)) 5 rfl rfl a2 ?_;go_frame;refine tkL 3 (.slice ob k cb) 6 rfl rfl (Or.inl ⟨by rfl, by intro W hW; have a0 := hW; have y1 := c3c a0; go_simp⟩) a2 ?_;go_frame;refine tkP 5 (.pointer (some ⟨q1, 2, none⟩)) 8 rfl rfl a2 ?_;go_frame;refine tkL 6 (.string d) 9 rfl rfl (Or.inl ⟨by rfl, by intro W hW; have a0 := hW; have y2 := c3c a0; go_simp⟩) a2 ?_;go_frame;refine rd1 4 rfl (fun K hK => ?_)
 go_simp;refine (cD9 _ k base gs _ (b5.out _ K3.hb) (by omega) b6.out).mono ?_;rintro e w4 ⟨vv, rfl, a1, bw⟩;obtain ⟨oG, pG, rfl⟩ := aA0 a1;rw [b1.out] at a1 ⊢;have K4 := jj K3 (jcR (jN bw) a1 jhn);clear a1;clear bw K3;have b3 := (jb K4 2 rfl);refine hK.out _ _ b3 (fun _ => ?_)
 clear hK K a2;refine rd1 7 rfl (fun K hK => ?_)
 go_simp;refine (aH9 d _ b7.out).mono ?_;rintro e w5 ⟨rfl, bw⟩;have K5 := jw K4 bw;clear bw K4;have b0 := (jb K5 2 rfl);refine hK.out _ _ b0 (fun _ => ?_)
 clear hK K b3;refine tkP 8 (.agg #[.int .i64 st, .slice oG k pG, .string d]) 11 rfl rfl b0 ?_;go_frame;refine rd1 9 rfl (fun K hK => ?_)
 have b9 := c3f (jb K5 1 rfl);obtain ⟨w6, hY⟩ := exq ((((w5.setCell ⟨q2, 0, none⟩ (.int .i64 st)).setCell ⟨q2, 1, none⟩ (.slice oG k pG)).setCell ⟨q2, 2, none⟩ (.string d)));have HY := hsy hY;have K6 := jss K5 1 [(0, _), (1, _), (2, _)] hY;clear hY K5;go_simp;rw [HY.out];have b4 := (jb K6 2 rfl);refine hK.out _ _ b4 (fun _ => ?_)
 clear hK K HY b0 b9;clear b4;refine wdn ?_;go_wp2_with fail
 have a5 := c3c (jb K6 1 rfl);refine bodyPost_ret (v := .agg #[.int .i64 st, .slice oG k pG, .string d]) (by simp [results, results233, go_sem, a5]) rfl ?_;refine ⟨_, rfl, ?_, K6.hb⟩;rw [b1.out];exact (jo K6 0 rfl)
theorem bJ8 (k : KpD) (v1 v2 v3 : Value) (w : World) (h : aR7 w k v1 v2 v3) (hs : aF9 k) :
  Calls prog 196 #[.agg #[.string k.p, v1, v2, .int .i64 k.st, v3, .string k.b, .int .i64 k.t]] w fun e w' => ∃ u1 u2 u3, e = .returned (.agg #[.string k.p, u1, u2, .int .i64 k.st, u3, .string k.b, .int .i64 k.t]) ∧ ObjO w' w.heap.size u1 k.xs.length k.xs u2 k.ys.length k.ys u3 k.fs.length k.fs ∧ Below w.heap.size w w' := by
 obtain ⟨B, h⟩ := h;have ho : ObjO w B v1 k.xs.length k.xs v2 k.ys.length k.ys v3 k.fs.length k.fs := aH3 h;obtain ⟨o1, c1, rfl⟩ := aA0 ho.names;obtain ⟨o2, c2, rfl⟩ := aA0 ho.vals;obtain ⟨o3, c3, rfl⟩ := aA0 ho.flds;have c9 : Hid (∀ W, Bw w W → aC4 W o1 k.xs.length k.xs) := fun W hb => (aF1 ho.names).below hb
 have d0 : Hid (∀ W, Bw w W → aC4 W o2 k.ys.length k.ys) := fun W hb => (aF1 ho.vals).below hb
 have d1 : Hid (∀ W, Bw w W → aB3 W B (.slice o3 k.fs.length c3) k.fs.length k.fs) := fun W hb => (aB3.of_owns ho.flds).below hb
 have HS := hid hs;clear h ho hs;have K0 := jnil w;go_enter func196, ntmps196;go_upto_region 1 with fail
 obtain ⟨q1, a8⟩ := exq (w.heap.size);obtain ⟨w1, a5⟩ := exq (w.alloc (.cells #[.string k.p, .slice o1 k.xs.length c1, .slice o2 k.ys.length c2, .int .i64 k.st, .slice o3 k.fs.length c3, .string k.b, .int .i64 k.t] 51));have a9 := a8.symm;rw [← a5]; try rw [← a8];have c4 := hsa a5 a9;have bw := bal a5;have K1 := ja K0 a5 a9;clear bw a5 a9 K0;obtain ⟨q2, b0⟩ := exq (q1 + 1);obtain ⟨w2, a6⟩ := exq (w1.alloc (.cells #[.string ⟨#[]⟩, .slice none 0 0, .slice none 0 0, .int .i64 0, .slice none 0 0, .string ⟨#[]⟩, .int .i64 0] 51));have b1 : w1.heap.size = q2 := by rw [b0]; exact c4
 rw [← a6]; try rw [← b0];have d2 := hsa a6 b1;have bw := bal a6;have K2 := ja K1 a6 b1;clear bw a6 b1 K1;clear d2 b0 c4 a8;go_upto_region 1 with fail
 refine wp_region_held_drew (S := fun W => W.heap[q1]? = some (.cells #[.string k.p, .slice o1 k.xs.length c1, .slice o2 k.ys.length c2, .int .i64 k.st, .slice o3 k.fs.length c3, .string k.b, .int .i64 k.t] 51)) (by kernel_rfl) (jb K2 1 rfl) (fun _ => ?_)
 obtain ⟨w3, hX⟩ := exq w2.drew;have bw := bdr hX;rw [← hX];have K3 := jw K2 bw;have a3 := (jb K3 1 rfl);clear bw hX K2;refine tkP 0 (.pointer (some ⟨q1, 0, none⟩)) 3 rfl rfl a3 ?_;go_frame;refine tkL 1 (.string k.p) 4 rfl rfl (Or.inl ⟨by rfl, by intro W hW; have a0 := hW; have y0 := c7c a0; go_simp⟩) a3 ?_;go_frame;refine tkP 3 (.pointer (some ⟨q1, 1, none⟩)) 6 rfl rfl a3 ?_;go_frame;refine tkL 4 (.slice o1 k.xs.length c1) 7 rfl rfl (Or.inl ⟨by rfl, by intro W hW; have a0 := hW; have y1 := c7c a0; go_simp⟩) a3 ?_;go_frame;refine tkP 6 (.pointer (some ⟨q1, 2, none⟩)) 9 rfl rfl a3 ?_;go_frame;refine tkL 7 (.slice o2 k.ys.length c2) 10 rfl rfl (Or.inl ⟨by rfl, by intro W hW; have a0 := hW; have y2 := c7c a0; go_simp⟩) a3 ?_;go_frame;refine tkP 9 (.pointer (some ⟨q1, 3, none⟩)) 12 rfl rfl a3 ?_;go_frame;refine tkL 10 (.agg #[.int .i64 k.st, .slice o3 k.fs.length c3, .string k.b]) 13 rfl rfl (Or.inl ⟨by rfl, by intro W hW; have a0 := hW; have y3 := c7c a0; go_simp⟩) a3 ?_;go_frame;refine tkP 12 (.pointer (some ⟨q1, 6, none⟩)) 15 rfl rfl a3 ?_;go_frame;refine tkL 13 (.int .i64 k.t) 16 rfl rfl (Or.inl ⟨by rfl, by intro W hW; have a0 := hW; have y6 := c7c a0; go_simp⟩) a3 ?_;go_frame;refine rd1 2 rfl (fun K hK => ?_)
 go_simp;refine (aH9 k.p _ (by have := HS.out.1.1; omega)).mono ?_;rintro e w4 ⟨rfl, bw⟩;have K4 := jw K3 bw;clear bw K3;have c5 := (jb K4 1 rfl);refine hK.out _ _ c5 (fun _ => ?_)
 clear hK K a3;refine rd1 5 rfl (fun K hK => ?_)
 go_simp;refine (aD4 _ _ _ k.xs _ (c9.out _ K4.hb) (by have := HS.out.2.1.1; omega) HS.out.2.1.2).mono ?_;rintro e w5 ⟨va, rfl, a1, bw⟩;obtain ⟨b2, b3, rfl⟩ := aA0 a1;have K5 := jj K4 (jcR (jN bw) a1 jhn);have b4 := hhi a1;clear a1;clear bw K4;have c6 := (jb K5 2 rfl);refine hK.out _ _ c6 (fun _ => ?_)
 clear hK K c5;refine rd1 8 rfl (fun K hK => ?_)
 go_simp;refine (aD4 _ _ _ k.ys _ (d0.out _ K5.hb) (by have := HS.out.2.2.1.1; omega) HS.out.2.2.1.2).mono ?_;rintro e w6 ⟨va, rfl, a2, bw⟩;obtain ⟨b5, b6, rfl⟩ := aA0 a2;have K6 := jj K5 (jcR (jN bw) a2 jhn);have d3 := hsz bw;have b7 := hlo a2;clear a2;clear bw K5;have c7 := (jb K6 3 rfl);refine hK.out _ _ c7 (fun _ => ?_)
 clear hK K c6;refine rd1 11 rfl (fun K hK => ?_)
 go_simp;refine (bJ7 k.st _ k.b _ B k.fs _ (d1.out _ K6.hb) (by have := HS.out.2.2.2.1; omega) (bB2 HS.out) (by have := HS.out.1.2; omega)).mono ?_;rintro e w7 ⟨va, rfl, a4, bw⟩;obtain ⟨b8, b9, rfl⟩ := aA0 a4;have K7 := jj K6 (jcR (jN bw) a4 jhn);clear a4;clear bw K6;have c0 := (jb K7 4 rfl);refine hK.out _ _ c0 (fun _ => ?_)
 clear hK K c7;refine tkP 14 (.agg #[.string k.p, .slice b2 k.xs.length b3, .slice b5 k.ys.length b6, .int .i64 k.st, .slice b8 k.fs.length b9, .string k.b, .int .i64 k.t]) 17 rfl rfl c0 ?_;go_frame;refine rd1 15 rfl (fun K hK => ?_)
 have d4 := c7f (jb K7 3 rfl);obtain ⟨w8, hY⟩ := exq ((((((((w7.setCell ⟨q2, 0, none⟩ (.string k.p)).setCell ⟨q2, 1, none⟩ (.slice b2 k.xs.length b3)).setCell ⟨q2, 2, none⟩ (.slice b5 k.ys.length b6)).setCell ⟨q2, 3, none⟩ (.int .i64 k.st)).setCell ⟨q2, 4, none⟩ (.slice b8 k.fs.length b9)).setCell ⟨q2, 5, none⟩ (.string k.b)).setCell ⟨q2, 6, none⟩ (.int .i64 k.t)));have HY := hsy hY;have K8 := jss K7 3 [(0, _), (1, _), (2, _), (3, _), (4, _), (5, _), (6, _)] hY;clear hY K7;go_simp;rw [HY.out];have c8 := (jb K8 4 rfl);refine hK.out _ _ c8 (fun _ => ?_)
 clear hK K HY c0 d4;clear c8;refine wdn ?_;go_wp2_with fail
 have a7 := c7c (jb K8 3 rfl);refine bodyPost_ret (v := .agg #[.string k.p, .slice b2 k.xs.length b3, .slice b5 k.ys.length b6, .int .i64 k.st, .slice b8 k.fs.length b9, .string k.b, .int .i64 k.t]) (by simp [results, results196, go_sem, a7]) rfl ?_;exact ⟨_, _, _, rfl, ⟨(jo K8 2 rfl), (jo K8 1 rfl), (jo K8 0 rfl), fun g hg e => by have h1 := b7.out g e; have h2 := b4.out g hg; have := d3.out; omega⟩, K8.hb⟩
def kpX (x : KpD × Value × Value × Value) : Value := .agg #[.string x.1.p, x.2.1, x.2.2.1, .int .i64 x.1.st, x.2.2.2, .string x.1.b, .int .i64 x.1.t, .int .i64 x.1.a, .int .i64 x.1.q]
def mpR (v : Value) : Option (DataW Value × List MemPlace) := some (.held v, [])
theorem cJ9 {v : Value} {y : DataW Value × List MemPlace} (h : mpR v = some y) : y = (.held v, []) := (Option.some.inj h).symm
def aF8 (kv : Ks) : Prop := kv.Pairwise (fun x y => x.1.a ≠ y.1.a)
def aP2 (D : DataW Value) (kv : Ks) : Prop := (∀ a : Int, Maps.has D (.int .i64 a) = true ↔ ∃ x ∈ kv, x.1.a = a) ∧ ∀ x ∈ kv, ∀ z, D.atKey (.int .i64 x.1.a) z = .held (kpX x)
theorem bT3 {a b : Int} (h : a ≠ b) : (Lit.int .i64 a) ≠ Lit.int .i64 b := fun e => h (by injection e)
theorem bO8 (a b : Int) : (Lit.int .i64 a).sameKey (.int .i64 b) = decide (a = b) := by
 by_cases h : a = b
 ·subst h;rw [decide_eq_true rfl];simp [Lit.sameKey]
 rw [decide_eq_false h];exact Maps.sameKey_ne (bT3 h)
theorem aF8.eq {kv : Ks} (h : aF8 kv) : ∀ {x y : KpD × Value × Value × Value}, x ∈ kv → y ∈ kv → x.1.a = y.1.a → x = y := by
 unfold aF8 at h;induction kv with
 | nil => intro x y hx; simp at hx
 | cons z l ih =>
  intro x y hx hy e
  rw [List.pairwise_cons] at h
  rcases List.mem_cons.1 hx with hx | hx
  ·rcases List.mem_cons.1 hy with hy | hy
   ·rw [hx, hy]
   ·rw [hx] at e; exact absurd e (h.1 y hy)
  ·rcases List.mem_cons.1 hy with hy | hy
   ·rw [hy] at e; exact absurd e.symm (h.1 x hx)
   ·exact ih h.2 hx hy e
theorem aF8.sub {kv kv' : Ks} (h : aF8 kv) (hs : List.Sublist kv' kv) : aF8 kv' := List.Pairwise.sublist hs h
theorem aF8.nodup {kv : Ks} (h : aF8 kv) : kv.Nodup := List.Pairwise.imp (fun hne e => hne (by rw [e])) h
theorem aP2.nil : aP2 (.map []) [] := ⟨fun a => by simp [Maps.has], fun x hx => by simp at hx⟩
theorem bH4 {D : DataW Value} (hD : Maps.IsMap D) (a b : Int) (d : DataW Value) : Maps.has (D.put (.int .i64 b) d) (.int .i64 a) = (decide (a = b) || Maps.has D (.int .i64 a)) := by
 by_cases h : a = b
 rotate_left
 ·rw [Maps.has_put_other (bT3 h), decide_eq_false h];rfl
 subst h;rw [Maps.has_put_same hD (show WideAt.IsKeyLit (.int .i64 _) from trivial)];simp
theorem aP2.put {D : DataW Value} {kv : Ks} (h : aP2 D kv) (hD : Maps.IsMap D) (y : KpD × Value × Value × Value) (hy : ∀ x ∈ kv, x.1.a ≠ y.1.a) : aP2 (D.put (.int .i64 y.1.a) (.held (kpX y))) (kv ++ [y]) := by
 refine ⟨fun a => ?_, fun x hx z => ?_⟩
 ·rw [bH4 hD, Bool.or_eq_true, decide_eq_true_iff, h.1 a];constructor
  ·rintro (rfl | ⟨x, hx, e⟩)
   ·exact ⟨y, by simp, rfl⟩
   exact ⟨x, by simp [hx], e⟩
  rintro ⟨x, hx, e⟩;rcases List.mem_append.1 hx with hx | hx
  ·exact .inr ⟨x, hx, e⟩
  rw [List.mem_singleton.1 hx] at e;exact .inl e.symm
 rcases List.mem_append.1 hx with hx | hx
 ·rw [Maps.atKey_put_other (bT3 (hy x hx))];exact h.2 x hx z
 rw [List.mem_singleton.1 hx];exact Maps.atKey_put_same hD (show WideAt.IsKeyLit (.int .i64 _) from trivial) _ _
structure MapN (D : DataW Value) (kv : Ks) : Prop where
 tidy : Maps.Tidy D
 has : ∀ a : Int, Maps.has D (.int .i64 a) = true ↔ ∃ x ∈ kv, x.1.a = a
 le : Maps.size D ≤ kv.length
 eq : Maps.size D = kv.length ↔ aF8 kv
 is : aF8 kv → aP2 D kv
theorem MapN.nil : MapN (.map []) [] := ⟨Maps.tidy_empty, aP2.nil.1, Nat.le_refl _, ⟨fun _ => List.Pairwise.nil, fun _ => rfl⟩, fun _ => aP2.nil⟩
theorem bB4 {kv : Ks} {y : KpD × Value × Value × Value} : aF8 (kv ++ [y]) ↔ aF8 kv ∧ ∀ x ∈ kv, x.1.a ≠ y.1.a := by
 unfold aF8;rw [List.pairwise_append];simp
theorem MapN.put {D : DataW Value} {kv : Ks} (h : MapN D kv) (y : KpD × Value × Value × Value) : MapN (D.put (.int .i64 y.1.a) (.held (kpX y))) (kv ++ [y]) := by
 have hD := h.tidy.isMap;have hs := Maps.size_put (k := .int .i64 y.1.a) h.tidy (.held (kpX y));have a0 := h.le;refine ⟨h.tidy.put (show WideAt.IsKeyLit (.int .i64 _) from trivial) _, fun a => ?_, ?_, ?_, fun ha => ?_⟩
 ·rw [bH4 hD, Bool.or_eq_true, decide_eq_true_iff, h.has a];constructor
  ·rintro (rfl | ⟨x, hx, e⟩)
   ·exact ⟨y, by simp, rfl⟩
   exact ⟨x, by simp [hx], e⟩
  rintro ⟨x, hx, e⟩;rcases List.mem_append.1 hx with hx | hx
  ·exact .inr ⟨x, hx, e⟩
  rw [List.mem_singleton.1 hx] at e;exact .inl e.symm
 ·rw [hs, List.length_append, List.length_singleton];split <;> omega
 ·rw [hs, List.length_append, List.length_singleton, bB4, ← h.eq];by_cases e : Maps.has D (.int .i64 y.1.a) = true
  rotate_left
  ·rw [if_neg e];constructor
   ·intro h1; exact ⟨by omega, fun x hx ex => e ((h.has _).2 ⟨x, hx, ex⟩)⟩
   rintro ⟨h1, _⟩; omega
  rw [if_pos e];obtain ⟨x, hx, ex⟩ := (h.has _).1 e;constructor
  ·intro h1; omega
  rintro ⟨_, h2⟩; exact absurd ex (h2 x hx)
 obtain ⟨h1, h2⟩ := bB4.1 ha;exact (h.is h1).put hD y h2
def aM9 (G : KpD × Value × Value × Value → Bool) (D : DataW Value) (left : Lit → Bool) (kv : Ks) : Prop := aP2 D (kv.filter (fun y => left (.int .i64 y.1.a) || !G y))
theorem aM9.start {G : KpD × Value × Value × Value → Bool} {D : DataW Value} {kv : Ks} (h : aP2 D kv) : aM9 G D (Maps.has D) kv := by
 unfold aM9;rw [List.filter_eq_self.2 (fun y hy => by rw [(h.1 _).2 ⟨y, hy, rfl⟩]; rfl)]
 exact h
theorem aM9.at {G : KpD × Value × Value × Value → Bool} {D : DataW Value} {left : Lit → Bool} {kv : Ks} (h : aM9 G D left kv) {a : Int} {c : Value} (hat : ∀ z, D.atKey (.int .i64 a) z = .held c) : ∃ x ∈ kv, x.1.a = a ∧ c = kpX x := by
 obtain ⟨x, hx, e⟩ := (h.1 a).1 (Maps.has_true_of_atKey hat);refine ⟨x, (List.mem_filter.1 hx).1, e, ?_⟩;have h2 := h.2 x hx (.held c);rw [e, hat] at h2;injection h2
theorem aM9.strike {G : KpD × Value × Value × Value → Bool} {D : DataW Value} {left : Lit → Bool} {kv : Ks} (h : aM9 G D left kv) (ha : aF8 kv) {x : KpD × Value × Value × Value} (hx : x ∈ kv) (hG : G x = true) : aM9 G (D.del (.int .i64 x.1.a)) (fun z => left z && !z.sameKey (.int .i64 x.1.a)) kv := by
 have a0 : ∀ y, y ∈ kv.filter (fun y => (left (.int .i64 y.1.a) && !(Lit.int .i64 y.1.a).sameKey (.int .i64 x.1.a)) || !G y) ↔ y ∈ kv.filter (fun y => left (.int .i64 y.1.a) || !G y) ∧ y.1.a ≠ x.1.a := by
  intro y
  rw [List.mem_filter, List.mem_filter, bO8]
  constructor
  ·rintro ⟨h1, h2⟩
   by_cases e : y.1.a = x.1.a
   ·have := ha.eq h1 hx e
    subst this
    simp [hG] at h2
   ·refine ⟨⟨h1, ?_⟩, e⟩
    rw [decide_eq_false e] at h2
    simpa using h2
  ·rintro ⟨⟨h1, h2⟩, e⟩
   refine ⟨h1, ?_⟩
   rw [decide_eq_false e]
   simpa using h2
 refine ⟨fun a => ?_, fun y hy z => ?_⟩
 ·by_cases e : a = x.1.a
  ·subst e;rw [Maps.has_del_same];constructor
   ·intro h; cases h
   rintro ⟨y, hy, e⟩; exact absurd e ((a0 y).1 hy).2
  rw [Maps.has_del_other (bT3 e), h.1 a];constructor
  ·rintro ⟨y, hy, rfl⟩; exact ⟨y, (a0 y).2 ⟨hy, e⟩, rfl⟩
  rintro ⟨y, hy, rfl⟩; exact ⟨y, ((a0 y).1 hy).1, rfl⟩
 obtain ⟨h1, h2⟩ := (a0 y).1 hy;rw [Maps.atKey_del_other (bT3 h2)];exact h.2 y h1 z
theorem aM9.stay {G : KpD × Value × Value × Value → Bool} {D : DataW Value} {left : Lit → Bool} {kv : Ks} (h : aM9 G D left kv) (ha : aF8 kv) {x : KpD × Value × Value × Value} (hx : x ∈ kv) (hG : G x = false) : aM9 G D (fun z => left z && !z.sameKey (.int .i64 x.1.a)) kv := by
 unfold aM9
 rw [List.filter_congr (q := fun y => left (.int .i64 y.1.a) || !G y) (fun y hy => by
  show (left (.int .i64 y.1.a) && !(Lit.int .i64 y.1.a).sameKey (.int .i64 x.1.a) || !G y) = _
  rw [bO8]
  by_cases e : y.1.a = x.1.a
  ·have := ha.eq hy hx e
   subst this
   simp [hG]
  ·rw [decide_eq_false e]; simp)]
 exact h
theorem aM9.done {G : KpD × Value × Value × Value → Bool} {D : DataW Value} {left : Lit → Bool} {kv : Ks} (h : aM9 G D left kv) (hl : ∀ k, left k = false) : aP2 D (kv.filter (fun y => !G y)) := by
 unfold aM9 at h;rw [List.filter_congr (q := fun y => !G y) (fun y _ => by rw [hl]; rfl)] at h
 exact h
def aT8 (left : Lit → Bool) (kv acc : Ks) : Prop := aF8 acc ∧ ∀ y, y ∈ acc ↔ y ∈ kv ∧ left (.int .i64 y.1.a) = false
theorem aT8.start {D : DataW Value} {kv : Ks} (h : aP2 D kv) : aT8 (Maps.has D) kv [] := ⟨List.Pairwise.nil, fun y => by
 constructor
 · intro h; simp at h
 · rintro ⟨h1, h2⟩; rw [(h.1 _).2 ⟨y, h1, rfl⟩] at h2; cases h2⟩
theorem aT8.more {left : Lit → Bool} {kv acc : Ks} (h : aT8 left kv acc) (ha : aF8 kv) {x : KpD × Value × Value × Value} (hx : x ∈ kv) (hl : left (.int .i64 x.1.a) = true) : aT8 (fun z => left z && !z.sameKey (.int .i64 x.1.a)) kv (acc ++ [x]) := by
 refine ⟨bB4.2 ⟨h.1, fun y hy e => ?_⟩, fun y => ?_⟩
 ·have h2 := ((h.2 y).1 hy).2;rw [e, hl] at h2;cases h2
 show _ ↔ y ∈ kv ∧ (left (.int .i64 y.1.a) && !(Lit.int .i64 y.1.a).sameKey (.int .i64 x.1.a)) = false
 rw [List.mem_append, List.mem_singleton, h.2 y, bO8];by_cases e : y.1.a = x.1.a
 rotate_left
 ·rw [decide_eq_false e];constructor
  ·rintro (h3 | h3)
   ·simpa using h3
   exact absurd (by rw [h3]) e
  intro h3; exact .inl (by simpa using h3)
 constructor
 ·intro _;refine ⟨?_, by simp [e]⟩;by_cases hy : y ∈ kv
  ·exact hy
  rename_i h3
  rcases h3 with h3 | h3
  ·exact absurd h3.1 hy
  rw [h3]; exact hx
 rintro ⟨h1, _⟩;exact .inr (ha.eq h1 hx e)
theorem aT8.perm {left : Lit → Bool} {kv acc : Ks} (h : aT8 left kv acc) (ha : aF8 kv) (hl : ∀ k, left k = false) : acc.Perm kv :=
 (List.perm_ext_iff_of_nodup h.1.nodup ha.nodup).2 (fun y => by rw [h.2 y, hl]; simp)
theorem bD3 {P : Program} {t k e : TypeId} (hu : P.underlying t = some (.map k e)) (n : Int) (w : World) : (Instr.makeMap t (some (.int .i64 n))).run P w = .ok (.map (some w.heap.size)) (w.alloc (.map #[] 0)) := by
 simp [Instr.makeMap, run_underlying hu, asInt, asIntOf, Result.andThen]
theorem aE4 {P : Program} {k : TypeId} {R : Value → Option (DataW Value × List MemPlace)} {w w' : World} {b n : Nat} {D : DataW Value} (h : w.ownsMap P k R b n D) (hb : Below w.heap.size w w') : w'.ownsMap P k R b n D := by
 have a1 := h.lt;obtain ⟨es, a0, h1, h2⟩ := h;exact ⟨es, a0, (hb.block b a1).trans h1, h2⟩
theorem aQ2 {P : Program} {k : TypeId} {R : Value → Option (DataW Value × List MemPlace)} {w w' : World} {b r n : Nat} {D : DataW Value} {left : Lit → Bool} {cnt : Nat} (h : w.ranges P k R b r n D left cnt) (hb : Below w.heap.size w w') : w'.ranges P k R b r n D left cnt := by
 have a3 := h.owns.lt;have a4 := h.lt;obtain ⟨es, a0, a1, a2, c0, h1, h2, h3, h4, h5, h6⟩ := h;exact ⟨es, a0, a1, a2, c0, (hb.block b a3).trans h1, h2, h3, h4, (hb.block r a4).trans h5, h6⟩
theorem aQ3 {P : Program} {k : TypeId} {R : Value → Option (DataW Value × List MemPlace)} {w : World} {b n q : Nat} {D : DataW Value} {cs : Array Value} {T : TypeId} {fr : Nat × Nat} (h : w.ownsMap P k R b n D) (hq : w.heap[q]? = some (.cells cs T fr)) : b ≠ q := by
 obtain ⟨es, a0, h1, _⟩ := h;intro e;subst e;rw [h1] at hq;cases hq
theorem aP3 {P : Program} {k : TypeId} {R : Value → Option (DataW Value × List MemPlace)} {w w' : World} {b n q : Nat} {D : DataW Value} {cs : Array Value} {T : TypeId} {fr : Nat × Nat} (h : w.ownsMap P k R b n D) (hq : w.heap[q]? = some (.cells cs T fr)) (hg : w.grownBy w' (some b)) : w'.heap[q]? = some (.cells cs T fr) :=
 (hg.block q (blt hq) (fun e => aQ3 h hq (Option.some.inj e).symm)).trans hq
theorem bO9 {w : World} {base : Nat} {T : TypeId} {z n : Nat} {v : Value} {c : List Value} (h : w.ownsRow base T z v n c) {g : Nat} (hg : v.ownBlock = some g) : ∃ cs fr, w.heap[g]? = some (.cells cs T fr) := by
 rcases h.2 with ⟨e, _⟩ | ⟨g', a0, a1, e, _, h1, _⟩
 ·rw [e] at hg; cases hg
 rw [e] at hg;have e2 : some g' = some g := hg;rw [← Option.some.inj e2];exact ⟨_, _, h1⟩
theorem aV7 {P : Program} {k : TypeId} {R : Value → Option (DataW Value × List MemPlace)} {w w' : World} {b m : Nat} {D : DataW Value} {base : Nat} {T : TypeId} {z n : Nat} {v : Value} {c : List Value} (h : w.ownsMap P k R b m D) (hr : w.ownsRow base T z v n c) (hg : w.grownBy w' (some b)) : w'.ownsRow base T z v n c :=
 aA7 hr (fun g hgv => by
  obtain ⟨cs, fr, hq⟩ := bO9 hr hgv
  exact (aP3 h hq hg).trans hq.symm)
theorem bL4 : Maps.Keyed prog 3 := Maps.int_keyed underlying3
theorem cT5 {a : Int} (h0 : 0 ≤ a) (h1 : a ≤ 1000) : keyOf prog 3 (.int .i64 a) = some (.int .i64 a) := Maps.keyOf_int_mk underlying3 (WalkArith.wf_i64 (by omega))
def aB9 (w : World) (b n : Nat) (D : DataW Value) : Prop := w.ownsMap prog 3 mpR b n D
def cQ7 (kv : Ks) (w : World) (e : Ending) (w' : World) : Prop := ∃ (b n : Nat) (D : DataW Value), e = .returned (.map (some b)) ∧ n ≤ kv.length ∧ aB9 w' b n D ∧ MapN D kv ∧ w.heap.size ≤ b ∧ Below w.heap.size w w'
theorem aU5 (x : Int) (w : World) :
  Calls prog 161 #[.int .i64 x] w fun e w' => aA4 (5 ≤ x ∧ x ≤ 19) w e w' := by
 have K0 := jnil w;go_enter func161, ntmps161;by_cases hc1 : 5 ≤ x
 rotate_left
 ·have H5 : Hid (¬ 5 ≤ x) := hc1;go_wp2_with fail
  go_ret;exact aA4.no (fun h => by have h5 := H5.out; omega) K0.hb
 have H5 : Hid (5 ≤ x) := hc1;go_wp2_with fail
 refine (bB3 x _).mono ?_;rintro e w1 ⟨uc, rfl, a0, bw⟩;have K1 := jw K0 bw;clear bw K0;go_wp2_with fail
 go_ret;cases uc with
 | true => exact aA4.yes ⟨H5.out, (a0.1 rfl).2⟩ K1.hb
 | false => exact aA4.no (fun h => nomatch a0.2 ⟨by omega, h.2⟩) K1.hb
theorem bH5 (V : Value) (kv : Ks) (B : Nat) (w : World) (h : aB8 w B V kv) (hn : kv.length ≤ 1048576) (ha : ∀ x ∈ kv, 0 ≤ x.1.a ∧ x.1.a ≤ 1000) :
  Calls prog 165 #[V] w fun e w' => cQ7 kv w e w' := by
 obtain ⟨o3, c3, e3⟩ := aA0 h.row;subst e3;obtain ⟨n3, d4⟩ := exq kv.length;rw [← d4] at h ⊢;obtain ⟨ks, f5⟩ := exq (kv.map (·.1));have g8 : Hid (kv.map (·.1) = ks) := f5.symm;have a6 : Hid (kv.length = n3) := d4.symm;have h1 : n3 ≤ 1048576 := by rw [d4]; exact hn
 have b8 : Hid (∀ W, Bw w W → aB8 W B (.slice o3 n3 c3) kv) := fun W hb => aB8.below h hb
 clear d4 f5 h hn;have f6 := hid ha;clear ha;have h2 : ∀ W : World, (Instr.makeMap 141 (some (.int .i64 (n3 : Int)))).run prog W = .ok (.map (some W.heap.size)) (W.alloc (.map #[] 0)) := fun W => bD3 underlying141 _ W
 have K0 := jnil w;go_enter func165, ntmps165;go_upto_region 2 with fail
 obtain ⟨qm1, a4⟩ := exq (w.heap.size);obtain ⟨w1, d5⟩ := exq (w.alloc (.map #[] 0));rw [← d5]; try rw [← a4];have bw := bal d5;have K1 := jw K0 bw;have b9 : Hid (w.heap.size ≤ qm1) := by show _ ≤ _; rw [a4]; exact K0.hb.size
 have a8 : Hid (aB9 w1 qm1 0 (.map [])) := by unfold aB9; show World.ownsMap _ _ _ _ _ _ _; rw [d5, a4]; exact World.ownsMap_made _ _ _ _
 clear bw d5 a4 K0;go_wp2_with fail
 go_loopw [11] (fun i wr => ∃ (j : Nat) (D : DataW Value), j ≤ n3 ∧ i = .int .i64 (j : Int) ∧ Hid (aB9 wr qm1 j D ∧ MapN D (kv.take j) ∧ Bw w (wr))) (fun i _ => n3 - (intOf i).toNat)
 case atStart => exact ⟨0, .map [], Nat.zero_le _, rfl, a8.out, by rw [List.take_zero]; exact MapN.nil, K1.hb⟩
 case round =>
  obtain ⟨j, D, hj, rfl, HW⟩ := hrel;by_cases hlt : (j : Int) < (n3 : Int)
  rotate_left
  ·have a1 := HW.out.2.2;have c9 := HW.out.2.1;have a9 : Hid (MapN D (kv.take j)) := c9;clear c9;have a2 : Hid (aB9 wr qm1 j D) := HW.out.1;clear HW;go_wp2_with fail
   go_ret
   have d7 : MapN D kv := by
    have h := a9.out
    rw [List.take_of_length_le (by rw [a6.out]; omega)] at h
    exact h
   exact ⟨qm1, j, D, rfl, by rw [a6.out]; omega, a2.out, d7, b9.out, a1⟩
  have a1 := HW.out.2.2;have c9 := HW.out.2.1;have a9 : Hid (MapN D (kv.take j)) := c9;clear c9;have a2 : Hid (aB9 wr qm1 j D) := HW.out.1;clear HW;obtain ⟨g3, p3, hV, _, _⟩ := (b8.out _ a1).look j (by rw [a6.out]; omega);rw [a6.out] at hV;injection hV with hV1 hV2 hV3
  subst hV1 hV3;clear hV2;obtain ⟨xX, d0⟩ := exq (kvAt kv j);have d1 : Hid (xX ∈ kv) := by show _ ∈ _; rw [d0]; exact aQ1 kv j (by rw [a6.out]; omega)
  have h3 : Hid (kpAt ks j = xX.1) := by show _ = _; rw [d0, ← g8.out]; exact (aK6 kv j (by rw [a6.out]; omega)).symm
  have d8 : Hid (kv.take (j + 1) = kv.take j ++ [xX]) := by show _ = _; rw [d0]; exact aM6 kv j (by rw [a6.out]; omega)
  have a5 : Hid (∀ W, Bw w W → KpAt W g3 j xX) := fun W hb => by
   obtain ⟨g', p', hV, _, hc⟩ := (b8.out W hb).look j (by rw [a6.out]; omega)
   injection hV with hV1 _ _
   cases hV1
   rw [d0]
   exact hc
  clear d0;obtain ⟨x, d9, e0, e1⟩ := xX;obtain ⟨b2, b3, hu⟩ := aA0 ((b8.out _ a1).names d1.out);have d2 : d9 = .slice b2 x.xs.length b3 := hu;subst d2;clear hu;obtain ⟨b4, b5, hu⟩ := aA0 ((b8.out _ a1).vals d1.out);have d2 : e0 = .slice b4 x.ys.length b5 := hu;subst d2;clear hu;obtain ⟨b6, b7, hu⟩ := aA0 ((b8.out _ a1).flds d1.out);have d2 : e1 = .slice b6 x.fs.length b7 := hu;subst d2;clear hu;have f7 := (a5.out _ a1).c0;have f8 := (a5.out _ a1).c1;have f9 := (a5.out _ a1).c2;have g0 := (a5.out _ a1).c3;have g1 := (a5.out _ a1).c4;have g2 := (a5.out _ a1).c5;have g4 := (a5.out _ a1).c6;have g5 := (a5.out _ a1).c7;have g6 := (a5.out _ a1).c8;dsimp only at f7 f8 f9 g0 g1 g2 g4 g5 g6;go_upto_region 5 with fail
  obtain ⟨q1, e2⟩ := exq (wr.heap.size);obtain ⟨w3, d3⟩ := exq (wr.alloc (.cells #[.string x.p, .slice b2 x.xs.length b3, .slice b4 x.ys.length b5, .int .i64 x.st, .slice b6 x.fs.length b7, .string x.b, .int .i64 x.t, .int .i64 x.a, .int .i64 x.q] 82));have e4 := e2.symm;rw [← d3]; try rw [← e2];have g9 := hsa d3 e4;have bw := bal d3;have d6 := hbt a1 bw;have b0 : Hid (aB9 w3 qm1 j (D)) := aE4 a2.out bw;have a0 := hnew d3 e4;clear a1 bw d3 e4;clear g9 e2;clear f7 f8 f9 g0 g1 g2 g4 g5 g6;have e5 := (k9c a0).1;have e6 := (k9c a0).2.1;have e7 := (k9c a0).2.2.1;have e8 := (k9c a0).2.2.2.1;have e9 := (k9c a0).2.2.2.2.1;have f0 := (k9c a0).2.2.2.2.2.1;have f1 := (k9c a0).2.2.2.2.2.2.1;have f2 := (k9c a0).2.2.2.2.2.2.2.1;have f3 := (k9c a0).2.2.2.2.2.2.2.2;have f4 := b0.out;have K3 := jz K1 d6 (jzn _);unfold aB9 at f4;go_wp2_with (first | (at_mapUpdate; refine wpList_mapUpdate_own _ rfl _ _ _ 141 rfl 3 82 bL4 underlying141 mpR qm1 (j) (D) rfl f4 (by unfold maxLen; omega) _ _ (.int .i64 x.a) rfl rfl (cT5 (f6.out _ d1.out).1 (f6.out _ d1.out).2) (.held (.agg #[.string x.p, .slice b2 x.xs.length b3, .slice b4 x.ys.length b5, .int .i64 x.st, .slice b6 x.fs.length b7, .string x.b, .int .i64 x.t, .int .i64 x.a, .int .i64 x.q])) [] rfl ?_) | go_in)
  intro w4 a7 a3;clear e5 e6 e7 e8 e9 f0 f1 f2 f3;have g7 : Bw w (w4) := d6.grown a3 d6.size (by intro g hg; cases hg; exact b9.out);have h4 := hid a3.size;have b1 : Hid (aB9 w4 qm1 (j + 1) (((D).put (.int .i64 x.a) (.held (.agg #[.string x.p, .slice b2 x.xs.length b3, .slice b4 x.ys.length b5, .int .i64 x.st, .slice b6 x.fs.length b7, .string x.b, .int .i64 x.t, .int .i64 x.a, .int .i64 x.q]))))) := a7;have K4 := jz K3 g7 (jzn _);clear a7 a3 f4 d6 K3
  have h0 : Hid (MapN (D.put (.int .i64 x.a) (.held (kpX (x, .slice b2 x.xs.length b3, .slice b4 x.ys.length b5, .slice b6 x.fs.length b7)))) (kv.take (j + 1))) := by
   show MapN _ _
   rw [d8.out]
   exact a9.out.put (x, .slice b2 x.xs.length b3, .slice b4 x.ys.length b5, .slice b6 x.fs.length b7)
  go_wp2_with fail
  go_roundw
  case rel => exact ⟨j + 1, _, by omega, by go_num, b1.out, h0.out, g7⟩
  case measure => simp [intOf]; omega
theorem aN9 (t : Int) (w : World) :
  Calls prog 168 #[.int .i64 t] w fun e w' => e = .returned (.bool (decide ((0 : Int) ≤ t ∧ t ≤ 1000000))) ∧ w' = w := by
 obtain ⟨D, hD⟩ : ∃ D, D = decide ((0 : Int) ≤ t ∧ t ≤ 1000000) := ⟨_, rfl⟩;rw [← hD];by_cases h1 : 0 ≤ t
 rotate_left
 ·have HD : Hid (D = false) := by show _ = _; rw [hD]; exact decide_eq_false (fun h => h1 h.1)
  clear hD;go_enter func168, ntmps168;go_wp2
  go_ret;exact ⟨by rw [HD.out]; rfl, rfl⟩
 by_cases h2 : t ≤ 1000000
 ·have HD : Hid (D = true) := by show _ = _; rw [hD]; exact decide_eq_true ⟨h1, h2⟩
  clear hD;go_enter func168, ntmps168;go_wp2
  go_ret;exact ⟨by rw [HD.out]; rfl, rfl⟩
 have HD : Hid (D = false) := by show _ = _; rw [hD]; exact decide_eq_false (fun h => h2 h.2)
 clear hD;go_enter func168, ntmps168;go_wp2
 go_ret;exact ⟨by rw [HD.out]; rfl, rfl⟩
theorem bT4 (oa : Oa) (m cm : Nat) (xs : Ts) (w : World) (hx : aC4 w oa m xs) (hm : m ≤ 2000000) (hsz : ∀ i, i < m → (aA8 xs i).size ≤ maxLen) :
  Calls prog 172 #[.slice oa m cm] w fun e w' => aA4 (∀ y ∈ xs, aL1 y) w e w' := by
 have HV : Hid (∀ W, Bw w W → aC4 W oa m xs) := fun W h => hx.below h
 have HL : Hid (xs.length = m) := hx.1;have HS := hid hsz;clear hx hsz;go_enter func172, ntmps172;go_wp2
 go_loopw [7] (fun i wr => ∃ j : Nat, j ≤ m ∧ i = .int .i64 (j : Int) ∧ Hid (Bw w wr) ∧ Hid (∀ x ∈ xs.take j, aL1 x)) (fun i _ => m - (intOf i).toNat)
 case atStart => exact ⟨0, Nat.zero_le _, rfl, Below.refl _ _, fun x hx => by simp at hx⟩
 case round =>
  obtain ⟨j, hj, rfl, HW, HN⟩ := hrel;by_cases hlt : (j : Int) < (m : Int)
  rotate_left
  ·have HA : Hid (∀ y ∈ xs, aL1 y) := by
    have h := HN.out
    rw [List.take_of_length_le (by rw [HL.out]; omega)] at h
    exact h
   clear HN;go_wp2_with fail
   go_ret;exact ⟨true, rfl, ⟨fun _ => HA.out, fun _ => rfl⟩, HW.out⟩
  have a2 : j < xs.length := by rw [HL.out]; omega
  obtain ⟨g, a4, hg, hc⟩ := (HV.out wr HW.out).2 j (by omega);subst a4;have hs := HS.out j (by omega);obtain ⟨x, a0⟩ := exq (aA8 xs j);rw [← a0] at hc hs;have HM : Hid (x ∈ xs) := by show _ ∈ _; rw [a0]; exact aW3 xs j a2
  have a5 : Hid (xs.take (j + 1) = xs.take j ++ [x]) := by show _ = _; rw [aL6 xs j a2, a0]
  clear a0 a2;go_wp2_with fail
  refine (aO3 x _ hs).mono ?_;rintro e a6 ⟨tx, rfl, a1, bw⟩;have a3 : Hid (Bw w a6) := HW.out.trans (bw.mono HW.out.size);clear bw hc HW;cases tx
  ·have HF : Hid (¬ ∀ y ∈ xs, aL1 y) := fun h => nomatch a1.2 (h x HM.out)
   clear a1 HN;go_wp2_with fail
   go_ret;exact aA4.no HF.out a3.out
  have a7 : Hid (∀ y ∈ xs.take (j + 1), aL1 y) := by
   intro y hy
   rw [a5.out] at hy
   rcases List.mem_append.1 hy with hy | hy
   ·exact HN.out y hy
   ·rw [List.mem_singleton.1 hy]; exact a1.1 rfl
  clear a1 HN;go_wp2_with fail
  go_roundw
  case rel => exact ⟨j + 1, by omega, by go_num, a3, a7⟩
  case measure => simp [intOf]; omega
theorem cE9 (oa ob : Oa) (m cm k ck : Nat) (xs ys : Ts) (w : World) (hx : aC4 w oa m xs) (hm : m ≤ 2000000) (hy : aC4 w ob k ys) (hk : k ≤ 2000000) :
  Calls prog 169 #[.slice oa m cm, .slice ob k ck] w fun e w' => e = .returned (.bool (decide (xs = ys))) ∧ Below w.heap.size w w' := by
 by_cases hmk : m = k
 rotate_left
 ·refine (Tryz.slices_Equal_string_lens oa ob m cm k ck w hmk).mono ?_;rintro e w1 ⟨rfl, rfl⟩;refine ⟨?_, Below.refl _ _⟩;rw [decide_eq_false (fun h => hmk (by rw [← hx.1, ← hy.1, h]))]
 subst hmk;by_cases h0 : m = 0
 ·subst h0;refine (Tryz.slices_Equal_string_empty oa ob cm 0 ck w (by omega)).mono ?_;rintro e w1 ⟨rfl, rfl⟩;refine ⟨?_, Below.refl _ _⟩;rw [List.length_eq_zero_iff.1 hx.1, List.length_eq_zero_iff.1 hy.1];simp
 obtain ⟨g, rfl, _, _⟩ := hx.2 0 (by omega);obtain ⟨q, rfl, _, _⟩ := hy.2 0 (by omega);refine (Tryz.slices_Equal_string g 0 m cm q 0 m ck xs ys w (by rw [hx.1]; exact Nat.le_refl _) (by rw [hy.1]; exact Nat.le_refl _) (by omega) (by omega) (fun j hj => ?_) (fun j hj => ?_)).mono ?_
 ·obtain ⟨g2, e2, _, h3⟩ := hx.2 j (by rw [← hx.1]; exact hj);cases e2
  rw [Nat.zero_add];exact h3
 ·obtain ⟨g2, e2, _, h3⟩ := hy.2 j (by rw [← hy.1]; exact hj);cases e2
  rw [Nat.zero_add];exact h3
 rintro e w1 ⟨rfl, n, rfl⟩;refine ⟨?_, ⟨rfl, rfl, rfl, Nat.le_refl _, fun _ _ => rfl⟩⟩
 rw [List.take_of_length_le (by rw [hx.1]; exact Nat.le_refl _), List.take_of_length_le (by rw [hy.1]; exact Nat.le_refl _)]
attribute [local go_sem] Oper.semAt_some
theorem bJ9 (v : Value) (n base : Nat) (fs : Fs) (w : World) (hv : aB3 w base v n fs) (hn : n ≤ 1073741824) (hcp : aT2 fs) (hsz : (getV fs aF0).size ≤ 1048576) :
  Calls prog 170 #[v] w fun e w' => aX5 w.heap.size (bD1 fs) w e w' := by
 obtain ⟨s, hs⟩ := exq (getV fs aF0);have HS : Hid (getV fs aF0 = s) := hs.symm;have HE : Hid (bD1 fs = (aN3 s).map aJ5) := by show _ = _; unfold bD1; rw [HS.out]
 rw [← hs] at hsz;have a2 := (bF4 s).1;clear hs;go_enter func170, ntmps170;go_wp2_with fail
 refine (bG2 v n base fs aF0 _ hv hn hcp).mono ?_;rintro e w1 ⟨rfl, b1⟩;rw [HS.out];clear hv;go_wp2_with fail
 refine (bN1 s _ hsz).mono ?_;rintro e w2 ⟨V, rfl, O, b2⟩;obtain ⟨xs, a3⟩ := exq (aN3 s);rw [← a3] at a2 O HE;obtain ⟨m, hm⟩ := exq xs.length;rw [← hm] at a2 O;have HM : Hid (xs.length = m) := hm.symm;have O := bQ6 O b1.size;have b2 : Bw w w2 := b1.trans (b2.mono b1.size);clear a3 hm b1;rcases aP8 O with ⟨oa, ca, rfl, h0, h1⟩ | ⟨g, cap, rfl, hp, r1⟩
 ·subst h0 h1;go_wp2_with fail
  refine wp_loop_rounds 1 ?_;rw [rounds_succ];go_wp2_with fail
  go_ret;exact aX5.of (by rw [HE.out]; rfl) rfl O b2
 clear O;have a5 : Hid (Bw w w2) := b2;have a6 : Hid (aE8 w.heap.size w2 g m cap (loTo xs 0)) := by show aE8 _ _ _ _ _ _; rw [bR4]; exact r1
 clear b2 r1;go_wp2_with fail
 go_loopw [17] (fun i wr => ∃ j : Nat, j ≤ m ∧ i = .int .i64 (j : Int) ∧ Hid (Bw w wr) ∧ Hid (aE8 w.heap.size wr g m cap (loTo xs j))) (fun i _ => m - (intOf i).toNat)
 case atStart => exact ⟨0, Nat.zero_le _, rfl, a5, a6⟩
 case round =>
  obtain ⟨j, hj, rfl, HB, HR⟩ := hrel;by_cases hlt : j < m
  rotate_left
  ·obtain rfl : j = m := by omega
   go_wp2_with fail
   go_ret;exact aX5.of (by rw [HE.out, bD8 xs j (by rw [HM.out]; exact Nat.le_refl _)]) (by rw [bD8 xs j (by rw [HM.out]; exact Nat.le_refl _), List.length_map, HM.out]) HR.out.owns HB.out
  have a7 : (j : Int) < (m : Int) := by omega
  obtain ⟨x, hx⟩ := exq (aA8 xs j);have hc := HR.out.cell j hlt;rw [cI7, ← hx] at hc;have a4 : Hid ((loTo xs j).set j (aJ5 x) = loTo xs (j + 1)) := by show _ = _; rw [hx]; exact bR5 xs j (by rw [HM.out]; exact hlt)
  clear hx;go_wp2_with fail
  refine (bM6 x _).mono ?_;rintro e w3 ⟨rfl, a1⟩;have a0 := HR.out.below a1 HR.out.lt;have b0 := a0.cell j hlt;have b3 := a0.frozen j;have a8 : Hid (Bw w (w3.setCell ⟨g, j, none⟩ (.string (aJ5 x)))) := (HB.out.trans (a1.mono HB.out.size)).setCell HR.out.base _
  have a9 : Hid (aE8 w.heap.size (w3.setCell ⟨g, j, none⟩ (.string (aJ5 x))) g m cap (loTo xs (j + 1))) := by
   show aE8 _ _ _ _ _ _
   rw [← a4.out]
   exact a0.set j hlt _
  clear a1 a0 HB HR a4 hc;go_wp2_with fail
  go_roundw
  case rel => exact ⟨j + 1, by omega, by go_num, a8, a9⟩
  case measure => simp [intOf]; omega
theorem bY2 (oa : Oa) (m cm : Nat) (xs : Ts) (w : World) (hx : aC4 w oa m xs) (hm : m ≤ 2000000) (hsz : ∀ i, i < m → (aA8 xs i).size ≤ maxLen) :
  Calls prog 171 #[.slice oa m cm] w fun e w' => aA4 (aX1 xs) w e w' := by
 by_cases h4 : (4 : Int) < (m : Int)
 ·have HF : Hid (¬ aX1 xs) := fun h => by have := h.2; rw [hx.1] at this; omega
  clear hx hsz;go_enter func171, ntmps171;go_wp2_with fail
  go_ret;exact aA4.no HF.out (Below.refl _ _)
 have HX : Hid (∀ W, Bw w W → aC4 W oa m xs) := fun W h => hx.below h
 have HL : Hid (xs.length = m) := hx.1;have HS := hid hsz;clear hx hsz;go_enter func171, ntmps171;go_wp2_with fail
 go_loopw [10] (fun i wr => ∃ j : Nat, j ≤ m ∧ i = .int .i64 (j : Int) ∧ Bw w wr ∧ Hid (∀ x ∈ xs.take j, aL0 x)) (fun i _ => m - (intOf i).toNat)
 case atStart => exact ⟨0, Nat.zero_le _, rfl, Below.refl _ _, fun x hx => by simp at hx⟩
 case round =>
  obtain ⟨j, hj, rfl, a0, HN⟩ := hrel;by_cases hlt : (j : Int) < (m : Int)
  rotate_left
  ·have HQ : Hid (aX1 xs) := ⟨by
    have h := HN.out
    rw [List.take_of_length_le (by rw [HL.out]; omega)] at h
    exact h, by rw [HL.out]; omega⟩
   clear HN;go_wp2_with fail
   go_ret;exact ⟨true, rfl, ⟨fun _ => HQ.out, fun _ => rfl⟩, a0⟩
  have a2 : j < xs.length := by rw [HL.out]; omega
  obtain ⟨g, rfl, hg, hc⟩ := (HX.out wr a0).2 j (by omega);have hs := HS.out j (by omega);obtain ⟨x, a1⟩ := exq (aA8 xs j);rw [← a1] at hc hs;have HM : Hid (x ∈ xs) := by show _ ∈ _; rw [a1]; exact aW3 xs j a2
  have HT : Hid (xs.take (j + 1) = xs.take j ++ [x]) := by show _ = _; rw [aL6 xs j a2, a1]
  clear a1 a2;go_wp2_with fail
  refine (aO1 x _ hs).mono ?_;rintro e w1 ⟨t, rfl, ht, b1⟩;have a3 : Bw w w1 := a0.trans (b1.mono a0.size);clear b1 a0 hc;cases t
  ·have HF : Hid (¬ aX1 xs) := fun h => nomatch ht.2 (h.1 x HM.out)
   clear ht HN;go_wp2_with fail
   go_ret;exact aA4.no HF.out a3
  have a4 : Hid (∀ y ∈ xs.take (j + 1), aL0 y) := by
   intro y hy
   rw [HT.out] at hy
   rcases List.mem_append.1 hy with hy | hy
   ·exact HN.out y hy
   ·rw [List.mem_singleton.1 hy]; exact ht.1 rfl
  clear ht HN;go_wp2_with fail
  go_roundw
  case rel => exact ⟨j + 1, by omega, by go_num, a3, a4⟩
  case measure => simp [intOf]; omega
theorem bY3 (v : Value) (n base : Nat) (fs : Fs) (k : Nat) (w : World) (hv : aB3 w base v n fs) (hn : n ≤ 1073741824) (hk : k < n) (hs1 : (aC7 fs k).size ≤ maxLen) (hs2 : (aH7 fs k).size ≤ maxLen) :
  Calls prog 279 #[v, .int .i64 (k : Int)] w fun e w' => aA4 (bC9 fs k) w e w' := by
 have HV : Hid (∀ W, Bw w W → aB3 W base v n fs) := fun W h => hv.below h
 obtain ⟨oa, b8, rfl, a2⟩ := hv.slice;obtain ⟨g, rfl, a7⟩ := a2 k hk;have b6 : (k : Int) < (n : Int) := by omega
 have a8 := a7.name k hk;have a9 := a7.val k hk;obtain ⟨nm, b0⟩ := exq (aC7 fs k);obtain ⟨vl, b3⟩ := exq (aH7 fs k);have HO : Hid (bC9 fs k ↔ aL0 nm ∧ aL1 vl ∧ atF fs nm = k ∧ nm ≠ clen) := by rw [b0, b3]; exact Iff.rfl
 rw [← b0] at a8 hs1;rw [← b3] at a9 hs2;clear hv a2 a7 b0 b3;obtain ⟨r, hr⟩ := exq (w.heap.size);have h0 : (w.alloc (.cells #[.string nm, .string vl] 184)).heap.size = w.heap.size + 1 := by simp
 have a4 : Hid (Bw w (w.alloc (.cells #[.string nm, .string vl] 184)) ∧ w.heap.size ≤ (w.alloc (.cells #[.string nm, .string vl] 184)).heap.size) := ⟨(Below.refl _ w).alloc (Nat.le_refl _) _, by omega⟩
 have HR : Hid (∀ W, Below (w.alloc (.cells #[.string nm, .string vl] 184)).heap.size (w.alloc (.cells #[.string nm, .string vl] 184)) W → W.cell? ⟨r, 0, none⟩ = some (.string nm) ∧ W.cell? ⟨r, 1, none⟩ = some (.string vl)) := fun W h => by
  have hh : W.heap[r]? = some (.cells #[.string nm, .string vl] 184) := by rw [hr, h.block _ (by omega)]; exact heap_alloc_new w _
  exact ⟨by simp [World.cell?, hh], by simp [World.cell?, hh]⟩
 go_enter func279, ntmps279;go_wp2_with fail
 refine (aO1 nm _ hs1).mono ?_;rintro e w1 ⟨b1, rfl, a5, a1⟩;rw [← hr];have b4 : Bw w w1 := a4.out.1.trans (a1.mono a4.out.2);obtain ⟨d1, d2⟩ := HR.out w1 a1;clear h0;cases b1
 ·have HF : Hid (¬ bC9 fs k) := fun h => by have := a5.2 (HO.out.1 h).1; cases this
  clear a5 a8 a9 a1 hr;go_wp2_with fail
  go_ret;exact aA4.no HF.out b4
 have HT : Hid (aL0 nm) := a5.1 rfl;clear a5 a8 a9 hr;go_wp2_with fail
 refine (aO3 vl _ hs2).mono ?_;rintro e w2 ⟨b2, rfl, a6, b5⟩;have a0 := a1.trans (b5.mono a1.size);have a3 : Bw w w2 := a4.out.1.trans (a0.mono a4.out.2);obtain ⟨d3, d4⟩ := HR.out w2 a0;cases b2
 ·have HF : Hid (¬ bC9 fs k) := fun h => by have := a6.2 (HO.out.1 h).2.1; cases this
  clear a6 a1 b5 a0 b4 d1 d2;go_wp2_with fail
  go_ret;exact aA4.no HF.out a3
 have b7 : Hid (aL1 vl) := a6.1 rfl;clear a6 a1 b5 a0 b4 d1 d2;by_cases hcl : nm = clen
 ·have ht := (aI2 _ _).2 hcl;rw [aY1] at ht;have HF : Hid (¬ bC9 fs k) := fun h => (HO.out.1 h).2.2.2 hcl
  clear hcl;go_wp2_with fail
  go_ret;exact aA4.no HF.out a3
 have ht := aG2 hcl;rw [aY1] at ht;have HC := hid hcl;clear hcl;go_wp2_with fail
 refine (bG1 _ n base fs nm _ (HV.out w2 a3) hn).mono ?_;rintro e w3 ⟨rfl, rfl⟩;by_cases hat : atF fs nm = k
 ·have HY : Hid (bC9 fs k) := HO.out.2 ⟨HT.out, b7.out, hat, HC.out⟩;rw [hat];clear hat;go_wp2
  go_ret;exact aA4.yes HY.out a3
 have HF : Hid (¬ bC9 fs k) := fun h => hat (HO.out.1 h).2.2.1
 have b9 : ((atF fs nm : Int) == (k : Int)) = false := by rw [beq_eq_false_iff_ne]; omega
 clear hat;go_wp2
 go_ret;exact aA4.no HF.out a3
theorem cT6 (v : Value) (n base : Nat) (fs : Fs) (w : World) (hv : aB3 w base v n fs) (hn : n ≤ 1073741824) (hsz : ∀ i, i < n → (aC7 fs i).size ≤ maxLen ∧ (aH7 fs i).size ≤ maxLen) :
  Calls prog 263 #[v] w fun e w' => aA4 (aM4 fs) w e w' := by
 have hl := hv.len;have HV : Hid (∀ W, Bw w W → aB3 W base v n fs) := fun W h => hv.below h
 have HS := hid hsz;obtain ⟨oa, a9, rfl, a3⟩ := hv.slice;clear hv a3 hsz;by_cases h8 : (8 : Int) < (n : Int)
 ·have HF : Hid (¬ aM4 fs) := fun h => by have := h.1; omega
  go_enter func263, ntmps263;go_wp2
  go_ret;exact aA4.no HF.out (Below.refl _ _)
 go_enter func263, ntmps263;go_wp2
 go_loopw [9] (fun i wr => ∃ k : Nat, k ≤ n ∧ i = .int .i64 (k : Int) ∧ Hid (∀ j, j < k → bC9 fs j) ∧ Bw w wr) (fun i _ => n - (intOf i).toNat)
 case atStart => exact ⟨0, Nat.zero_le _, rfl, fun j h => absurd h (by omega), Below.refl _ _⟩
 case round =>
  obtain ⟨k, hk, rfl, a0, a1⟩ := hrel;by_cases hlt : k < n
  rotate_left
  ·have HF : Hid (aM4 fs) := ⟨by omega, fun i hi => a0.out i (by omega)⟩
   go_wp2
   go_ret;exact aA4.yes HF.out a1
  have a6 : (k : Int) < (n : Int) := by omega
  obtain ⟨a7, a8⟩ := HS.out k hlt;go_wp2_with fail
  refine (bY3 _ n base fs k _ (HV.out wr a1) hn hlt a7 a8).mono ?_;rintro e w1 ⟨b1, rfl, a2, a4⟩;have a5 : Bw w w1 := a1.trans (a4.mono a1.size);cases b1
  ·have HF : Hid (¬ aM4 fs) := fun h => by have := a2.2 (h.2 k (by omega)); cases this
   clear a2 a4;go_wp2
   go_ret;exact aA4.no HF.out a5
  have HY : Hid (bC9 fs k) := a2.1 rfl;clear a2 a4;go_wp2
  go_roundw
  case rel =>
   refine ⟨k + 1, by omega, by go_num, ?_, a5⟩;intro j hj;by_cases e : j = k
   ·subst e; exact HY.out
   exact a0.out j (by omega)
  case measure => simp [intOf]; omega
theorem cN3 (n : Int) : aS6 n ↔ (cls n ≠ 4 ∧ cls n ≠ 7) := by
 have := aL9 n;unfold aS6;constructor
 ·intro h; omega
 intro h; omega
theorem bL5 {n : Int} (h : aS6 n) : n < 128 := by unfold aS6 at h; omega
theorem bK0 (r : Int) (w : World) :
  Calls prog 201 #[.int .i32 r] w fun e w' => aA4 (aS6 r) w e w' := by
 have HP : Hid (aS6 r ↔ (cls r ≠ 4 ∧ cls r ≠ 7)) := cN3 r;go_enter func201, ntmps201;go_wp2_with fail
 refine (aG8 r _).mono ?_;rintro e w1 ⟨rfl, hb⟩;generalize cls r = c at HP ⊢;by_cases h4 : c = 4
 ·have HN : Hid (¬ aS6 r) := fun h => (HP.out.1 h).1 h4
  subst h4;go_wp2_with fail
  go_ret;exact aA4.no HN.out hb
 have h5 : (c != 4) = true := by rw [bne_iff_ne]; exact h4
 by_cases h7 : c = 7
 ·have HN : Hid (¬ aS6 r) := fun h => (HP.out.1 h).2 h7
  subst h7;go_wp2_with fail
  go_ret;exact aA4.no HN.out hb
 have h8 : (c != 7) = true := by rw [bne_iff_ne]; exact h7
 have HY : Hid (aS6 r) := HP.out.2 ⟨h4, h7⟩;go_wp2_with fail
 go_ret;exact aA4.yes HY.out hb
theorem bP0 (s : Tx) (w : World) :
  Calls prog 200 #[.string s, .func (.func 201) #[] #[]] w fun e w' => aA4 (AllB aS6 s) w e w' := by
 go_enter func200, ntmps200;go_wp2
 go_loopw [6] (fun _ wr => ∃ pos : Nat, wr.heap[w.heap.size]? = some (.stringIter s pos) ∧ Bw w wr ∧ Hid (bJ0 aS6 s pos)) (fun _ wr => s.size - wr.iterPos w.heap.size)
 case atStart => exact ⟨0, World.iter_heap _ _ _, (Below.refl _ _).alloc (Nat.le_refl _) _, aN7 _ _⟩
 case round =>
  obtain ⟨pos, hh, a2, a0⟩ := hrel;by_cases hp : pos < s.size
  rotate_left
  ·have a5 := fun ty => run_next_end_at (P := prog) wr w.heap.size s pos ty hh hp
   go_wp2
   go_ret;exact aA4.yes (aR0 a0.out hp) a2
  have a5 := fun ty => run_next_any_at (P := prog) wr w.heap.size s pos ty hh hp
  go_wp2_with (go_at_call 201; refine (bK0 _ _).mono ?_; rintro e w1 ⟨b, rfl, hbt, a3⟩)
  ·have a1 : b = false := by simpa using ‹(!b) = true›
   have a6 : ¬ aS6 ((Utf8.decode s pos).1 : Int) := fun h => by rw [hbt.2 h] at a1; cases a1
   go_ret;exact aA4.no (bV5 (fun _ => bL5) s pos hp a6) (aI7 hh a2 a3).2
  have a1 : b = true := by simpa using ‹(!b) = false›
  obtain ⟨hv, a4⟩ := bV4 (fun _ => bL5) s pos hp (hbt.1 a1)
  rw [a4] at a3;obtain ⟨h1, h2⟩ := aI7 hh a2 a3;exact ⟨⟨pos + 1, h1, h2, aN8 a0.out hp hv⟩, by rw [iterPos_of h1, iterPos_of hh]; omega⟩
theorem bB5 (s : Tx) (w : World) (hs : s.size ≤ maxLen) :
  Calls prog 167 #[.string s] w fun e w' => aA4 (aH2 s) w e w' := by
 unfold maxLen at hs;by_cases h1 : (1 : Int) ≤ (s.size : Int)
 rotate_left
 ·have HN : Hid (¬ aH2 s) := fun h => by obtain ⟨_, h5, _⟩ := h; omega
  have hd : decide ((1 : Int) ≤ (s.size : Int)) = false := by simpa using h1
  go_enter func167, ntmps167;go_wp2_with fail
  go_ret;exact aA4.no HN.out (Below.refl _ _)
 have h0 : 0 < s.size := by omega
 by_cases h2 : (s.size : Int) ≤ 60
 rotate_left
 ·have HN : Hid (¬ aH2 s) := fun h => by obtain ⟨_, _, h5, _⟩ := h; omega
  have hd : decide ((s.size : Int) ≤ 60) = false := by simpa using h2
  go_enter func167, ntmps167;go_wp2_with fail
  go_ret;exact aA4.no HN.out (Below.refl _ _)
 by_cases h3 : ((s[0]'h0).toNat : Int) = 47
 rotate_left
 ·have h4 : (((s[0]'h0).toNat : Int) == 47) = false := by rw [beq_eq_false_iff_ne]; exact h3
  have HN : Hid (¬ aH2 s) := fun h => by obtain ⟨_, _, _, _, h5⟩ := h; omega
  clear h3;go_enter func167, ntmps167;go_wp2_with fail
  go_ret;exact aA4.no HN.out (Below.refl _ _)
 have h4 : (((s[0]'h0).toNat : Int) == 47) = true := by rw [beq_iff_eq]; exact h3
 have H3 : Hid ((s[0]'h0).toNat = 47) := by show _ = _; omega
 clear h3;go_enter func167, ntmps167;go_wp2_with fail
 refine (bP0 s _).mono ?_;rintro e w1 ⟨b, rfl, hbt, a0⟩;cases b
 ·have HN : Hid (¬ aH2 s) := fun h => by have := hbt.2 h.1; cases this
  clear hbt;go_wp2_with fail
  go_ret;exact aA4.no HN.out a0
 have HY : Hid (aH2 s) := ⟨hbt.1 rfl, by omega, by omega, h0, H3.out⟩;clear hbt;go_wp2_with fail
 go_ret;exact aA4.yes HY.out a0
def cN4 (fs : Fs) (b : Tx) : Prop := aM4 fs ∧ b.size ≤ 120
theorem cF0 (v : Value) (b : Tx) (n base : Nat) (fs : Fs) (w : World) (hv : aB3 w base v n fs) (hn : n ≤ 1073741824) (hsz : aP6 n fs) (hb : b.size ≤ maxLen) :
  Calls prog 234 #[.agg #[v, .string b]] w fun e w' => aA4 (cN4 fs b) w e w' := by
 obtain ⟨oa, a1, rfl, _⟩ := hv.slice;obtain ⟨r, hr⟩ := exq (w.heap.size)
 have HR : Hid (∀ W, Below (w.alloc (.cells #[.slice oa n a1, .string b] 235)).heap.size (w.alloc (.cells #[.slice oa n a1, .string b] 235)) W → (W.cell? ⟨r, 0, none⟩ = some (.slice oa n a1) ∧ W.cell? ⟨r, 1, none⟩ = some (.string b)) ∧ aB3 W base (.slice oa n a1) n fs ∧ Bw w W) := fun W h => by
  have hh := bD7 h
  rw [← hr] at hh
  exact ⟨⟨by simp [World.cell?, hh], by simp [World.cell?, hh]⟩, hv.below (aJ8 h), aJ8 h⟩
 obtain ⟨_, a3, _⟩ := HR.out _ (Below.refl _ _);unfold maxLen at hb;go_enter func234, ntmps234;go_wp2_with fail
 refine (cT6 _ n base fs _ a3 hn hsz).mono ?_;rintro e w1 ⟨b1, rfl, a2, a4⟩;rw [← hr];obtain ⟨⟨c0, c1⟩, _, a0⟩ := HR.out w1 a4;clear hv a3 hsz a4 hr;cases b1
 ·have HF : Hid (¬ cN4 fs b) := fun h => by have := a2.2 h.1; cases this
  clear a2;go_wp2_with fail
  go_ret;exact aA4.no HF.out a0
 have HT : Hid (aM4 fs) := a2.1 rfl;clear a2;by_cases h120 : (b.size : Int) ≤ 120
 ·have HY : Hid (cN4 fs b) := ⟨HT.out, by omega⟩;go_wp2_with fail
  go_ret;exact aA4.yes HY.out a0
 have HF : Hid (¬ cN4 fs b) := fun h => by have := h.2; omega
 have hd : decide ((b.size : Int) ≤ 120) = false := by simpa using h120
 go_wp2_with fail
 go_ret;exact aA4.no HF.out a0
theorem cF1 (st : Int) (v : Value) (b : Tx) (n base : Nat) (fs : Fs) (w : World) (hv : aB3 w base v n fs) (hn : n ≤ 1073741824) (hsz : aP6 n fs) (hb : b.size ≤ maxLen) :
  Calls prog 199 #[.agg #[v, .string b, .int .i64 st]] w fun e w' => aA4 (aX7 st fs b) w e w' := by
 obtain ⟨oa, a2, rfl, _⟩ := hv.slice;obtain ⟨r, hr⟩ := exq (w.heap.size)
 have HR : Hid (∀ W, Below (w.alloc (.cells #[.slice oa n a2, .string b, .int .i64 st] 237)).heap.size (w.alloc (.cells #[.slice oa n a2, .string b, .int .i64 st] 237)) W → (W.cell? ⟨r, 0, none⟩ = some (.slice oa n a2) ∧ W.cell? ⟨r, 1, none⟩ = some (.string b) ∧ W.cell? ⟨r, 2, none⟩ = some (.int .i64 st)) ∧ aB3 W base (.slice oa n a2) n fs ∧ Bw w W) := fun W h => by
  have hh := bD7 h
  rw [← hr] at hh
  exact ⟨⟨by simp [World.cell?, hh], by simp [World.cell?, hh], by simp [World.cell?, hh]⟩, hv.below (aJ8 h), aJ8 h⟩
 obtain ⟨_, a4, a0⟩ := HR.out _ (Below.refl _ _);have a6 := hid a4;have a7 := hid hsz;have a8 := hid hb;clear hv a4 hsz hb;by_cases h1 : 100 ≤ st
 rotate_left
 ·have HF : Hid (¬ aX7 st fs b) := fun h => h1 h.1.1
  have hd : decide (100 ≤ st) = false := by simpa using h1
  go_enter func199, ntmps199;go_wp2_with fail
  go_ret;exact aA4.no HF.out a0
 by_cases h2 : st ≤ 599
 rotate_left
 ·have HF : Hid (¬ aX7 st fs b) := fun h => h2 h.1.2
  have hd : decide (st ≤ 599) = false := by simpa using h2
  go_enter func199, ntmps199;go_wp2_with fail
  go_ret;exact aA4.no HF.out a0
 go_enter func199, ntmps199;go_wp2_with fail
 refine (cF0 _ b n base fs _ a6.out hn a7.out a8.out).mono ?_;rintro e w3 ⟨b2, rfl, a3, a5⟩;obtain ⟨_, _, a1⟩ := HR.out w3 a5;clear a5 a0;cases b2
 ·have HF : Hid (¬ aX7 st fs b) := fun h => by have := a3.2 h.2; cases this
  clear a3;go_wp2_with fail
  go_ret;exact aA4.no HF.out a1
 have HY : Hid (aX7 st fs b) := ⟨⟨h1, h2⟩, a3.1 rfl⟩;clear a3;go_wp2_with fail
 go_ret;exact aA4.yes HY.out a1
theorem bT5 (m : Int) (oa : Oa) (n cap : Nat) (b : Tx) (w : World) :
  Calls prog 198 #[.agg #[.int .i64 m, .slice oa n cap, .string b]] w fun e w' => e = .returned (.agg #[.slice oa n cap, .string b, .int .i64 m]) ∧ Below w.heap.size w w' := by
 go_enter func198, ntmps198;go_wp2
 exact bodyPost_ret (v := .agg #[.slice oa n cap, .string b, .int .i64 m]) (by simp [results, results198, go_sem]) rfl ⟨rfl, ((Below.refl _ _).alloc (Nat.le_refl _) _).alloc (by simp) _⟩
theorem bK1 (m : Int) (v : Value) (b : Tx) (n base : Nat) (fs : Fs) (w : World) (hv : aB3 w base v n fs) (hn : n ≤ 1073741824) (hsz : aP6 n fs) (hb : b.size ≤ maxLen) :
  Calls prog 166 #[.agg #[.int .i64 m, v, .string b]] w fun e w' => aA4 (aX7 m fs b) w e w' := by
 obtain ⟨oa, a2, rfl, _⟩ := hv.slice;have a1 : Bw w (w.alloc (.cells #[.int .i64 m, .slice oa n a2, .string b] 49)) := (Below.refl _ _).alloc (Nat.le_refl _) _;go_enter func166, ntmps166;go_wp2_with fail
 refine (bT5 m oa n a2 b _).mono ?_;rintro e w1 ⟨rfl, a3⟩;have a0 : Bw w w1 := a1.trans (a3.mono a1.size);have a4 := hv.below a0;clear a3 a1 hv;go_wp2_with fail
 refine (cF1 m _ b n base fs _ a4 hn hsz hb).mono ?_;rintro e w2 ⟨b1, rfl, kb, a5⟩;have a6 : Bw w w2 := a0.trans (a5.mono a0.size);have HK : Hid (b1 = true ↔ aX7 m fs b) := kb;clear a4 hsz hb a5 a0 kb;go_wp2_with fail
 go_ret;exact ⟨b1, rfl, HK.out, a6⟩
theorem aN6 (p : Tx) (o1 : Oa) (n1 c1 : Nat) (xs : Ts) (o2 : Oa) (n2 c2 : Nat) (ys : Ts) (st : Int) (v3 : Value) (n3 base : Nat) (fs : Fs) (b : Tx) (t : Int) (w : World) (h1 : aC4 w o1 n1 xs) (h2 : aC4 w o2 n2 ys) (h3 : aB3 w base v3 n3 fs) (hn1 : n1 ≤ 2000000) (hn2 : n2 ≤ 2000000) (hn3 : n3 ≤ 2000000) (hs1 : ∀ i, i < n1 → (aA8 xs i).size ≤ maxLen) (hs2 : ∀ i, i < n2 → (aA8 ys i).size ≤ maxLen) (hs3 : aP6 n3 fs) (hc : aT2 fs) (hp : p.size ≤ maxLen) (hx : b.size ≤ maxLen) (hg : (getV fs aF0).size ≤ 1048576) :
  Calls prog 107 #[.agg #[.string p, .slice o1 n1 c1, .slice o2 n2 c2, .int .i64 st, v3, .string b, .int .i64 t]] w fun e w' => aA4 (ObjP p xs ys st fs b t) w e w' := by
 obtain ⟨o3, c3, rfl, _⟩ := h3.slice;have c6 : Hid (∀ W, Bw w W → aC4 W o1 n1 xs) := fun W h => h1.below h
 have d2 : Hid (∀ W, Bw w W → aC4 W o2 n2 ys) := fun W h => h2.below h
 have c7 : Hid (∀ W, Bw w W → aB3 W base (.slice o3 n3 c3) n3 fs) := fun W h => h3.below h
 have c8 : Hid (xs.length = n1) := h1.1;have c9 : Hid (ys.length = n2) := h2.1;have d3 := hid hs1;have d4 := hid hs2;have d5 := hid hs3;have HC : Hid (aT2 fs) := hc;have d6 := hid hp;have HX := hid hx;have HG := hid hg;obtain ⟨vl, b3⟩ := exq (bD1 fs);have b4 : Hid (bD1 fs = vl) := b3.symm
 have d7 : Hid (vl.length ≤ 2000000) := by
  show _ ≤ _
  have e0 := bF4 (getV fs aF0)
  rw [b3]
  unfold bD1
  rw [List.length_map]
  omega
 clear h1 h2 h3 hs1 hs2 hs3 hc hp hx hg b3;have K0 := jnil w;go_enter func107, ntmps107;go_upto_region 1 with fail
 obtain ⟨q1, b5⟩ := exq (w.heap.size);obtain ⟨w1, a7⟩ := exq (w.alloc (.cells #[.string p, .slice o1 n1 c1, .slice o2 n2 c2, .int .i64 st, .slice o3 n3 c3, .string b, .int .i64 t] 51));have b6 := b5.symm;rw [← a7]; try rw [← b5];have hs1 := hsa a7 b6;have bw := bal a7;have K1 := ja K0 a7 b6;clear bw a7 b6 K0;clear hs1 b5;have b7 := c7c (jb K1 0 rfl);go_wp2_with fail
 refine (bK1 st _ b n3 base fs _ (c7.out _ K1.hb) (by omega) d5.out HX.out).mono ?_;rintro e w2 ⟨u1, rfl, a2, bw⟩;have K2 := jw K1 bw;clear bw K1;clear b7;cases u1
 ·have HF : Hid (¬ ObjP p xs ys st fs b t) := fun h => nomatch a2.2 h.1
  clear a2;go_wp2_with fail
  go_ret;exact aA4.no HF.out K2.hb
 have HR : Hid (aX7 st fs b) := a2.1 rfl;clear a2;have b8 := c7c (jb K2 0 rfl);go_wp2_with fail
 refine (bB5 p _ d6.out).mono ?_;rintro e w3 ⟨u2, rfl, a3, bw⟩;have K3 := jw K2 bw;clear bw K2;clear b8;cases u2
 ·have HF : Hid (¬ ObjP p xs ys st fs b t) := fun h => nomatch a3.2 h.2.1
  clear a3;go_wp2_with fail
  go_ret;exact aA4.no HF.out K3.hb
 have HP : Hid (aH2 p) := a3.1 rfl;clear a3;have b9 := c7c (jb K3 0 rfl);go_wp2_with fail
 refine (aN9 t _).mono ?_;rintro e w4 ⟨rfl, d0⟩;have bw : Below w3.heap.size (w3) w4 := by rw [d0]; exact Below.refl _ _
 clear d0;obtain ⟨u3, a8⟩ : ∃ u3, u3 = decide ((0 : Int) ≤ t ∧ t ≤ 1000000) := ⟨_, rfl⟩;rw [← a8];have K4 := jw K3 bw;clear bw K3;clear b9;cases u3
 ·have HF : Hid (¬ ObjP p xs ys st fs b t) := fun h => absurd h.2.2.1 (of_decide_eq_false a8.symm)
  clear a8;go_wp2_with fail
  go_ret;exact aA4.no HF.out K4.hb
 have HT : Hid (0 ≤ t ∧ t ≤ 1000000) := (show 0 ≤ t ∧ t ≤ 1000000 from of_decide_eq_true a8.symm);clear a8;go_upto_region 3 with fail
 refine wp_region_held_drew (S := fun W => W.heap[q1]? = some (.cells #[.string p, .slice o1 n1 c1, .slice o2 n2 c2, .int .i64 st, .slice o3 n3 c3, .string b, .int .i64 t] 51)) (by kernel_rfl) (jb K4 0 rfl) (fun _ => ?_)
 obtain ⟨w5, hX⟩ := exq w4.drew;have bw := bdr hX;rw [← hX];have K5 := jw K4 bw;have a6 := (jb K5 0 rfl);clear bw hX K4;refine tkP 0 (.pointer (some ⟨q1, 1, none⟩)) 20 rfl rfl a6 ?_;go_frame;refine tkL 1 (.slice o1 n1 c1) 21 rfl rfl (Or.inl ⟨by rfl, by intro W hW; have a0 := hW; have y1 := c7c a0; go_simp⟩) a6 ?_;go_frame;refine tkP 2 (.pointer (some ⟨q1, 3, none⟩)) 22 rfl rfl a6 (tkP 3 (.pointer (some ⟨q1, 4, none⟩)) 23 rfl rfl a6 ?_);go_frame;refine tkL 4 (.slice o3 n3 c3) 24 rfl rfl (Or.inl ⟨by rfl, by intro W hW; have a0 := hW; have y4 := c7c a0; go_simp⟩) a6 ?_;go_frame;refine rd1 5 rfl (fun K hK => ?_)
 go_simp;refine (bJ9 _ n3 base fs _ (c7.out _ K5.hb) (by omega) HC.out HG.out).mono ?_;rintro e w6 ⟨vv, rfl, a4, bw⟩;obtain ⟨oY, pY, rfl⟩ := aA0 a4;rw [b4.out] at a4 ⊢;have K6 := jj K5 (jcR (jN bw) a4 jhn);clear a4;clear bw K5;have d1 := (jb K6 1 rfl);refine hK.out _ _ d1 (fun _ => ?_)
 clear hK K a6;refine rd1 6 rfl (fun K hK => ?_)
 go_simp;refine (cE9 _ _ _ _ _ _ xs vl _ (c6.out _ K6.hb) (by omega) (aF1 (jo K6 0 rfl)) d7.out).mono ?_;rintro e w7 ⟨rfl, bw⟩;obtain ⟨u5, a9⟩ := exq (decide (xs = vl));rw [← a9];have K7 := jw K6 bw;clear bw K6;have a1 := (jb K7 1 rfl);refine hK.out _ _ a1 (fun _ => ?_)
 clear hK K d1;refine tkP 7 (.bool u5) 27 rfl rfl a1 ?_;go_frame;cases u5
 ·have HF : Hid (¬ ObjP p xs ys st fs b t) := fun h => absurd (h.2.2.2.2.1.trans b4.out) (of_decide_eq_false a9.symm)
  clear a9;refine tkN 8 28 rfl rfl a1 (tkN 9 29 rfl rfl a1 (tkN 10 30 rfl rfl a1 ?_));go_frame;refine tkP 11 (.bool false) 31 rfl rfl a1 (tkP 12 (.bool false) 3 rfl rfl a1 ?_);go_frame;clear a1;refine wdn ?_;go_wp2_with fail
  go_ret;exact aA4.no HF.out K7.hb
 have HE : Hid (xs = vl) := (show xs = vl from of_decide_eq_true a9.symm);clear a9;refine tkP 8 (.pointer (some ⟨q1, 1, none⟩)) 28 rfl rfl a1 ?_;go_frame;refine tkL 9 (.slice o1 n1 c1) 29 rfl rfl (Or.inl ⟨by rfl, by intro W hW; have a0 := hW; have y1 := c7c a0; go_simp⟩) a1 ?_;go_frame;refine rd1 10 rfl (fun K hK => ?_)
 go_simp;refine (bY2 _ _ _ xs _ (c6.out _ K7.hb) (by omega) d3.out).mono ?_;rintro e w8 ⟨u4, rfl, a5, bw⟩;have K8 := jw K7 bw;clear bw K7;have b2 := (jb K8 1 rfl);refine hK.out _ _ b2 (fun _ => ?_)
 clear hK K a1;refine tkP 11 (.bool u4) 31 rfl rfl b2 (tkP 12 (.bool u4) 3 rfl rfl b2 ?_);go_frame;clear b2;refine wdn ?_;cases u4
 ·have HF : Hid (¬ ObjP p xs ys st fs b t) := fun h => nomatch a5.2 h.2.2.2.1
  clear a5;go_wp2_with fail
  go_ret;exact aA4.no HF.out K8.hb
 have d8 : Hid (aX1 xs) := a5.1 rfl;clear a5;by_cases hc1 : (n2 : Int) = (n1 : Int)
 rotate_left
 ·have c0 : ((n2 : Int) == (n1 : Int)) = false := by simpa using hc1
  have c4 : ((n2 : Int) != (n1 : Int)) = true := by simpa using hc1
  have HF : Hid (¬ ObjP p xs ys st fs b t) := fun h => by have h1 := h.2.2.2.2.2.1; have h2 := c8.out; have h3 := c9.out; omega
  have c5 := hid hc1;clear hc1;have b0 := c7c (jb K8 1 rfl);go_wp2_with fail
  go_ret;exact aA4.no HF.out K8.hb
 have c0 : ((n2 : Int) == (n1 : Int)) = true := by simpa using hc1
 have c4 : ((n2 : Int) != (n1 : Int)) = false := by simpa using hc1
 have d9 := hid hc1;have c5 := hid hc1;clear hc1;have b0 := c7c (jb K8 1 rfl);go_wp2_with fail
 refine (bT4 _ _ _ ys _ (d2.out _ K8.hb) (by omega) d4.out).mono ?_;rintro e w9 ⟨u6, rfl, b1, bw⟩;have K9 := jw K8 bw;clear bw K8;clear b0;go_wp2_with fail
 go_ret;exact ⟨u6, rfl, ⟨fun h => ⟨HR.out, HP.out, HT.out, d8.out, HE.out.trans b4.out.symm, by have h1 := c8.out; have h2 := c9.out; have h3 := d9.out; omega, b1.1 h⟩, fun h => b1.2 h.2.2.2.2.2.2⟩, K9.hb⟩
theorem bP1 (a b : Tx) (t : Int) (w : World) :
  Calls prog 180 #[.agg #[.int .i64 1, .string a, .string b, .int .i64 t]] w fun e w' => e = .returned (.iface 244 (.agg #[.string a])) ∧ Below w.heap.size w w' := by
 have K0 := jnil w;go_enter func180, ntmps180;go_upto_region 1 with fail
 obtain ⟨q1, a1⟩ := exq (w.heap.size);obtain ⟨w1, a0⟩ := exq (w.alloc (.cells #[.int .i64 1, .string a, .string b, .int .i64 t] 62));have a2 := a1.symm;rw [← a0]; try rw [← a1];have a3 := hsa a0 a2;have bw := bal a0;have K1 := ja K0 a0 a2;clear bw a0 a2 K0;clear a3 a1;have a4 := c4c (jb K1 0 rfl);go_wp2_with fail
 go_ret;exact ⟨rfl, K1.hb⟩
theorem bP2 (a b : Tx) (t : Int) (w : World) :
  Calls prog 180 #[.agg #[.int .i64 2, .string a, .string b, .int .i64 t]] w fun e w' => e = .returned (.iface 246 (.agg #[.string a])) ∧ Below w.heap.size w w' := by
 have K0 := jnil w;go_enter func180, ntmps180;go_upto_region 1 with fail
 obtain ⟨q1, a1⟩ := exq (w.heap.size);obtain ⟨w1, a0⟩ := exq (w.alloc (.cells #[.int .i64 2, .string a, .string b, .int .i64 t] 62));have a2 := a1.symm;rw [← a0]; try rw [← a1];have a3 := hsa a0 a2;have bw := bal a0;have K1 := ja K0 a0 a2;clear bw a0 a2 K0;clear a3 a1;have a4 := c4c (jb K1 0 rfl);go_wp2_with fail
 go_ret;exact ⟨rfl, K1.hb⟩
theorem cB5 (a b : Tx) (t : Int) (w : World) :
  Calls prog 180 #[.agg #[.int .i64 3, .string a, .string b, .int .i64 t]] w fun e w' => e = .returned (.iface 248 (.agg #[.string a, .string b])) ∧ Below w.heap.size w w' := by
 have K0 := jnil w;go_enter func180, ntmps180;go_upto_region 1 with fail
 obtain ⟨q1, a1⟩ := exq (w.heap.size);obtain ⟨w1, a0⟩ := exq (w.alloc (.cells #[.int .i64 3, .string a, .string b, .int .i64 t] 62));have a2 := a1.symm;rw [← a0]; try rw [← a1];have a3 := hsa a0 a2;have bw := bal a0;have K1 := ja K0 a0 a2;clear bw a0 a2 K0;clear a3 a1;have a4 := c4c (jb K1 0 rfl);go_wp2_with fail
 go_ret;exact ⟨rfl, K1.hb⟩
theorem cK0 (k : Int) (a b : Tx) (t : Int) (w : World) (h1 : ¬ k = 1) (h2 : ¬ k = 2) (h3 : ¬ k = 3) :
  Calls prog 180 #[.agg #[.int .i64 k, .string a, .string b, .int .i64 t]] w fun e w' => e = .returned .nilIface ∧ Below w.heap.size w w' := by
 have a5 : ((k : Int) == (1 : Int)) = false := by simpa using h1
 have a6 : ((k : Int) == (2 : Int)) = false := by simpa using h2
 have a7 : ((k : Int) == (3 : Int)) = false := by simpa using h3
 clear h1 h2 h3;have K0 := jnil w;go_enter func180, ntmps180;go_upto_region 1 with fail
 obtain ⟨q1, a1⟩ := exq (w.heap.size);obtain ⟨w1, a0⟩ := exq (w.alloc (.cells #[.int .i64 k, .string a, .string b, .int .i64 t] 62));have a2 := a1.symm;rw [← a0]; try rw [← a1];have a3 := hsa a0 a2;have bw := bal a0;have K1 := ja K0 a0 a2;clear bw a0 a2 K0;clear a3 a1;have a4 := c4c (jb K1 0 rfl);go_wp2_with fail
 go_ret;exact ⟨rfl, K1.hb⟩
theorem cK1 (a : Tx) (t : Int) (w : World) :
  Calls prog 181 #[.iface 244 (.agg #[.string a]), .int .i64 t] w fun e w' => e = .returned (.agg #[.int .i64 1, .string a, .string ⟨#[]⟩, .int .i64 t]) ∧ Below w.heap.size w w' := by
 have a8 : ∀ W : World, (Instr.typeAssert (.iface 244 (.agg #[.string a])) 201 244 true).run prog W = .ok (.tuple #[.agg #[.string a], .bool true]) W := fun _ => by kernel_rfl
 have a9 : ∀ W : World, (Instr.typeAssert (.iface 244 (.agg #[.string a])) 201 246 true).run prog W = .ok (.tuple #[.agg #[.string ⟨#[]⟩], .bool false]) W := fun _ => by kernel_rfl
 have b0 : ∀ W : World, (Instr.typeAssert (.iface 244 (.agg #[.string a])) 201 248 true).run prog W = .ok (.tuple #[.agg #[.string ⟨#[]⟩, .string ⟨#[]⟩], .bool false]) W := fun _ => by kernel_rfl
 have K0 := jnil w;go_enter func181, ntmps181;go_upto_region 1 with fail
 obtain ⟨q1, a3⟩ := exq (w.heap.size);obtain ⟨w1, a0⟩ := exq (w.alloc (.cells #[.int .i64 0, .string ⟨#[]⟩, .string ⟨#[]⟩, .int .i64 0] 62));have a4 := a3.symm;rw [← a0]; try rw [← a3];have b1 := hsa a0 a4;have bw := bal a0;have K1 := ja K0 a0 a4;clear bw a0 a4 K0;clear b1 a3;go_upto_region 4 with fail
 obtain ⟨q2, a5⟩ := exq (w1.heap.size);obtain ⟨w2, a1⟩ := exq (w1.alloc (.cells #[.string a] 244));have a6 := a5.symm;rw [← a1]; try rw [← a5];have b2 := hsa a1 a6;have bw := bal a1;have K2 := ja K1 a1 a6;clear bw a1 a6 K1;clear b2 a5;have b3 := c4f (jb K2 1 rfl);have b4 := c1c (jb K2 0 rfl);go_wp2_with fail
 obtain ⟨w6, a7⟩ := exq ((((w2.setCell ⟨q1, 0, none⟩ (.int .i64 1)).setCell ⟨q1, 1, none⟩ (.string a)).setCell ⟨q1, 2, none⟩ (.string ⟨#[]⟩)).setCell ⟨q1, 3, none⟩ (.int .i64 t));rw [← a7];have K6 := jss K2 1 [(0, _), (1, _), (2, _), (3, _)] a7;clear a7 K2;have a2 := c4c (jb K6 1 rfl);refine bodyPost_ret (v := .agg #[.int .i64 1, .string a, .string ⟨#[]⟩, .int .i64 t]) (by simp [results, results181, go_sem, a2]) rfl ?_;exact ⟨rfl, K6.hb⟩
theorem cK2 (a : Tx) (t : Int) (w : World) :
  Calls prog 181 #[.iface 246 (.agg #[.string a]), .int .i64 t] w fun e w' => e = .returned (.agg #[.int .i64 2, .string a, .string ⟨#[]⟩, .int .i64 t]) ∧ Below w.heap.size w w' := by
 have a8 : ∀ W : World, (Instr.typeAssert (.iface 246 (.agg #[.string a])) 201 244 true).run prog W = .ok (.tuple #[.agg #[.string ⟨#[]⟩], .bool false]) W := fun _ => by kernel_rfl
 have a9 : ∀ W : World, (Instr.typeAssert (.iface 246 (.agg #[.string a])) 201 246 true).run prog W = .ok (.tuple #[.agg #[.string a], .bool true]) W := fun _ => by kernel_rfl
 have b0 : ∀ W : World, (Instr.typeAssert (.iface 246 (.agg #[.string a])) 201 248 true).run prog W = .ok (.tuple #[.agg #[.string ⟨#[]⟩, .string ⟨#[]⟩], .bool false]) W := fun _ => by kernel_rfl
 have K0 := jnil w;go_enter func181, ntmps181;go_upto_region 1 with fail
 obtain ⟨q1, a3⟩ := exq (w.heap.size);obtain ⟨w1, a0⟩ := exq (w.alloc (.cells #[.int .i64 0, .string ⟨#[]⟩, .string ⟨#[]⟩, .int .i64 0] 62));have a4 := a3.symm;rw [← a0]; try rw [← a3];have b1 := hsa a0 a4;have bw := bal a0;have K1 := ja K0 a0 a4;clear bw a0 a4 K0;clear b1 a3;go_upto_region 7 with fail
 obtain ⟨q2, a5⟩ := exq (w1.heap.size);obtain ⟨w2, a1⟩ := exq (w1.alloc (.cells #[.string a] 246));have a6 := a5.symm;rw [← a1]; try rw [← a5];have b2 := hsa a1 a6;have bw := bal a1;have K2 := ja K1 a1 a6;clear bw a1 a6 K1;clear b2 a5;have b3 := c4f (jb K2 1 rfl);have b4 := c1c (jb K2 0 rfl);go_wp2_with fail
 obtain ⟨w6, a7⟩ := exq ((((w2.setCell ⟨q1, 0, none⟩ (.int .i64 2)).setCell ⟨q1, 1, none⟩ (.string a)).setCell ⟨q1, 2, none⟩ (.string ⟨#[]⟩)).setCell ⟨q1, 3, none⟩ (.int .i64 t));rw [← a7];have K6 := jss K2 1 [(0, _), (1, _), (2, _), (3, _)] a7;clear a7 K2;have a2 := c4c (jb K6 1 rfl);refine bodyPost_ret (v := .agg #[.int .i64 2, .string a, .string ⟨#[]⟩, .int .i64 t]) (by simp [results, results181, go_sem, a2]) rfl ?_;exact ⟨rfl, K6.hb⟩
theorem cQ8 (a b : Tx) (t : Int) (w : World) :
  Calls prog 181 #[.iface 248 (.agg #[.string a, .string b]), .int .i64 t] w fun e w' => e = .returned (.agg #[.int .i64 3, .string a, .string b, .int .i64 t]) ∧ Below w.heap.size w w' := by
 have a8 : ∀ W : World, (Instr.typeAssert (.iface 248 (.agg #[.string a, .string b])) 201 244 true).run prog W = .ok (.tuple #[.agg #[.string ⟨#[]⟩], .bool false]) W := fun _ => by kernel_rfl
 have a9 : ∀ W : World, (Instr.typeAssert (.iface 248 (.agg #[.string a, .string b])) 201 246 true).run prog W = .ok (.tuple #[.agg #[.string ⟨#[]⟩], .bool false]) W := fun _ => by kernel_rfl
 have b0 : ∀ W : World, (Instr.typeAssert (.iface 248 (.agg #[.string a, .string b])) 201 248 true).run prog W = .ok (.tuple #[.agg #[.string a, .string b], .bool true]) W := fun _ => by kernel_rfl
 have K0 := jnil w;go_enter func181, ntmps181;go_upto_region 1 with fail
 obtain ⟨q1, a3⟩ := exq (w.heap.size);obtain ⟨w1, a0⟩ := exq (w.alloc (.cells #[.int .i64 0, .string ⟨#[]⟩, .string ⟨#[]⟩, .int .i64 0] 62));have a4 := a3.symm;rw [← a0]; try rw [← a3];have b1 := hsa a0 a4;have bw := bal a0;have K1 := ja K0 a0 a4;clear bw a0 a4 K0;clear b1 a3;go_upto_region 10 with fail
 obtain ⟨q2, a5⟩ := exq (w1.heap.size);obtain ⟨w2, a1⟩ := exq (w1.alloc (.cells #[.string a, .string b] 248));have a6 := a5.symm;rw [← a1]; try rw [← a5];have b2 := hsa a1 a6;have bw := bal a1;have K2 := ja K1 a1 a6;clear bw a1 a6 K1;clear b2 a5;have b3 := c4f (jb K2 1 rfl);have b4 := c2c (jb K2 0 rfl);go_wp2_with fail
 obtain ⟨w6, a7⟩ := exq ((((w2.setCell ⟨q1, 0, none⟩ (.int .i64 3)).setCell ⟨q1, 1, none⟩ (.string a)).setCell ⟨q1, 2, none⟩ (.string b)).setCell ⟨q1, 3, none⟩ (.int .i64 t));rw [← a7];have K6 := jss K2 1 [(0, _), (1, _), (2, _), (3, _)] a7;clear a7 K2;have a2 := c4c (jb K6 1 rfl);refine bodyPost_ret (v := .agg #[.int .i64 3, .string a, .string b, .int .i64 t]) (by simp [results, results181, go_sem, a2]) rfl ?_;exact ⟨rfl, K6.hb⟩
theorem cK3 (a : Tx) (w : World) (ha : a.size ≤ maxLen) :
  Calls prog 330 #[.agg #[.string a]] w fun e w' => aA4 (aH2 a) w e w' := by
 have a4 := hid ha;clear ha;have K0 := jnil w;go_enter func330, ntmps330;go_upto_region 1 with fail
 obtain ⟨q1, a1⟩ := exq (w.heap.size);obtain ⟨w1, a0⟩ := exq (w.alloc (.cells #[.string a] 244));have a2 := a1.symm;rw [← a0]; try rw [← a1];have a5 := hsa a0 a2;have bw := bal a0;have K1 := ja K0 a0 a2;clear bw a0 a2 K0;clear a5 a1;have a3 := c1c (jb K1 0 rfl);go_wp2_with fail
 refine (bB5 a _ a4.out).mono ?_;rintro e w2 ⟨u, rfl, a6, bw⟩;have K2 := jw K1 bw;clear bw K1;clear a3;go_wp2_with fail
 go_ret;exact ⟨u, rfl, a6, K2.hb⟩
theorem cK4 (a : Tx) (w : World) (ha : a.size ≤ maxLen) :
  Calls prog 332 #[.agg #[.string a]] w fun e w' => aA4 (aH2 a) w e w' := by
 have a4 := hid ha;clear ha;have K0 := jnil w;go_enter func332, ntmps332;go_upto_region 1 with fail
 obtain ⟨q1, a1⟩ := exq (w.heap.size);obtain ⟨w1, a0⟩ := exq (w.alloc (.cells #[.string a] 246));have a2 := a1.symm;rw [← a0]; try rw [← a1];have a5 := hsa a0 a2;have bw := bal a0;have K1 := ja K0 a0 a2;clear bw a0 a2 K0;clear a5 a1;have a3 := c1c (jb K1 0 rfl);go_wp2_with fail
 refine (bB5 a _ a4.out).mono ?_;rintro e w2 ⟨u, rfl, a6, bw⟩;have K2 := jw K1 bw;clear bw K1;clear a3;go_wp2_with fail
 go_ret;exact ⟨u, rfl, a6, K2.hb⟩
theorem cQ9 (a b : Tx) (w : World) (ha : a.size ≤ maxLen) (hb : b.size ≤ maxLen) :
  Calls prog 334 #[.agg #[.string a, .string b]] w fun e w' => aA4 (aL0 a ∧ aL1 b) w e w' := by
 have a7 := hid ha;have a8 := hid hb;clear ha hb;have K0 := jnil w;go_enter func334, ntmps334;go_upto_region 1 with fail
 obtain ⟨q1, a2⟩ := exq (w.heap.size);obtain ⟨w1, a0⟩ := exq (w.alloc (.cells #[.string a, .string b] 248));have a3 := a2.symm;rw [← a0]; try rw [← a2];have a9 := hsa a0 a3;have bw := bal a0;have K1 := ja K0 a0 a3;clear bw a0 a3 K0;clear a9 a2;have a4 := c2c (jb K1 0 rfl);go_wp2_with fail
 refine (aO1 a _ a7.out).mono ?_;rintro e w2 ⟨u, rfl, a1, bw⟩;have K2 := jw K1 bw;clear bw K1;clear a4;cases u
 ·have HU : Hid (¬ aL0 a) := fun h => nomatch a1.2 h
  clear a1;go_wp2_with fail
  go_ret;exact ⟨false, rfl, ⟨fun h => (by cases h), fun h => absurd h.1 HU.out⟩, K2.hb⟩
 have HU : Hid (aL0 a) := a1.1 rfl;clear a1;have a5 := c2c (jb K2 0 rfl);go_wp2_with fail
 refine (aO3 b _ a8.out).mono ?_;rintro e w3 ⟨v, rfl, a6, bw⟩;have K3 := jw K2 bw;clear bw K2;clear a5;go_wp2_with fail
 go_ret;exact ⟨v, rfl, ⟨fun h => ⟨HU.out, a6.1 h⟩, fun h => a6.2 h.2⟩, K3.hb⟩
theorem cT7 (a : Tx) (p : Tx) (v1 v2 : Value) (st : Int) (v3 : Value) (d : Tx) (u : Int) (w : World) :
  Calls prog 329 #[.agg #[.string a], .agg #[.string p, v1, v2, .int .i64 st, v3, .string d, .int .i64 u]] w fun e w' => aA4 (p = a) w e w' := by
 have K0 := jnil w;go_enter func329, ntmps329;go_upto_region 1 with fail
 obtain ⟨q1, a2⟩ := exq (w.heap.size);obtain ⟨w1, a0⟩ := exq (w.alloc (.cells #[.string a] 244));have a3 := a2.symm;rw [← a0]; try rw [← a2];have a7 := hsa a0 a3;have bw := bal a0;have K1 := ja K0 a0 a3;clear bw a0 a3 K0;obtain ⟨q2, a4⟩ := exq (q1 + 1);obtain ⟨w2, a1⟩ := exq (w1.alloc (.cells #[.string p, v1, v2, .int .i64 st, v3, .string d, .int .i64 u] 51));have a5 : w1.heap.size = q2 := by rw [a4]; exact a7
 rw [← a1]; try rw [← a4];have a8 := hsa a1 a5;have bw := bal a1;have K2 := ja K1 a1 a5;clear bw a1 a5 K1;clear a8 a4 a7 a2;have a9 := c1c (jb K2 1 rfl);have b0 := c7c (jb K2 0 rfl);by_cases hc1 : p = a
 rotate_left
 ·have a6 : ((p).toList == (a).toList) = false := aG2 hc1;go_wp2_with fail
  go_ret;exact ⟨false, rfl, by simpa using hc1, K2.hb⟩
 have a6 : ((p).toList == (a).toList) = true := (aI2 _ _).2 hc1;go_wp2_with fail
 go_ret;exact ⟨true, rfl, by simpa using hc1, K2.hb⟩
theorem bP3 (a p : Tx) : (bs a).isPrefixOf (bs p) = true ↔ bL1 a p := by
 rw [List.isPrefixOf_iff_prefix];constructor
 ·rintro ⟨r, h⟩; exact ⟨r, h.symm⟩
 rintro ⟨r, h⟩; exact ⟨r, h.symm⟩
theorem cT8 (a : Tx) (p : Tx) (v1 v2 : Value) (st : Int) (v3 : Value) (d : Tx) (u : Int) (w : World) (hp : p.size ≤ maxLen) :
  Calls prog 331 #[.agg #[.string a], .agg #[.string p, v1, v2, .int .i64 st, v3, .string d, .int .i64 u]] w fun e w' => aA4 (bL1 a p) w e w' := by
 have b3 := hid hp;clear hp;have K0 := jnil w;go_enter func331, ntmps331;go_upto_region 1 with fail
 obtain ⟨q1, a2⟩ := exq (w.heap.size);obtain ⟨w1, a0⟩ := exq (w.alloc (.cells #[.string a] 246));have a3 := a2.symm;rw [← a0]; try rw [← a2];have a9 := hsa a0 a3;have bw := bal a0;have K1 := ja K0 a0 a3;clear bw a0 a3 K0;obtain ⟨q2, a4⟩ := exq (q1 + 1);obtain ⟨w2, a1⟩ := exq (w1.alloc (.cells #[.string p, v1, v2, .int .i64 st, v3, .string d, .int .i64 u] 51));have a5 : w1.heap.size = q2 := by rw [a4]; exact a9
 rw [← a1]; try rw [← a4];have b1 := hsa a1 a5;have bw := bal a1;have K2 := ja K1 a1 a5;clear bw a1 a5 K1;clear b1 a4 a9 a2;have a6 := c1c (jb K2 1 rfl);have a7 := c7c (jb K2 0 rfl);go_wp2_with fail
 refine (Tryz.strings_HasPrefix p a _).mono ?_;rintro e w3 ⟨rfl, b0⟩;have bw : Below w2.heap.size (w2) w3 := by rw [b0]; exact Below.refl _ _
 clear b0;obtain ⟨u9, a8⟩ := exq (Lib.hasPrefix p.data.toList a.data.toList);rw [← a8];have b2 := hid a8;clear a8;have K3 := jw K2 bw;clear bw K2;clear a6 a7;go_wp2_with fail
 go_ret;exact ⟨u9, rfl, by rw [b2.out]; exact bP3 a p, K3.hb⟩
theorem cT9 (a b : Tx) (p : Tx) (v1 v2 : Value) (st : Int) (v3 : Value) (d : Tx) (u : Int) (w : World) (n3 base : Nat) (fs : Fs) (h3 : aB3 w base v3 n3 fs) (hn3 : n3 ≤ 2000000) (hc : aT2 fs) :
    Calls prog 333 #[.agg #[.string a, .string b], .agg #[.string p, v1, v2, .int .i64 st, v3, .string d, .int .i64 u]] w fun e w' => aA4 (getB fs a = true ∧ getV fs a = b) w e w' := by
  have b5 : Hid (∀ W, Bw w W → aB3 W base v3 n3 fs) := fun W h => h3.below h
  have HC : Hid (aT2 fs) := hc;clear h3 hc;have K0 := jnil w;go_enter func333, ntmps333;go_upto_region 1 with fail
  obtain ⟨q1, a5⟩ := exq (w.heap.size);obtain ⟨w1, a0⟩ := exq (w.alloc (.cells #[.string a, .string b] 248));have a6 := a5.symm;rw [← a0]; try rw [← a5];have b4 := hsa a0 a6;have bw := bal a0;have K1 := ja K0 a0 a6;clear bw a0 a6 K0;obtain ⟨q2, a7⟩ := exq (q1 + 1);obtain ⟨w2, a1⟩ := exq (w1.alloc (.cells #[.string p, v1, v2, .int .i64 st, v3, .string d, .int .i64 u] 51));have a8 : w1.heap.size = q2 := by rw [a7]; exact b4
  rw [← a1]; try rw [← a7];have b6 := hsa a1 a8;have bw := bal a1;have K2 := ja K1 a1 a8;clear bw a1 a8 K1;clear b6 a7 b4 a5;have a9 := c2c (jb K2 1 rfl);have b0 := c7c (jb K2 0 rfl);go_wp2_with fail
  refine (bG2 _ n3 base fs a _ (b5.out _ K2.hb) (by omega) HC.out).mono ?_;rintro e w3 ⟨rfl, bw⟩;obtain ⟨gv, b1⟩ := exq (getV fs a);obtain ⟨ug, a2⟩ := exq (getB fs a);have b2 : Hid (getV fs a = gv) := b1.symm;rw [← b1, ← a2];clear b1;have K3 := jw K2 bw;clear bw K2;clear a9 b0;cases ug
  ·have a3 : Hid (¬ getB fs a = true) := (by show ¬ _; rw [← a2]; decide);clear a2;go_wp2_with fail
   go_ret;refine ⟨false, rfl, ?_, K3.hb⟩;have z1 := a3.out;have z2 := b2.out
   first
     | (have z3 := a4.out
        simp_all; done)
     | (simp_all; done)
  have a3 : Hid (getB fs a = true) := a2.symm;clear a2;have b7 := c2c (jb K3 1 rfl);by_cases hc1 : gv = b
  rotate_left
  ·have b3 : ((gv).toList == (b).toList) = false := aG2 hc1;have a4 := hid hc1;go_wp2_with fail
   go_ret;refine ⟨false, rfl, ?_, K3.hb⟩;have z1 := a3.out;have z2 := b2.out
   first
     | (have z3 := a4.out
        simp_all; done)
     | (simp_all; done)
  have b3 : ((gv).toList == (b).toList) = true := (aI2 _ _).2 hc1;have a4 : Hid (gv = b) := hc1;go_wp2_with fail
  go_ret;refine ⟨true, rfl, ?_, K3.hb⟩;have z1 := a3.out;have z2 := b2.out
  first
    | (have z3 := a4.out
       simp_all; done)
    | (simp_all; done)
theorem aZ3 : prog.eqGuardType prog.depth 62 = false := by kernel_rfl
open Classical in
theorem cR0 (k k' : Int) (a a' b b' : Tx) (t t' : Int) (w : World) : (Op.equalIn 10000 62 (.agg #[.int .i64 k, .string a, .string b, .int .i64 t]) (.agg #[.int .i64 k', .string a', .string b', .int .i64 t'])).run prog w = .ok (decide (k = k' ∧ a = a' ∧ b = b' ∧ t = t')) w := by
 have u3 := underlying3;have a3 := isAgg3;have z3 := sizeOf3;have u9 := underlying9;have a9 := isAgg9;have z9 := sizeOf9;have hS : prog.underlying 62 = some (.struct (prog.fieldsOf 62)) := by kernel_rfl
 have hp : prog.stoodInHeld 62 = false := by kernel_rfl
 rw [show (10000 : Nat) = 9999 + 1 from rfl, run_equalIn_agg w 9999 62 _ _ hS hp];simp only [Program.fieldsOf, underlying62]
 have ea : ∀ x y : ByteArray, (x.toList == y.toList) = decide (x = y) := fun x y => by
  by_cases h : x = y
  ·rw [decide_eq_true h]; exact (aI2 _ _).2 h
  ·rw [decide_eq_false h]; exact aG2 h
 go_simp;by_cases h1 : k = k'
 rotate_left
 ·simp [h1]
 by_cases h2 : a = a'
 rotate_left
 ·simp [h1, h2]
 by_cases h3 : b = b'
 rotate_left
 ·simp [h1, h2, h3]
 by_cases h4 : t = t'
 ·simp [h1, h2, h3, h4]
 simp [h1, h2, h3, h4]
open Classical in
theorem bT6 (k k' : Int) (a a' b b' : Tx) (t t' : Int) (w : World) : (binOp .eql 62 (.agg #[.int .i64 k, .string a, .string b, .int .i64 t]) (.agg #[.int .i64 k', .string a', .string b', .int .i64 t'])).run prog w = .ok (.bool (decide (k = k' ∧ a = a' ∧ b = b' ∧ t = t'))) w := by
 rw [run_eql_struct, cR0];rfl
theorem bT7 (a : Tx) (t : Int) (w : World) (ha : a.size ≤ maxLen) :
  Calls prog 124 #[.agg #[.int .i64 1, .string a, .string ⟨#[]⟩, .int .i64 t]] w fun e w' => aA4 (BanP 1 a ⟨#[]⟩ t) w e w' := by
 classical
 have b6 := hid ha;have b8 : ∀ W : World, (binOp .neq 201 (.iface 244 (.agg #[.string a])) .nilIface).run prog W = .ok (.bool true) W := fun _ => by kernel_rfl
 have b9 : ∀ W : World, (nilAhead 157 244 (.agg #[.string a]) "loop.example/g00239/impl.right").run prog W = .ok (some false) W := fun _ => by kernel_rfl
 have c0 : ∀ W : World, (method 157 244 (.agg #[.string a]) "loop.example/g00239/impl.right").run prog W = .ok (330, .agg #[.string a]) W := fun _ => by kernel_rfl
 have c1 := aZ3
 have c2 : ∀ W : World, (binOp .eql 62 (.agg #[.int .i64 1, .string a, .string ⟨#[]⟩, .int .i64 t]) (.agg #[.int .i64 1, .string a, .string ⟨#[]⟩, .int .i64 t])).run prog W = .ok (.bool true) W := fun W => by
  rw [bT6]
  first | (simp; done) | (have z := HB0.out; simp; exact fun e => z e.symm)
 clear ha;have K0 := jnil w;go_enter func124, ntmps124;go_upto_region 1 with fail
 obtain ⟨q1, b0⟩ := exq (w.heap.size);obtain ⟨w1, a4⟩ := exq (w.alloc (.cells #[.int .i64 1, .string a, .string ⟨#[]⟩, .int .i64 t] 62));have b1 := b0.symm;rw [← a4]; try rw [← b0];have b7 := hsa a4 b1;have bw := bal a4;have K1 := ja K0 a4 b1;clear bw a4 b1 K0;clear b7 b0;have b2 := c4c (jb K1 0 rfl);go_wp2_with fail
 refine (bP1 a ⟨#[]⟩ t _).mono ?_;rintro e w2 ⟨rfl, bw⟩;have K2 := jw K1 bw;clear bw K1;clear b2;go_upto_region 2 with fail
 refine wp_region_held_drew (S := fun W => W.heap[q1]? = some (.cells #[.int .i64 1, .string a, .string ⟨#[]⟩, .int .i64 t] 62)) (by kernel_rfl) (jb K2 0 rfl) (fun _ => ?_)
 obtain ⟨w3, hX⟩ := exq w2.drew;have bw := bdr hX;rw [← hX];have K3 := jw K2 bw;have a5 := (jb K3 0 rfl);clear bw hX K2;refine tkP 0 (.iface 244 (.agg #[.string a])) 6 rfl rfl a5 (tkP 1 (.bool true) 7 rfl rfl a5 (tkP 2 (.bool true) 8 rfl rfl a5 ?_));go_frame;refine tkP 3 (.iface 244 (.agg #[.string a])) 9 rfl rfl a5 ?_;go_frame;refine rd1 4 rfl (fun K hK => ?_)
 go_simp;refine (cK3 a _ b6.out).mono ?_;rintro e w4 ⟨ur, rfl, a3, bw⟩;have K4 := jw K3 bw;clear bw K3;have a0 := (jb K4 0 rfl);refine hK.out _ _ a0 (fun _ => ?_)
 clear hK K a5;refine tkP 5 (.bool ur) 11 rfl rfl a0 (tkP 6 (.bool ur) 12 rfl rfl a0 ?_);go_frame;cases ur
 ·have a9 : Hid (¬ (aH2 a)) := fun h => nomatch a3.2 h
  clear a3;refine tkN 7 13 rfl rfl a0 (tkN 8 14 rfl rfl a0 (tkN 9 15 rfl rfl a0 ?_));go_frame;refine tkP 10 (.bool false) 16 rfl rfl a0 (tkP 11 (.bool false) 17 rfl rfl a0 (tkN 12 18 rfl rfl a0 ?_));go_frame;refine tkN 13 19 rfl rfl a0 (tkN 14 20 rfl rfl a0 (tkN 15 21 rfl rfl a0 ?_));go_frame;refine tkN 16 22 rfl rfl a0 (tkN 17 23 rfl rfl a0 (tkP 18 (.bool false) 24 rfl rfl a0 ?_));go_frame;refine tkP 19 (.bool false) 2 rfl rfl a0 ?_;go_frame;clear a0;refine wdn ?_;go_wp2_with fail
  go_ret;refine ⟨false, rfl, ?_, K4.hb⟩;have a6 := a9.out;unfold BanP;simp_all
 have a9 : Hid (aH2 a) := a3.1 rfl;clear a3;refine tkP 7 (.pointer (some ⟨q1, 3, none⟩)) 13 rfl rfl a0 ?_;go_frame;refine tkL 8 (.int .i64 t) 14 rfl rfl (Or.inl ⟨by rfl, by intro W hW; have a2 := hW; have y3 := c4c a2; go_simp⟩) a0 ?_;go_frame;refine rd1 9 rfl (fun K hK => ?_)
 go_simp;refine (aN9 t _).mono ?_;rintro e w5 ⟨rfl, b5⟩;have bw : Below w4.heap.size (w4) w5 := by rw [b5]; exact Below.refl _ _
 clear b5;obtain ⟨ut, a7⟩ : ∃ u, u = decide ((0 : Int) ≤ t ∧ t ≤ 1000000) := ⟨_, rfl⟩;rw [← a7];have K5 := jw K4 bw;clear bw K4;have a1 := (jb K5 0 rfl);refine hK.out _ _ a1 (fun _ => ?_)
 clear hK K a0;refine tkP 10 (.bool ut) 16 rfl rfl a1 (tkP 11 (.bool ut) 17 rfl rfl a1 ?_);go_frame;cases ut
 ·have b3 : Hid (¬ (0 ≤ t ∧ t ≤ 1000000)) := (show ¬ (0 ≤ t ∧ t ≤ 1000000) from of_decide_eq_false a7.symm);clear a7;refine tkN 12 18 rfl rfl a1 (tkN 13 19 rfl rfl a1 (tkN 14 20 rfl rfl a1 ?_));go_frame;refine tkN 15 21 rfl rfl a1 (tkN 16 22 rfl rfl a1 (tkN 17 23 rfl rfl a1 ?_));go_frame;refine tkP 18 (.bool false) 24 rfl rfl a1 (tkP 19 (.bool false) 2 rfl rfl a1 ?_);go_frame;clear a1;refine wdn ?_;go_wp2_with fail
  go_ret;refine ⟨false, rfl, ?_, K5.hb⟩;have a6 := a9.out;have b4 := b3.out;unfold BanP;simp_all
 have b3 : Hid (0 ≤ t ∧ t ≤ 1000000) := (show 0 ≤ t ∧ t ≤ 1000000 from of_decide_eq_true a7.symm);clear a7;refine tkP 12 (.iface 244 (.agg #[.string a])) 18 rfl rfl a1 (tkP 13 (.pointer (some ⟨q1, 3, none⟩)) 19 rfl rfl a1 ?_);go_frame;refine tkL 14 (.int .i64 t) 20 rfl rfl (Or.inl ⟨by rfl, by intro W hW; have a2 := hW; have y3 := c4c a2; go_simp⟩) a1 ?_;go_frame;refine tkL 16 (.agg #[.int .i64 1, .string a, .string ⟨#[]⟩, .int .i64 t]) 22 rfl rfl (Or.inl ⟨by rfl, by intro W hW; have a2 := hW; have y0 := c4c a2; go_simp⟩) a1 ?_;go_frame;refine rd1 15 rfl (fun K hK => ?_)
 go_simp;refine (cK1 a t _).mono ?_;rintro e w6 ⟨rfl, bw⟩;have K6 := jw K5 bw;clear bw K5;have a8 := (jb K6 0 rfl);refine hK.out _ _ a8 (fun _ => ?_)
 clear hK K a1;refine tkP 17 (.bool true) 23 rfl rfl a8 (tkP 18 (.bool true) 24 rfl rfl a8 (tkP 19 (.bool true) 2 rfl rfl a8 ?_));go_frame;clear a8;refine wdn ?_;go_wp2_with fail
 go_ret;refine ⟨true, rfl, ?_, K6.hb⟩;have a6 := a9.out;have b4 := b3.out;unfold BanP;simp_all
theorem bT8 (a b : Tx) (t : Int) (w : World) (ha : a.size ≤ maxLen) (hb0 : ¬ b = ⟨#[]⟩) :
  Calls prog 124 #[.agg #[.int .i64 1, .string a, .string b, .int .i64 t]] w fun e w' => aA4 (BanP 1 a b t) w e w' := by
 classical
 have b8 := hid ha;have a9 := hid hb0;have c0 : ∀ W : World, (binOp .neq 201 (.iface 244 (.agg #[.string a])) .nilIface).run prog W = .ok (.bool true) W := fun _ => by kernel_rfl
 have c1 : ∀ W : World, (nilAhead 157 244 (.agg #[.string a]) "loop.example/g00239/impl.right").run prog W = .ok (some false) W := fun _ => by kernel_rfl
 have c2 : ∀ W : World, (method 157 244 (.agg #[.string a]) "loop.example/g00239/impl.right").run prog W = .ok (330, .agg #[.string a]) W := fun _ => by kernel_rfl
 have c3 := aZ3
 have c4 : ∀ W : World, (binOp .eql 62 (.agg #[.int .i64 1, .string a, .string ⟨#[]⟩, .int .i64 t]) (.agg #[.int .i64 1, .string a, .string b, .int .i64 t])).run prog W = .ok (.bool false) W := fun W => by
  rw [bT6]
  first | (simp; done) | (have z := a9.out; simp; exact fun e => z e.symm)
 clear ha hb0;have K0 := jnil w;go_enter func124, ntmps124;go_upto_region 1 with fail
 obtain ⟨q1, b1⟩ := exq (w.heap.size);obtain ⟨w1, a4⟩ := exq (w.alloc (.cells #[.int .i64 1, .string a, .string b, .int .i64 t] 62));have b2 := b1.symm;rw [← a4]; try rw [← b1];have b9 := hsa a4 b2;have bw := bal a4;have K1 := ja K0 a4 b2;clear bw a4 b2 K0;clear b9 b1;have b3 := c4c (jb K1 0 rfl);go_wp2_with fail
 refine (bP1 a b t _).mono ?_;rintro e w2 ⟨rfl, bw⟩;have K2 := jw K1 bw;clear bw K1;clear b3;go_upto_region 2 with fail
 refine wp_region_held_drew (S := fun W => W.heap[q1]? = some (.cells #[.int .i64 1, .string a, .string b, .int .i64 t] 62)) (by kernel_rfl) (jb K2 0 rfl) (fun _ => ?_)
 obtain ⟨w3, hX⟩ := exq w2.drew;have bw := bdr hX;rw [← hX];have K3 := jw K2 bw;have a5 := (jb K3 0 rfl);clear bw hX K2;refine tkP 0 (.iface 244 (.agg #[.string a])) 6 rfl rfl a5 (tkP 1 (.bool true) 7 rfl rfl a5 (tkP 2 (.bool true) 8 rfl rfl a5 ?_));go_frame;refine tkP 3 (.iface 244 (.agg #[.string a])) 9 rfl rfl a5 ?_;go_frame;refine rd1 4 rfl (fun K hK => ?_)
 go_simp;refine (cK3 a _ b8.out).mono ?_;rintro e w4 ⟨ur, rfl, a3, bw⟩;have K4 := jw K3 bw;clear bw K3;have a0 := (jb K4 0 rfl);refine hK.out _ _ a0 (fun _ => ?_)
 clear hK K a5;refine tkP 5 (.bool ur) 11 rfl rfl a0 (tkP 6 (.bool ur) 12 rfl rfl a0 ?_);go_frame;cases ur
 ·have b0 : Hid (¬ (aH2 a)) := fun h => nomatch a3.2 h
  clear a3;refine tkN 7 13 rfl rfl a0 (tkN 8 14 rfl rfl a0 (tkN 9 15 rfl rfl a0 ?_));go_frame;refine tkP 10 (.bool false) 16 rfl rfl a0 (tkP 11 (.bool false) 17 rfl rfl a0 (tkN 12 18 rfl rfl a0 ?_));go_frame;refine tkN 13 19 rfl rfl a0 (tkN 14 20 rfl rfl a0 (tkN 15 21 rfl rfl a0 ?_));go_frame;refine tkN 16 22 rfl rfl a0 (tkN 17 23 rfl rfl a0 (tkP 18 (.bool false) 24 rfl rfl a0 ?_));go_frame;refine tkP 19 (.bool false) 2 rfl rfl a0 ?_;go_frame;clear a0;refine wdn ?_;go_wp2_with fail
  go_ret;refine ⟨false, rfl, ?_, K4.hb⟩;have a6 := b0.out;have b6 := a9.out;unfold BanP;simp_all
 have b0 : Hid (aH2 a) := a3.1 rfl;clear a3;refine tkP 7 (.pointer (some ⟨q1, 3, none⟩)) 13 rfl rfl a0 ?_;go_frame;refine tkL 8 (.int .i64 t) 14 rfl rfl (Or.inl ⟨by rfl, by intro W hW; have a2 := hW; have y3 := c4c a2; go_simp⟩) a0 ?_;go_frame;refine rd1 9 rfl (fun K hK => ?_)
 go_simp;refine (aN9 t _).mono ?_;rintro e w5 ⟨rfl, b7⟩;have bw : Below w4.heap.size (w4) w5 := by rw [b7]; exact Below.refl _ _
 clear b7;obtain ⟨ut, a7⟩ : ∃ u, u = decide ((0 : Int) ≤ t ∧ t ≤ 1000000) := ⟨_, rfl⟩;rw [← a7];have K5 := jw K4 bw;clear bw K4;have a1 := (jb K5 0 rfl);refine hK.out _ _ a1 (fun _ => ?_)
 clear hK K a0;refine tkP 10 (.bool ut) 16 rfl rfl a1 (tkP 11 (.bool ut) 17 rfl rfl a1 ?_);go_frame;cases ut
 ·have b4 : Hid (¬ (0 ≤ t ∧ t ≤ 1000000)) := (show ¬ (0 ≤ t ∧ t ≤ 1000000) from of_decide_eq_false a7.symm);clear a7;refine tkN 12 18 rfl rfl a1 (tkN 13 19 rfl rfl a1 (tkN 14 20 rfl rfl a1 ?_));go_frame;refine tkN 15 21 rfl rfl a1 (tkN 16 22 rfl rfl a1 (tkN 17 23 rfl rfl a1 ?_));go_frame;refine tkP 18 (.bool false) 24 rfl rfl a1 (tkP 19 (.bool false) 2 rfl rfl a1 ?_);go_frame;clear a1;refine wdn ?_;go_wp2_with fail
  go_ret;refine ⟨false, rfl, ?_, K5.hb⟩;have a6 := b0.out;have b5 := b4.out;have b6 := a9.out;unfold BanP;simp_all
 have b4 : Hid (0 ≤ t ∧ t ≤ 1000000) := (show 0 ≤ t ∧ t ≤ 1000000 from of_decide_eq_true a7.symm);clear a7;refine tkP 12 (.iface 244 (.agg #[.string a])) 18 rfl rfl a1 (tkP 13 (.pointer (some ⟨q1, 3, none⟩)) 19 rfl rfl a1 ?_);go_frame;refine tkL 14 (.int .i64 t) 20 rfl rfl (Or.inl ⟨by rfl, by intro W hW; have a2 := hW; have y3 := c4c a2; go_simp⟩) a1 ?_;go_frame;refine tkL 16 (.agg #[.int .i64 1, .string a, .string b, .int .i64 t]) 22 rfl rfl (Or.inl ⟨by rfl, by intro W hW; have a2 := hW; have y0 := c4c a2; go_simp⟩) a1 ?_;go_frame;refine rd1 15 rfl (fun K hK => ?_)
 go_simp;refine (cK1 a t _).mono ?_;rintro e w6 ⟨rfl, bw⟩;have K6 := jw K5 bw;clear bw K5;have a8 := (jb K6 0 rfl);refine hK.out _ _ a8 (fun _ => ?_)
 clear hK K a1;refine tkP 17 (.bool false) 23 rfl rfl a8 (tkP 18 (.bool false) 24 rfl rfl a8 (tkP 19 (.bool false) 2 rfl rfl a8 ?_));go_frame;clear a8;refine wdn ?_;go_wp2_with fail
 go_ret;refine ⟨false, rfl, ?_, K6.hb⟩;have a6 := b0.out;have b5 := b4.out;have b6 := a9.out;unfold BanP;simp_all
theorem bT9 (a : Tx) (t : Int) (w : World) (ha : a.size ≤ maxLen) :
  Calls prog 124 #[.agg #[.int .i64 2, .string a, .string ⟨#[]⟩, .int .i64 t]] w fun e w' => aA4 (BanP 2 a ⟨#[]⟩ t) w e w' := by
 classical
 have b6 := hid ha;have b8 : ∀ W : World, (binOp .neq 201 (.iface 246 (.agg #[.string a])) .nilIface).run prog W = .ok (.bool true) W := fun _ => by kernel_rfl
 have b9 : ∀ W : World, (nilAhead 157 246 (.agg #[.string a]) "loop.example/g00239/impl.right").run prog W = .ok (some false) W := fun _ => by kernel_rfl
 have c0 : ∀ W : World, (method 157 246 (.agg #[.string a]) "loop.example/g00239/impl.right").run prog W = .ok (332, .agg #[.string a]) W := fun _ => by kernel_rfl
 have c1 := aZ3
 have c2 : ∀ W : World, (binOp .eql 62 (.agg #[.int .i64 2, .string a, .string ⟨#[]⟩, .int .i64 t]) (.agg #[.int .i64 2, .string a, .string ⟨#[]⟩, .int .i64 t])).run prog W = .ok (.bool true) W := fun W => by
  rw [bT6]
  first | (simp; done) | (have z := HB0.out; simp; exact fun e => z e.symm)
 clear ha;have K0 := jnil w;go_enter func124, ntmps124;go_upto_region 1 with fail
 obtain ⟨q1, b0⟩ := exq (w.heap.size);obtain ⟨w1, a4⟩ := exq (w.alloc (.cells #[.int .i64 2, .string a, .string ⟨#[]⟩, .int .i64 t] 62));have b1 := b0.symm;rw [← a4]; try rw [← b0];have b7 := hsa a4 b1;have bw := bal a4;have K1 := ja K0 a4 b1;clear bw a4 b1 K0;clear b7 b0;have b2 := c4c (jb K1 0 rfl);go_wp2_with fail
 refine (bP2 a ⟨#[]⟩ t _).mono ?_;rintro e w2 ⟨rfl, bw⟩;have K2 := jw K1 bw;clear bw K1;clear b2;go_upto_region 2 with fail
 refine wp_region_held_drew (S := fun W => W.heap[q1]? = some (.cells #[.int .i64 2, .string a, .string ⟨#[]⟩, .int .i64 t] 62)) (by kernel_rfl) (jb K2 0 rfl) (fun _ => ?_)
 obtain ⟨w3, hX⟩ := exq w2.drew;have bw := bdr hX;rw [← hX];have K3 := jw K2 bw;have a5 := (jb K3 0 rfl);clear bw hX K2;refine tkP 0 (.iface 246 (.agg #[.string a])) 6 rfl rfl a5 (tkP 1 (.bool true) 7 rfl rfl a5 (tkP 2 (.bool true) 8 rfl rfl a5 ?_));go_frame;refine tkP 3 (.iface 246 (.agg #[.string a])) 9 rfl rfl a5 ?_;go_frame;refine rd1 4 rfl (fun K hK => ?_)
 go_simp;refine (cK4 a _ b6.out).mono ?_;rintro e w4 ⟨ur, rfl, a3, bw⟩;have K4 := jw K3 bw;clear bw K3;have a0 := (jb K4 0 rfl);refine hK.out _ _ a0 (fun _ => ?_)
 clear hK K a5;refine tkP 5 (.bool ur) 11 rfl rfl a0 (tkP 6 (.bool ur) 12 rfl rfl a0 ?_);go_frame;cases ur
 ·have a9 : Hid (¬ (aH2 a)) := fun h => nomatch a3.2 h
  clear a3;refine tkN 7 13 rfl rfl a0 (tkN 8 14 rfl rfl a0 (tkN 9 15 rfl rfl a0 ?_));go_frame;refine tkP 10 (.bool false) 16 rfl rfl a0 (tkP 11 (.bool false) 17 rfl rfl a0 (tkN 12 18 rfl rfl a0 ?_));go_frame;refine tkN 13 19 rfl rfl a0 (tkN 14 20 rfl rfl a0 (tkN 15 21 rfl rfl a0 ?_));go_frame;refine tkN 16 22 rfl rfl a0 (tkN 17 23 rfl rfl a0 (tkP 18 (.bool false) 24 rfl rfl a0 ?_));go_frame;refine tkP 19 (.bool false) 2 rfl rfl a0 ?_;go_frame;clear a0;refine wdn ?_;go_wp2_with fail
  go_ret;refine ⟨false, rfl, ?_, K4.hb⟩;have a6 := a9.out;unfold BanP;simp_all
 have a9 : Hid (aH2 a) := a3.1 rfl;clear a3;refine tkP 7 (.pointer (some ⟨q1, 3, none⟩)) 13 rfl rfl a0 ?_;go_frame;refine tkL 8 (.int .i64 t) 14 rfl rfl (Or.inl ⟨by rfl, by intro W hW; have a2 := hW; have y3 := c4c a2; go_simp⟩) a0 ?_;go_frame;refine rd1 9 rfl (fun K hK => ?_)
 go_simp;refine (aN9 t _).mono ?_;rintro e w5 ⟨rfl, b5⟩;have bw : Below w4.heap.size (w4) w5 := by rw [b5]; exact Below.refl _ _
 clear b5;obtain ⟨ut, a7⟩ : ∃ u, u = decide ((0 : Int) ≤ t ∧ t ≤ 1000000) := ⟨_, rfl⟩;rw [← a7];have K5 := jw K4 bw;clear bw K4;have a1 := (jb K5 0 rfl);refine hK.out _ _ a1 (fun _ => ?_)
 clear hK K a0;refine tkP 10 (.bool ut) 16 rfl rfl a1 (tkP 11 (.bool ut) 17 rfl rfl a1 ?_);go_frame;cases ut
 ·have b3 : Hid (¬ (0 ≤ t ∧ t ≤ 1000000)) := (show ¬ (0 ≤ t ∧ t ≤ 1000000) from of_decide_eq_false a7.symm);clear a7;refine tkN 12 18 rfl rfl a1 (tkN 13 19 rfl rfl a1 (tkN 14 20 rfl rfl a1 ?_));go_frame;refine tkN 15 21 rfl rfl a1 (tkN 16 22 rfl rfl a1 (tkN 17 23 rfl rfl a1 ?_));go_frame;refine tkP 18 (.bool false) 24 rfl rfl a1 (tkP 19 (.bool false) 2 rfl rfl a1 ?_);go_frame;clear a1;refine wdn ?_;go_wp2_with fail
  go_ret;refine ⟨false, rfl, ?_, K5.hb⟩;have a6 := a9.out;have b4 := b3.out;unfold BanP;simp_all
 have b3 : Hid (0 ≤ t ∧ t ≤ 1000000) := (show 0 ≤ t ∧ t ≤ 1000000 from of_decide_eq_true a7.symm);clear a7;refine tkP 12 (.iface 246 (.agg #[.string a])) 18 rfl rfl a1 (tkP 13 (.pointer (some ⟨q1, 3, none⟩)) 19 rfl rfl a1 ?_);go_frame;refine tkL 14 (.int .i64 t) 20 rfl rfl (Or.inl ⟨by rfl, by intro W hW; have a2 := hW; have y3 := c4c a2; go_simp⟩) a1 ?_;go_frame;refine tkL 16 (.agg #[.int .i64 2, .string a, .string ⟨#[]⟩, .int .i64 t]) 22 rfl rfl (Or.inl ⟨by rfl, by intro W hW; have a2 := hW; have y0 := c4c a2; go_simp⟩) a1 ?_;go_frame;refine rd1 15 rfl (fun K hK => ?_)
 go_simp;refine (cK2 a t _).mono ?_;rintro e w6 ⟨rfl, bw⟩;have K6 := jw K5 bw;clear bw K5;have a8 := (jb K6 0 rfl);refine hK.out _ _ a8 (fun _ => ?_)
 clear hK K a1;refine tkP 17 (.bool true) 23 rfl rfl a8 (tkP 18 (.bool true) 24 rfl rfl a8 (tkP 19 (.bool true) 2 rfl rfl a8 ?_));go_frame;clear a8;refine wdn ?_;go_wp2_with fail
 go_ret;refine ⟨true, rfl, ?_, K6.hb⟩;have a6 := a9.out;have b4 := b3.out;unfold BanP;simp_all
theorem bU0 (a b : Tx) (t : Int) (w : World) (ha : a.size ≤ maxLen) (hb0 : ¬ b = ⟨#[]⟩) :
  Calls prog 124 #[.agg #[.int .i64 2, .string a, .string b, .int .i64 t]] w fun e w' => aA4 (BanP 2 a b t) w e w' := by
 classical
 have b8 := hid ha;have a9 := hid hb0;have c0 : ∀ W : World, (binOp .neq 201 (.iface 246 (.agg #[.string a])) .nilIface).run prog W = .ok (.bool true) W := fun _ => by kernel_rfl
 have c1 : ∀ W : World, (nilAhead 157 246 (.agg #[.string a]) "loop.example/g00239/impl.right").run prog W = .ok (some false) W := fun _ => by kernel_rfl
 have c2 : ∀ W : World, (method 157 246 (.agg #[.string a]) "loop.example/g00239/impl.right").run prog W = .ok (332, .agg #[.string a]) W := fun _ => by kernel_rfl
 have c3 := aZ3
 have c4 : ∀ W : World, (binOp .eql 62 (.agg #[.int .i64 2, .string a, .string ⟨#[]⟩, .int .i64 t]) (.agg #[.int .i64 2, .string a, .string b, .int .i64 t])).run prog W = .ok (.bool false) W := fun W => by
  rw [bT6]
  first | (simp; done) | (have z := a9.out; simp; exact fun e => z e.symm)
 clear ha hb0;have K0 := jnil w;go_enter func124, ntmps124;go_upto_region 1 with fail
 obtain ⟨q1, b1⟩ := exq (w.heap.size);obtain ⟨w1, a4⟩ := exq (w.alloc (.cells #[.int .i64 2, .string a, .string b, .int .i64 t] 62));have b2 := b1.symm;rw [← a4]; try rw [← b1];have b9 := hsa a4 b2;have bw := bal a4;have K1 := ja K0 a4 b2;clear bw a4 b2 K0;clear b9 b1;have b3 := c4c (jb K1 0 rfl);go_wp2_with fail
 refine (bP2 a b t _).mono ?_;rintro e w2 ⟨rfl, bw⟩;have K2 := jw K1 bw;clear bw K1;clear b3;go_upto_region 2 with fail
 refine wp_region_held_drew (S := fun W => W.heap[q1]? = some (.cells #[.int .i64 2, .string a, .string b, .int .i64 t] 62)) (by kernel_rfl) (jb K2 0 rfl) (fun _ => ?_)
 obtain ⟨w3, hX⟩ := exq w2.drew;have bw := bdr hX;rw [← hX];have K3 := jw K2 bw;have a5 := (jb K3 0 rfl);clear bw hX K2;refine tkP 0 (.iface 246 (.agg #[.string a])) 6 rfl rfl a5 (tkP 1 (.bool true) 7 rfl rfl a5 (tkP 2 (.bool true) 8 rfl rfl a5 ?_));go_frame;refine tkP 3 (.iface 246 (.agg #[.string a])) 9 rfl rfl a5 ?_;go_frame;refine rd1 4 rfl (fun K hK => ?_)
 go_simp;refine (cK4 a _ b8.out).mono ?_;rintro e w4 ⟨ur, rfl, a3, bw⟩;have K4 := jw K3 bw;clear bw K3;have a0 := (jb K4 0 rfl);refine hK.out _ _ a0 (fun _ => ?_)
 clear hK K a5;refine tkP 5 (.bool ur) 11 rfl rfl a0 (tkP 6 (.bool ur) 12 rfl rfl a0 ?_);go_frame;cases ur
 ·have b0 : Hid (¬ (aH2 a)) := fun h => nomatch a3.2 h
  clear a3;refine tkN 7 13 rfl rfl a0 (tkN 8 14 rfl rfl a0 (tkN 9 15 rfl rfl a0 ?_));go_frame;refine tkP 10 (.bool false) 16 rfl rfl a0 (tkP 11 (.bool false) 17 rfl rfl a0 (tkN 12 18 rfl rfl a0 ?_));go_frame;refine tkN 13 19 rfl rfl a0 (tkN 14 20 rfl rfl a0 (tkN 15 21 rfl rfl a0 ?_));go_frame;refine tkN 16 22 rfl rfl a0 (tkN 17 23 rfl rfl a0 (tkP 18 (.bool false) 24 rfl rfl a0 ?_));go_frame;refine tkP 19 (.bool false) 2 rfl rfl a0 ?_;go_frame;clear a0;refine wdn ?_;go_wp2_with fail
  go_ret;refine ⟨false, rfl, ?_, K4.hb⟩;have a6 := b0.out;have b6 := a9.out;unfold BanP;simp_all
 have b0 : Hid (aH2 a) := a3.1 rfl;clear a3;refine tkP 7 (.pointer (some ⟨q1, 3, none⟩)) 13 rfl rfl a0 ?_;go_frame;refine tkL 8 (.int .i64 t) 14 rfl rfl (Or.inl ⟨by rfl, by intro W hW; have a2 := hW; have y3 := c4c a2; go_simp⟩) a0 ?_;go_frame;refine rd1 9 rfl (fun K hK => ?_)
 go_simp;refine (aN9 t _).mono ?_;rintro e w5 ⟨rfl, b7⟩;have bw : Below w4.heap.size (w4) w5 := by rw [b7]; exact Below.refl _ _
 clear b7;obtain ⟨ut, a7⟩ : ∃ u, u = decide ((0 : Int) ≤ t ∧ t ≤ 1000000) := ⟨_, rfl⟩;rw [← a7];have K5 := jw K4 bw;clear bw K4;have a1 := (jb K5 0 rfl);refine hK.out _ _ a1 (fun _ => ?_)
 clear hK K a0;refine tkP 10 (.bool ut) 16 rfl rfl a1 (tkP 11 (.bool ut) 17 rfl rfl a1 ?_);go_frame;cases ut
 ·have b4 : Hid (¬ (0 ≤ t ∧ t ≤ 1000000)) := (show ¬ (0 ≤ t ∧ t ≤ 1000000) from of_decide_eq_false a7.symm);clear a7;refine tkN 12 18 rfl rfl a1 (tkN 13 19 rfl rfl a1 (tkN 14 20 rfl rfl a1 ?_));go_frame;refine tkN 15 21 rfl rfl a1 (tkN 16 22 rfl rfl a1 (tkN 17 23 rfl rfl a1 ?_));go_frame;refine tkP 18 (.bool false) 24 rfl rfl a1 (tkP 19 (.bool false) 2 rfl rfl a1 ?_);go_frame;clear a1;refine wdn ?_;go_wp2_with fail
  go_ret;refine ⟨false, rfl, ?_, K5.hb⟩;have a6 := b0.out;have b5 := b4.out;have b6 := a9.out;unfold BanP;simp_all
 have b4 : Hid (0 ≤ t ∧ t ≤ 1000000) := (show 0 ≤ t ∧ t ≤ 1000000 from of_decide_eq_true a7.symm);clear a7;refine tkP 12 (.iface 246 (.agg #[.string a])) 18 rfl rfl a1 (tkP 13 (.pointer (some ⟨q1, 3, none⟩)) 19 rfl rfl a1 ?_);go_frame;refine tkL 14 (.int .i64 t) 20 rfl rfl (Or.inl ⟨by rfl, by intro W hW; have a2 := hW; have y3 := c4c a2; go_simp⟩) a1 ?_;go_frame;refine tkL 16 (.agg #[.int .i64 2, .string a, .string b, .int .i64 t]) 22 rfl rfl (Or.inl ⟨by rfl, by intro W hW; have a2 := hW; have y0 := c4c a2; go_simp⟩) a1 ?_;go_frame;refine rd1 15 rfl (fun K hK => ?_)
 go_simp;refine (cK2 a t _).mono ?_;rintro e w6 ⟨rfl, bw⟩;have K6 := jw K5 bw;clear bw K5;have a8 := (jb K6 0 rfl);refine hK.out _ _ a8 (fun _ => ?_)
 clear hK K a1;refine tkP 17 (.bool false) 23 rfl rfl a8 (tkP 18 (.bool false) 24 rfl rfl a8 (tkP 19 (.bool false) 2 rfl rfl a8 ?_));go_frame;clear a8;refine wdn ?_;go_wp2_with fail
 go_ret;refine ⟨false, rfl, ?_, K6.hb⟩;have a6 := b0.out;have b5 := b4.out;have b6 := a9.out;unfold BanP;simp_all
theorem bY4 (a b : Tx) (t : Int) (w : World) (ha : a.size ≤ maxLen) (hb : b.size ≤ maxLen) :
  Calls prog 124 #[.agg #[.int .i64 3, .string a, .string b, .int .i64 t]] w fun e w' => aA4 (BanP 3 a b t) w e w' := by
 classical
 have b6 := hid ha;have b7 := hid hb;have b9 : ∀ W : World, (binOp .neq 201 (.iface 248 (.agg #[.string a, .string b])) .nilIface).run prog W = .ok (.bool true) W := fun _ => by kernel_rfl
 have c0 : ∀ W : World, (nilAhead 157 248 (.agg #[.string a, .string b]) "loop.example/g00239/impl.right").run prog W = .ok (some false) W := fun _ => by kernel_rfl
 have c1 : ∀ W : World, (method 157 248 (.agg #[.string a, .string b]) "loop.example/g00239/impl.right").run prog W = .ok (334, .agg #[.string a, .string b]) W := fun _ => by kernel_rfl
 have c2 := aZ3
 have c3 : ∀ W : World, (binOp .eql 62 (.agg #[.int .i64 3, .string a, .string b, .int .i64 t]) (.agg #[.int .i64 3, .string a, .string b, .int .i64 t])).run prog W = .ok (.bool true) W := fun W => by
  rw [bT6]
  first | (simp; done) | (have z := HB0.out; simp; exact fun e => z e.symm)
 clear ha hb;have K0 := jnil w;go_enter func124, ntmps124;go_upto_region 1 with fail
 obtain ⟨q1, b0⟩ := exq (w.heap.size);obtain ⟨w1, a4⟩ := exq (w.alloc (.cells #[.int .i64 3, .string a, .string b, .int .i64 t] 62));have b1 := b0.symm;rw [← a4]; try rw [← b0];have b8 := hsa a4 b1;have bw := bal a4;have K1 := ja K0 a4 b1;clear bw a4 b1 K0;clear b8 b0;have b2 := c4c (jb K1 0 rfl);go_wp2_with fail
 refine (cB5 a b t _).mono ?_;rintro e w2 ⟨rfl, bw⟩;have K2 := jw K1 bw;clear bw K1;clear b2;go_upto_region 2 with fail
 refine wp_region_held_drew (S := fun W => W.heap[q1]? = some (.cells #[.int .i64 3, .string a, .string b, .int .i64 t] 62)) (by kernel_rfl) (jb K2 0 rfl) (fun _ => ?_)
 obtain ⟨w3, hX⟩ := exq w2.drew;have bw := bdr hX;rw [← hX];have K3 := jw K2 bw;have a5 := (jb K3 0 rfl);clear bw hX K2;refine tkP 0 (.iface 248 (.agg #[.string a, .string b])) 6 rfl rfl a5 (tkP 1 (.bool true) 7 rfl rfl a5 (tkP 2 (.bool true) 8 rfl rfl a5 ?_));go_frame;refine tkP 3 (.iface 248 (.agg #[.string a, .string b])) 9 rfl rfl a5 ?_;go_frame;refine rd1 4 rfl (fun K hK => ?_)
 go_simp;refine (cQ9 a b _ b6.out b7.out).mono ?_;rintro e w4 ⟨ur, rfl, a3, bw⟩;have K4 := jw K3 bw;clear bw K3;have a0 := (jb K4 0 rfl);refine hK.out _ _ a0 (fun _ => ?_)
 clear hK K a5;refine tkP 5 (.bool ur) 11 rfl rfl a0 (tkP 6 (.bool ur) 12 rfl rfl a0 ?_);go_frame;cases ur
 ·have a9 : Hid (¬ (aL0 a ∧ aL1 b)) := fun h => nomatch a3.2 h
  clear a3;refine tkN 7 13 rfl rfl a0 (tkN 8 14 rfl rfl a0 (tkN 9 15 rfl rfl a0 ?_));go_frame;refine tkP 10 (.bool false) 16 rfl rfl a0 (tkP 11 (.bool false) 17 rfl rfl a0 (tkN 12 18 rfl rfl a0 ?_));go_frame;refine tkN 13 19 rfl rfl a0 (tkN 14 20 rfl rfl a0 (tkN 15 21 rfl rfl a0 ?_));go_frame;refine tkN 16 22 rfl rfl a0 (tkN 17 23 rfl rfl a0 (tkP 18 (.bool false) 24 rfl rfl a0 ?_));go_frame;refine tkP 19 (.bool false) 2 rfl rfl a0 ?_;go_frame;clear a0;refine wdn ?_;go_wp2_with fail
  go_ret;refine ⟨false, rfl, ?_, K4.hb⟩;have a6 := a9.out;unfold BanP;simp_all
 have a9 : Hid (aL0 a ∧ aL1 b) := a3.1 rfl;clear a3;refine tkP 7 (.pointer (some ⟨q1, 3, none⟩)) 13 rfl rfl a0 ?_;go_frame;refine tkL 8 (.int .i64 t) 14 rfl rfl (Or.inl ⟨by rfl, by intro W hW; have a2 := hW; have y3 := c4c a2; go_simp⟩) a0 ?_;go_frame;refine rd1 9 rfl (fun K hK => ?_)
 go_simp;refine (aN9 t _).mono ?_;rintro e w5 ⟨rfl, b5⟩;have bw : Below w4.heap.size (w4) w5 := by rw [b5]; exact Below.refl _ _
 clear b5;obtain ⟨ut, a7⟩ : ∃ u, u = decide ((0 : Int) ≤ t ∧ t ≤ 1000000) := ⟨_, rfl⟩;rw [← a7];have K5 := jw K4 bw;clear bw K4;have a1 := (jb K5 0 rfl);refine hK.out _ _ a1 (fun _ => ?_)
 clear hK K a0;refine tkP 10 (.bool ut) 16 rfl rfl a1 (tkP 11 (.bool ut) 17 rfl rfl a1 ?_);go_frame;cases ut
 ·have b3 : Hid (¬ (0 ≤ t ∧ t ≤ 1000000)) := (show ¬ (0 ≤ t ∧ t ≤ 1000000) from of_decide_eq_false a7.symm);clear a7;refine tkN 12 18 rfl rfl a1 (tkN 13 19 rfl rfl a1 (tkN 14 20 rfl rfl a1 ?_));go_frame;refine tkN 15 21 rfl rfl a1 (tkN 16 22 rfl rfl a1 (tkN 17 23 rfl rfl a1 ?_));go_frame;refine tkP 18 (.bool false) 24 rfl rfl a1 (tkP 19 (.bool false) 2 rfl rfl a1 ?_);go_frame;clear a1;refine wdn ?_;go_wp2_with fail
  go_ret;refine ⟨false, rfl, ?_, K5.hb⟩;have a6 := a9.out;have b4 := b3.out;unfold BanP;simp_all
 have b3 : Hid (0 ≤ t ∧ t ≤ 1000000) := (show 0 ≤ t ∧ t ≤ 1000000 from of_decide_eq_true a7.symm);clear a7;refine tkP 12 (.iface 248 (.agg #[.string a, .string b])) 18 rfl rfl a1 (tkP 13 (.pointer (some ⟨q1, 3, none⟩)) 19 rfl rfl a1 ?_);go_frame;refine tkL 14 (.int .i64 t) 20 rfl rfl (Or.inl ⟨by rfl, by intro W hW; have a2 := hW; have y3 := c4c a2; go_simp⟩) a1 ?_;go_frame;refine tkL 16 (.agg #[.int .i64 3, .string a, .string b, .int .i64 t]) 22 rfl rfl (Or.inl ⟨by rfl, by intro W hW; have a2 := hW; have y0 := c4c a2; go_simp⟩) a1 ?_;go_frame;refine rd1 15 rfl (fun K hK => ?_)
 go_simp;refine (cQ8 a b t _).mono ?_;rintro e w6 ⟨rfl, bw⟩;have K6 := jw K5 bw;clear bw K5;have a8 := (jb K6 0 rfl);refine hK.out _ _ a8 (fun _ => ?_)
 clear hK K a1;refine tkP 17 (.bool true) 23 rfl rfl a8 (tkP 18 (.bool true) 24 rfl rfl a8 (tkP 19 (.bool true) 2 rfl rfl a8 ?_));go_frame;clear a8;refine wdn ?_;go_wp2_with fail
 go_ret;refine ⟨true, rfl, ?_, K6.hb⟩;have a6 := a9.out;have b4 := b3.out;unfold BanP;simp_all
theorem bU1 (k : Int) (a b : Tx) (t : Int) (w : World) (h1 : ¬ k = 1) (h2 : ¬ k = 2) (h3 : ¬ k = 3) :
  Calls prog 124 #[.agg #[.int .i64 k, .string a, .string b, .int .i64 t]] w fun e w' => aA4 (BanP k a b t) w e w' := by
 have a5 : Hid (¬ k = 1) := h1;have a6 : Hid (¬ k = 2) := h2;have a7 : Hid (¬ k = 3) := h3;have a9 : ∀ W : World, (binOp .neq 201 .nilIface .nilIface).run prog W = .ok (.bool false) W := fun _ => by kernel_rfl
 clear h1 h2 h3;have K0 := jnil w;go_enter func124, ntmps124;go_upto_region 1 with fail
 obtain ⟨q1, a2⟩ := exq (w.heap.size);obtain ⟨w1, a1⟩ := exq (w.alloc (.cells #[.int .i64 k, .string a, .string b, .int .i64 t] 62));have a3 := a2.symm;rw [← a1]; try rw [← a2];have a8 := hsa a1 a3;have bw := bal a1;have K1 := ja K0 a1 a3;clear bw a1 a3 K0;clear a8 a2;have a4 := c4c (jb K1 0 rfl);go_wp2_with fail
 refine (cK0 k a b t _ a5.out a6.out a7.out).mono ?_;rintro e w2 ⟨rfl, bw⟩;have K2 := jw K1 bw;clear bw K1;clear a4;go_upto_region 2 with fail
 refine wp_region_held_drew (S := fun W => W.heap[q1]? = some (.cells #[.int .i64 k, .string a, .string b, .int .i64 t] 62)) (by kernel_rfl) (jb K2 0 rfl) (fun _ => ?_)
 obtain ⟨w3, hX⟩ := exq w2.drew;have bw := bdr hX;rw [← hX];have K3 := jw K2 bw;have a0 := (jb K3 0 rfl);clear bw hX K2;refine tkP 0 (.nilIface) 6 rfl rfl a0 (tkP 1 (.bool false) 7 rfl rfl a0 (tkP 2 (.bool false) 8 rfl rfl a0 ?_));go_frame;refine tkN 3 9 rfl rfl a0 (tkN 4 10 rfl rfl a0 (tkP 5 (.bool false) 11 rfl rfl a0 ?_));go_frame;refine tkP 6 (.bool false) 12 rfl rfl a0 (tkN 7 13 rfl rfl a0 (tkN 8 14 rfl rfl a0 ?_));go_frame;refine tkN 9 15 rfl rfl a0 (tkP 10 (.bool false) 16 rfl rfl a0 (tkP 11 (.bool false) 17 rfl rfl a0 ?_));go_frame;refine tkN 12 18 rfl rfl a0 (tkN 13 19 rfl rfl a0 (tkN 14 20 rfl rfl a0 ?_));go_frame;refine tkN 15 21 rfl rfl a0 (tkN 16 22 rfl rfl a0 (tkN 17 23 rfl rfl a0 ?_));go_frame;refine tkP 18 (.bool false) 24 rfl rfl a0 (tkP 19 (.bool false) 2 rfl rfl a0 ?_);go_frame;clear a0;refine wdn ?_;go_wp2_with fail
 go_ret;refine aA4.no ?_ K3.hb;intro h;rcases h.kinds with h | h | h
 ·exact a5.out h
 ·exact a6.out h
 exact a7.out h
theorem aH1 (k : Int) (a b : Tx) (t : Int) (w : World) (ha : a.size ≤ maxLen) (hb : b.size ≤ maxLen) :
  Calls prog 124 #[.agg #[.int .i64 k, .string a, .string b, .int .i64 t]] w fun e w' => aA4 (BanP k a b t) w e w' := by
 classical
 by_cases h1 : k = 1
 ·subst h1;by_cases h : b = ⟨#[]⟩
  rotate_left
  ·exact bT8 a b t w ha h
  subst h; exact bT7 a t w ha
 by_cases h2 : k = 2
 rotate_left
 ·by_cases h3 : k = 3
  rotate_left
  ·exact bU1 k a b t w h1 h2 h3
  subst h3; exact bY4 a b t w ha hb
 subst h2;by_cases h : b = ⟨#[]⟩
 rotate_left
 ·exact bU0 a b t w ha h
 subst h; exact bT9 a t w ha
theorem cF2 (a b : Tx) (t : Int) (p : Tx) (o1 : Oa) (n1 c1 : Nat) (xs : Ts) (o2 : Oa) (n2 c2 : Nat) (ys : Ts) (st : Int) (v3 : Value) (n3 base : Nat) (fs : Fs) (d : Tx) (u : Int) (w : World) (ha : a.size ≤ maxLen) (hb : b.size ≤ maxLen) (h1 : aC4 w o1 n1 xs) (h2 : aC4 w o2 n2 ys) (h3 : aB3 w base v3 n3 fs) (hn1 : n1 ≤ 2000000) (hn2 : n2 ≤ 2000000) (hn3 : n3 ≤ 2000000) (hs1 : ∀ i, i < n1 → (aA8 xs i).size ≤ maxLen) (hs2 : ∀ i, i < n2 → (aA8 ys i).size ≤ maxLen) (hs3 : aP6 n3 fs) (hc : aT2 fs) (hp : p.size ≤ maxLen) (hx : d.size ≤ maxLen) (hg : (getV fs aF0).size ≤ 1048576) :
    Calls prog 144 #[.agg #[.int .i64 1, .string a, .string b, .int .i64 t], .agg #[.string p, .slice o1 n1 c1, .slice o2 n2 c2, .int .i64 st, v3, .string d, .int .i64 u]] w fun e w' => aA4 (HitP 1 a b t p xs ys st fs d u) w e w' := by
  obtain ⟨o3, c3, rfl, _⟩ := h3.slice;have c9 : Hid (∀ W, Bw w W → aC4 W o1 n1 xs) := fun W h => h1.below h
  have d0 : Hid (∀ W, Bw w W → aC4 W o2 n2 ys) := fun W h => h2.below h
  have d1 : Hid (∀ W, Bw w W → aB3 W base (.slice o3 n3 c3) n3 fs) := fun W h => h3.below h
  have d2 := hid hs1;have d3 := hid hs2;have d4 := hid hs3;have HC : Hid (aT2 fs) := hc;have d5 := hid hp;have HX := hid hx;have HG := hid hg;have d6 := hid ha;have d7 := hid hb;clear h1 h2 h3 hs1 hs2 hs3 hc hp hx hg ha hb;have d8 : ∀ W : World, (nilAhead 157 244 (.agg #[.string a]) "loop.example/g00239/impl.bans").run prog W = .ok (some false) W := fun _ => by kernel_rfl
  have d9 : ∀ W : World, (method 157 244 (.agg #[.string a]) "loop.example/g00239/impl.bans").run prog W = .ok (329, .agg #[.string a]) W := fun _ => by kernel_rfl
  have K0 := jnil w;go_enter func144, ntmps144;go_upto_region 1 with fail
  obtain ⟨b9, b1⟩ := exq (w.heap.size);obtain ⟨w1, b4⟩ := exq (w.alloc (.cells #[.int .i64 1, .string a, .string b, .int .i64 t] 62));have c0 := b1.symm;rw [← b4]; try rw [← b1];have hs1 := hsa b4 c0;have bw := bal b4;have K1 := ja K0 b4 c0;clear bw b4 c0 K0;obtain ⟨c4, b2⟩ := exq (b9 + 1);obtain ⟨w2, b5⟩ := exq (w1.alloc (.cells #[.string p, .slice o1 n1 c1, .slice o2 n2 c2, .int .i64 st, .slice o3 n3 c3, .string d, .int .i64 u] 51));have c5 : w1.heap.size = c4 := by rw [b2]; exact hs1
  rw [← b5]; try rw [← b2];have hs2 := hsa b5 c5;have bw := bal b5;have K2 := ja K1 b5 c5;clear bw b5 c5 K1;clear hs2 b2 hs1 b1;go_upto_region 1 with fail
  refine wp_region_held_drew (S := fun W => W.heap[b9]? = some (.cells #[.int .i64 1, .string a, .string b, .int .i64 t] 62) ∧ W.heap[c4]? = some (.cells #[.string p, .slice o1 n1 c1, .slice o2 n2 c2, .int .i64 st, .slice o3 n3 c3, .string d, .int .i64 u] 51)) (by kernel_rfl) ⟨(jb K2 1 rfl), (jb K2 0 rfl)⟩ (fun _ => ?_)
  obtain ⟨w3, hX⟩ := exq w2.drew;have bw := bdr hX;rw [← hX];have K3 := jw K2 bw;have c7 := And.intro (jb K3 1 rfl) (jb K3 0 rfl);clear bw hX K2;refine tkL 0 (.agg #[.int .i64 1, .string a, .string b, .int .i64 t]) 5 rfl rfl (Or.inl ⟨by rfl, by intro W hW; obtain ⟨a4, a5⟩ := hW; have y0 := c4c a4; go_simp⟩) c7 ?_;go_frame;refine rd1 1 rfl (fun K hK => ?_)
  go_simp;refine (aH1 1 a b t _ d6.out d7.out).mono ?_;rintro e w4 ⟨ub, rfl, a8, bw⟩;have K4 := jw K3 bw;clear bw K3;have a1 := And.intro (jb K4 1 rfl) (jb K4 0 rfl);refine hK.out _ _ a1 (fun _ => ?_)
  clear hK K c7;refine tkP 2 (.bool ub) 7 rfl rfl a1 ?_;go_frame;cases ub
  ·have b3 : Hid (¬ (BanP 1 a b t)) := fun h => nomatch a8.2 h
   clear a8;refine tkN 3 8 rfl rfl a1 (tkN 4 9 rfl rfl a1 (tkP 5 (.bool false) 10 rfl rfl a1 ?_));go_frame;refine tkP 6 (.bool false) 11 rfl rfl a1 (tkN 7 12 rfl rfl a1 (tkN 8 13 rfl rfl a1 ?_));go_frame;refine tkN 9 14 rfl rfl a1 (tkN 10 15 rfl rfl a1 (tkN 11 16 rfl rfl a1 ?_));go_frame;refine tkP 12 (.bool false) 17 rfl rfl a1 (tkP 13 (.bool false) 18 rfl rfl a1 (tkN 14 19 rfl rfl a1 ?_));go_frame;refine tkN 15 20 rfl rfl a1 (tkN 16 21 rfl rfl a1 (tkN 17 22 rfl rfl a1 ?_));go_frame;refine tkP 18 (.bool false) 23 rfl rfl a1 (tkP 19 (.bool false) 4 rfl rfl a1 ?_);go_frame;clear a1;refine wdn ?_;go_wp2_with fail
   go_ret;refine ⟨false, rfl, ?_, K4.hb⟩;have a3 := b3.out;refine ⟨fun h => (by cases h), fun h => ?_⟩
   exfalso
   obtain ⟨q1, q2, q3, q4⟩ := h
   first
     | exact a3 q1
     | exact a6 q2
     | exact a7 q3
     | (rcases q4 with ⟨e1, e2⟩ | ⟨e1, e2⟩ | ⟨e1, e2, e3⟩
        all_goals first
          | omega
          | exact a2 e2
          | exact a2 ⟨e2, e3⟩)
  have b3 : Hid (BanP 1 a b t) := a8.1 rfl;clear a8;refine tkL 3 (.agg #[.string p, .slice o1 n1 c1, .slice o2 n2 c2, .int .i64 st, .slice o3 n3 c3, .string d, .int .i64 u]) 8 rfl rfl (Or.inl ⟨by rfl, by intro W hW; obtain ⟨a4, a5⟩ := hW; have y0 := c7c a5; go_simp⟩) a1 ?_;go_frame;refine rd1 4 rfl (fun K hK => ?_)
  go_simp;refine (aN6 p _ n1 _ xs _ n2 _ ys st _ n3 base fs d u _ (c9.out _ K4.hb) (d0.out _ K4.hb) (d1.out _ K4.hb) (by omega) (by omega) (by omega) d2.out d3.out d4.out HC.out d5.out HX.out HG.out).mono ?_;rintro e w5 ⟨uo, rfl, a9, bw⟩;have K5 := jw K4 bw;clear bw K4;have a0 := And.intro (jb K5 1 rfl) (jb K5 0 rfl);refine hK.out _ _ a0 (fun _ => ?_)
  clear hK K a1;refine tkP 5 (.bool uo) 10 rfl rfl a0 (tkP 6 (.bool uo) 11 rfl rfl a0 ?_);go_frame;cases uo
  ·have b6 : Hid (¬ (ObjP p xs ys st fs d u)) := fun h => nomatch a9.2 h
   clear a9;refine tkN 7 12 rfl rfl a0 (tkN 8 13 rfl rfl a0 (tkN 9 14 rfl rfl a0 ?_));go_frame;refine tkN 10 15 rfl rfl a0 (tkN 11 16 rfl rfl a0 (tkP 12 (.bool false) 17 rfl rfl a0 ?_));go_frame;refine tkP 13 (.bool false) 18 rfl rfl a0 (tkN 14 19 rfl rfl a0 (tkN 15 20 rfl rfl a0 ?_));go_frame;refine tkN 16 21 rfl rfl a0 (tkN 17 22 rfl rfl a0 (tkP 18 (.bool false) 23 rfl rfl a0 ?_));go_frame;refine tkP 19 (.bool false) 4 rfl rfl a0 ?_;go_frame;clear a0;refine wdn ?_;go_wp2_with fail
   go_ret;refine ⟨false, rfl, ?_, K5.hb⟩;have a3 := b3.out;have a6 := b6.out;refine ⟨fun h => (by cases h), fun h => ?_⟩
   exfalso
   obtain ⟨q1, q2, q3, q4⟩ := h
   first
     | exact a3 q1
     | exact a6 q2
     | exact a7 q3
     | (rcases q4 with ⟨e1, e2⟩ | ⟨e1, e2⟩ | ⟨e1, e2, e3⟩
        all_goals first
          | omega
          | exact a2 e2
          | exact a2 ⟨e2, e3⟩)
  have b6 : Hid (ObjP p xs ys st fs d u) := a9.1 rfl;clear a9;refine tkP 7 (.pointer (some ⟨c4, 6, none⟩)) 12 rfl rfl a0 ?_;go_frame;refine tkL 8 (.int .i64 u) 13 rfl rfl (Or.inl ⟨by rfl, by intro W hW; obtain ⟨a4, a5⟩ := hW; have y6 := c7c a5; go_simp⟩) a0 ?_;go_frame;refine tkP 9 (.pointer (some ⟨b9, 3, none⟩)) 14 rfl rfl a0 ?_;go_frame;refine tkL 10 (.int .i64 t) 15 rfl rfl (Or.inl ⟨by rfl, by intro W hW; obtain ⟨a4, a5⟩ := hW; have y3 := c4c a4; go_simp⟩) a0 ?_;go_frame;by_cases hc1 : u ≤ t
  rotate_left
  ·have b7 := hid hc1;refine tkP 11 (.bool false) 16 rfl rfl a0 (tkP 12 (.bool false) 17 rfl rfl a0 (tkP 13 (.bool false) 18 rfl rfl a0 ?_));go_frame;refine tkN 14 19 rfl rfl a0 (tkN 15 20 rfl rfl a0 (tkN 16 21 rfl rfl a0 ?_));go_frame;refine tkN 17 22 rfl rfl a0 (tkP 18 (.bool false) 23 rfl rfl a0 (tkP 19 (.bool false) 4 rfl rfl a0 ?_));go_frame;clear a0;refine wdn ?_;go_wp2_with fail
   go_ret;refine ⟨false, rfl, ?_, K5.hb⟩;have a3 := b3.out;have a6 := b6.out;have a7 := b7.out;refine ⟨fun h => (by cases h), fun h => ?_⟩
   exfalso
   obtain ⟨q1, q2, q3, q4⟩ := h
   first
     | exact a3 q1
     | exact a6 q2
     | exact a7 q3
     | (rcases q4 with ⟨e1, e2⟩ | ⟨e1, e2⟩ | ⟨e1, e2, e3⟩
        all_goals first
          | omega
          | exact a2 e2
          | exact a2 ⟨e2, e3⟩)
  have b7 : Hid (u ≤ t) := hc1;refine tkP 11 (.bool true) 16 rfl rfl a0 (tkP 12 (.bool true) 17 rfl rfl a0 (tkP 13 (.bool true) 18 rfl rfl a0 ?_));go_frame;refine tkL 14 (.agg #[.int .i64 1, .string a, .string b, .int .i64 t]) 19 rfl rfl (Or.inl ⟨by rfl, by intro W hW; obtain ⟨a4, a5⟩ := hW; have y0 := c4c a4; go_simp⟩) a0 ?_;go_frame;refine tkL 16 (.agg #[.string p, .slice o1 n1 c1, .slice o2 n2 c2, .int .i64 st, .slice o3 n3 c3, .string d, .int .i64 u]) 21 rfl rfl (Or.inl ⟨by rfl, by intro W hW; obtain ⟨a4, a5⟩ := hW; have y0 := c7c a5; go_simp⟩) a0 ?_;go_frame;refine rd1 15 rfl (fun K hK => ?_)
  go_simp;refine (bP1 a b t _).mono ?_;rintro e w6 ⟨rfl, bw⟩;have K6 := jw K5 bw;clear bw K5;have c8 := And.intro (jb K6 1 rfl) (jb K6 0 rfl);refine hK.out _ _ c8 (fun _ => ?_)
  clear hK K a0;refine rd1 17 rfl (fun K hK => ?_)
  go_simp;refine (cT7 a p _ _ st _ d u _).mono ?_;rintro e w7 ⟨uh, rfl, b0, bw⟩;have K7 := jw K6 bw;clear bw K6;have b8 := And.intro (jb K7 1 rfl) (jb K7 0 rfl);refine hK.out _ _ b8 (fun _ => ?_)
  clear hK K c8;refine tkP 18 (.bool uh) 23 rfl rfl b8 (tkP 19 (.bool uh) 4 rfl rfl b8 ?_);go_frame;clear b8;refine wdn ?_;cases uh
  rotate_left
  ·have c6 : Hid (p = a) := b0.1 rfl;clear b0;go_wp2_with fail
   go_ret;refine ⟨true, rfl, ?_, K7.hb⟩;have a3 := b3.out;have a6 := b6.out;have a7 := b7.out;have a2 := c6.out;exact ⟨fun _ => ⟨a3, a6, a7, .inl ⟨rfl, a2⟩⟩, fun _ => rfl⟩
  have c6 : Hid (¬ (p = a)) := fun h => nomatch b0.2 h
  clear b0;go_wp2_with fail
  go_ret;refine ⟨false, rfl, ?_, K7.hb⟩;have a3 := b3.out;have a6 := b6.out;have a7 := b7.out;have a2 := c6.out;refine ⟨fun h => (by cases h), fun h => ?_⟩
  exfalso
  obtain ⟨q1, q2, q3, q4⟩ := h
  first
    | exact a3 q1
    | exact a6 q2
    | exact a7 q3
    | (rcases q4 with ⟨e1, e2⟩ | ⟨e1, e2⟩ | ⟨e1, e2, e3⟩
       all_goals first
         | omega
         | exact a2 e2
         | exact a2 ⟨e2, e3⟩)
theorem cF3 (a b : Tx) (t : Int) (p : Tx) (o1 : Oa) (n1 c1 : Nat) (xs : Ts) (o2 : Oa) (n2 c2 : Nat) (ys : Ts) (st : Int) (v3 : Value) (n3 base : Nat) (fs : Fs) (d : Tx) (u : Int) (w : World) (ha : a.size ≤ maxLen) (hb : b.size ≤ maxLen) (h1 : aC4 w o1 n1 xs) (h2 : aC4 w o2 n2 ys) (h3 : aB3 w base v3 n3 fs) (hn1 : n1 ≤ 2000000) (hn2 : n2 ≤ 2000000) (hn3 : n3 ≤ 2000000) (hs1 : ∀ i, i < n1 → (aA8 xs i).size ≤ maxLen) (hs2 : ∀ i, i < n2 → (aA8 ys i).size ≤ maxLen) (hs3 : aP6 n3 fs) (hc : aT2 fs) (hp : p.size ≤ maxLen) (hx : d.size ≤ maxLen) (hg : (getV fs aF0).size ≤ 1048576) :
    Calls prog 144 #[.agg #[.int .i64 2, .string a, .string b, .int .i64 t], .agg #[.string p, .slice o1 n1 c1, .slice o2 n2 c2, .int .i64 st, v3, .string d, .int .i64 u]] w fun e w' => aA4 (HitP 2 a b t p xs ys st fs d u) w e w' := by
  obtain ⟨o3, c3, rfl, _⟩ := h3.slice;have d0 : Hid (∀ W, Bw w W → aC4 W o1 n1 xs) := fun W h => h1.below h
  have d1 : Hid (∀ W, Bw w W → aC4 W o2 n2 ys) := fun W h => h2.below h
  have d2 : Hid (∀ W, Bw w W → aB3 W base (.slice o3 n3 c3) n3 fs) := fun W h => h3.below h
  have d3 := hid hs1;have d4 := hid hs2;have d5 := hid hs3;have HC : Hid (aT2 fs) := hc;have c7 := hid hp;have HX := hid hx;have HG := hid hg;have d6 := hid ha;have d7 := hid hb;clear h1 h2 h3 hs1 hs2 hs3 hc hp hx hg ha hb;have d8 : ∀ W : World, (nilAhead 157 246 (.agg #[.string a]) "loop.example/g00239/impl.bans").run prog W = .ok (some false) W := fun _ => by kernel_rfl
  have d9 : ∀ W : World, (method 157 246 (.agg #[.string a]) "loop.example/g00239/impl.bans").run prog W = .ok (331, .agg #[.string a]) W := fun _ => by kernel_rfl
  have K0 := jnil w;go_enter func144, ntmps144;go_upto_region 1 with fail
  obtain ⟨b9, b1⟩ := exq (w.heap.size);obtain ⟨w1, b4⟩ := exq (w.alloc (.cells #[.int .i64 2, .string a, .string b, .int .i64 t] 62));have c0 := b1.symm;rw [← b4]; try rw [← b1];have hs1 := hsa b4 c0;have bw := bal b4;have K1 := ja K0 b4 c0;clear bw b4 c0 K0;obtain ⟨c4, b2⟩ := exq (b9 + 1);obtain ⟨w2, b5⟩ := exq (w1.alloc (.cells #[.string p, .slice o1 n1 c1, .slice o2 n2 c2, .int .i64 st, .slice o3 n3 c3, .string d, .int .i64 u] 51));have c5 : w1.heap.size = c4 := by rw [b2]; exact hs1
  rw [← b5]; try rw [← b2];have hs2 := hsa b5 c5;have bw := bal b5;have K2 := ja K1 b5 c5;clear bw b5 c5 K1;clear hs2 b2 hs1 b1;go_upto_region 1 with fail
  refine wp_region_held_drew (S := fun W => W.heap[b9]? = some (.cells #[.int .i64 2, .string a, .string b, .int .i64 t] 62) ∧ W.heap[c4]? = some (.cells #[.string p, .slice o1 n1 c1, .slice o2 n2 c2, .int .i64 st, .slice o3 n3 c3, .string d, .int .i64 u] 51)) (by kernel_rfl) ⟨(jb K2 1 rfl), (jb K2 0 rfl)⟩ (fun _ => ?_)
  obtain ⟨w3, hX⟩ := exq w2.drew;have bw := bdr hX;rw [← hX];have K3 := jw K2 bw;have c8 := And.intro (jb K3 1 rfl) (jb K3 0 rfl);clear bw hX K2;refine tkL 0 (.agg #[.int .i64 2, .string a, .string b, .int .i64 t]) 5 rfl rfl (Or.inl ⟨by rfl, by intro W hW; obtain ⟨a4, a5⟩ := hW; have y0 := c4c a4; go_simp⟩) c8 ?_;go_frame;refine rd1 1 rfl (fun K hK => ?_)
  go_simp;refine (aH1 2 a b t _ d6.out d7.out).mono ?_;rintro e w4 ⟨ub, rfl, a8, bw⟩;have K4 := jw K3 bw;clear bw K3;have a1 := And.intro (jb K4 1 rfl) (jb K4 0 rfl);refine hK.out _ _ a1 (fun _ => ?_)
  clear hK K c8;refine tkP 2 (.bool ub) 7 rfl rfl a1 ?_;go_frame;cases ub
  ·have b3 : Hid (¬ (BanP 2 a b t)) := fun h => nomatch a8.2 h
   clear a8;refine tkN 3 8 rfl rfl a1 (tkN 4 9 rfl rfl a1 (tkP 5 (.bool false) 10 rfl rfl a1 ?_));go_frame;refine tkP 6 (.bool false) 11 rfl rfl a1 (tkN 7 12 rfl rfl a1 (tkN 8 13 rfl rfl a1 ?_));go_frame;refine tkN 9 14 rfl rfl a1 (tkN 10 15 rfl rfl a1 (tkN 11 16 rfl rfl a1 ?_));go_frame;refine tkP 12 (.bool false) 17 rfl rfl a1 (tkP 13 (.bool false) 18 rfl rfl a1 (tkN 14 19 rfl rfl a1 ?_));go_frame;refine tkN 15 20 rfl rfl a1 (tkN 16 21 rfl rfl a1 (tkN 17 22 rfl rfl a1 ?_));go_frame;refine tkP 18 (.bool false) 23 rfl rfl a1 (tkP 19 (.bool false) 4 rfl rfl a1 ?_);go_frame;clear a1;refine wdn ?_;go_wp2_with fail
   go_ret;refine ⟨false, rfl, ?_, K4.hb⟩;have a3 := b3.out;refine ⟨fun h => (by cases h), fun h => ?_⟩
   exfalso
   obtain ⟨q1, q2, q3, q4⟩ := h
   first
     | exact a3 q1
     | exact a6 q2
     | exact a7 q3
     | (rcases q4 with ⟨e1, e2⟩ | ⟨e1, e2⟩ | ⟨e1, e2, e3⟩
        all_goals first
          | omega
          | exact a2 e2
          | exact a2 ⟨e2, e3⟩)
  have b3 : Hid (BanP 2 a b t) := a8.1 rfl;clear a8;refine tkL 3 (.agg #[.string p, .slice o1 n1 c1, .slice o2 n2 c2, .int .i64 st, .slice o3 n3 c3, .string d, .int .i64 u]) 8 rfl rfl (Or.inl ⟨by rfl, by intro W hW; obtain ⟨a4, a5⟩ := hW; have y0 := c7c a5; go_simp⟩) a1 ?_;go_frame;refine rd1 4 rfl (fun K hK => ?_)
  go_simp;refine (aN6 p _ n1 _ xs _ n2 _ ys st _ n3 base fs d u _ (d0.out _ K4.hb) (d1.out _ K4.hb) (d2.out _ K4.hb) (by omega) (by omega) (by omega) d3.out d4.out d5.out HC.out c7.out HX.out HG.out).mono ?_;rintro e w5 ⟨uo, rfl, a9, bw⟩;have K5 := jw K4 bw;clear bw K4;have a0 := And.intro (jb K5 1 rfl) (jb K5 0 rfl);refine hK.out _ _ a0 (fun _ => ?_)
  clear hK K a1;refine tkP 5 (.bool uo) 10 rfl rfl a0 (tkP 6 (.bool uo) 11 rfl rfl a0 ?_);go_frame;cases uo
  ·have b6 : Hid (¬ (ObjP p xs ys st fs d u)) := fun h => nomatch a9.2 h
   clear a9;refine tkN 7 12 rfl rfl a0 (tkN 8 13 rfl rfl a0 (tkN 9 14 rfl rfl a0 ?_));go_frame;refine tkN 10 15 rfl rfl a0 (tkN 11 16 rfl rfl a0 (tkP 12 (.bool false) 17 rfl rfl a0 ?_));go_frame;refine tkP 13 (.bool false) 18 rfl rfl a0 (tkN 14 19 rfl rfl a0 (tkN 15 20 rfl rfl a0 ?_));go_frame;refine tkN 16 21 rfl rfl a0 (tkN 17 22 rfl rfl a0 (tkP 18 (.bool false) 23 rfl rfl a0 ?_));go_frame;refine tkP 19 (.bool false) 4 rfl rfl a0 ?_;go_frame;clear a0;refine wdn ?_;go_wp2_with fail
   go_ret;refine ⟨false, rfl, ?_, K5.hb⟩;have a3 := b3.out;have a6 := b6.out;refine ⟨fun h => (by cases h), fun h => ?_⟩
   exfalso
   obtain ⟨q1, q2, q3, q4⟩ := h
   first
     | exact a3 q1
     | exact a6 q2
     | exact a7 q3
     | (rcases q4 with ⟨e1, e2⟩ | ⟨e1, e2⟩ | ⟨e1, e2, e3⟩
        all_goals first
          | omega
          | exact a2 e2
          | exact a2 ⟨e2, e3⟩)
  have b6 : Hid (ObjP p xs ys st fs d u) := a9.1 rfl;clear a9;refine tkP 7 (.pointer (some ⟨c4, 6, none⟩)) 12 rfl rfl a0 ?_;go_frame;refine tkL 8 (.int .i64 u) 13 rfl rfl (Or.inl ⟨by rfl, by intro W hW; obtain ⟨a4, a5⟩ := hW; have y6 := c7c a5; go_simp⟩) a0 ?_;go_frame;refine tkP 9 (.pointer (some ⟨b9, 3, none⟩)) 14 rfl rfl a0 ?_;go_frame;refine tkL 10 (.int .i64 t) 15 rfl rfl (Or.inl ⟨by rfl, by intro W hW; obtain ⟨a4, a5⟩ := hW; have y3 := c4c a4; go_simp⟩) a0 ?_;go_frame;by_cases hc1 : u ≤ t
  rotate_left
  ·have b7 := hid hc1;refine tkP 11 (.bool false) 16 rfl rfl a0 (tkP 12 (.bool false) 17 rfl rfl a0 (tkP 13 (.bool false) 18 rfl rfl a0 ?_));go_frame;refine tkN 14 19 rfl rfl a0 (tkN 15 20 rfl rfl a0 (tkN 16 21 rfl rfl a0 ?_));go_frame;refine tkN 17 22 rfl rfl a0 (tkP 18 (.bool false) 23 rfl rfl a0 (tkP 19 (.bool false) 4 rfl rfl a0 ?_));go_frame;clear a0;refine wdn ?_;go_wp2_with fail
   go_ret;refine ⟨false, rfl, ?_, K5.hb⟩;have a3 := b3.out;have a6 := b6.out;have a7 := b7.out;refine ⟨fun h => (by cases h), fun h => ?_⟩
   exfalso
   obtain ⟨q1, q2, q3, q4⟩ := h
   first
     | exact a3 q1
     | exact a6 q2
     | exact a7 q3
     | (rcases q4 with ⟨e1, e2⟩ | ⟨e1, e2⟩ | ⟨e1, e2, e3⟩
        all_goals first
          | omega
          | exact a2 e2
          | exact a2 ⟨e2, e3⟩)
  have b7 : Hid (u ≤ t) := hc1;refine tkP 11 (.bool true) 16 rfl rfl a0 (tkP 12 (.bool true) 17 rfl rfl a0 (tkP 13 (.bool true) 18 rfl rfl a0 ?_));go_frame;refine tkL 14 (.agg #[.int .i64 2, .string a, .string b, .int .i64 t]) 19 rfl rfl (Or.inl ⟨by rfl, by intro W hW; obtain ⟨a4, a5⟩ := hW; have y0 := c4c a4; go_simp⟩) a0 ?_;go_frame;refine tkL 16 (.agg #[.string p, .slice o1 n1 c1, .slice o2 n2 c2, .int .i64 st, .slice o3 n3 c3, .string d, .int .i64 u]) 21 rfl rfl (Or.inl ⟨by rfl, by intro W hW; obtain ⟨a4, a5⟩ := hW; have y0 := c7c a5; go_simp⟩) a0 ?_;go_frame;refine rd1 15 rfl (fun K hK => ?_)
  go_simp;refine (bP2 a b t _).mono ?_;rintro e w6 ⟨rfl, bw⟩;have K6 := jw K5 bw;clear bw K5;have c9 := And.intro (jb K6 1 rfl) (jb K6 0 rfl);refine hK.out _ _ c9 (fun _ => ?_)
  clear hK K a0;refine rd1 17 rfl (fun K hK => ?_)
  go_simp;refine (cT8 a p _ _ st _ d u _ c7.out).mono ?_;rintro e w7 ⟨uh, rfl, b0, bw⟩;have K7 := jw K6 bw;clear bw K6;have b8 := And.intro (jb K7 1 rfl) (jb K7 0 rfl);refine hK.out _ _ b8 (fun _ => ?_)
  clear hK K c9;refine tkP 18 (.bool uh) 23 rfl rfl b8 (tkP 19 (.bool uh) 4 rfl rfl b8 ?_);go_frame;clear b8;refine wdn ?_;cases uh
  rotate_left
  ·have c6 : Hid (bL1 a p) := b0.1 rfl;clear b0;go_wp2_with fail
   go_ret;refine ⟨true, rfl, ?_, K7.hb⟩;have a3 := b3.out;have a6 := b6.out;have a7 := b7.out;have a2 := c6.out;exact ⟨fun _ => ⟨a3, a6, a7, .inr (.inl ⟨rfl, a2⟩)⟩, fun _ => rfl⟩
  have c6 : Hid (¬ (bL1 a p)) := fun h => nomatch b0.2 h
  clear b0;go_wp2_with fail
  go_ret;refine ⟨false, rfl, ?_, K7.hb⟩;have a3 := b3.out;have a6 := b6.out;have a7 := b7.out;have a2 := c6.out;refine ⟨fun h => (by cases h), fun h => ?_⟩
  exfalso
  obtain ⟨q1, q2, q3, q4⟩ := h
  first
    | exact a3 q1
    | exact a6 q2
    | exact a7 q3
    | (rcases q4 with ⟨e1, e2⟩ | ⟨e1, e2⟩ | ⟨e1, e2, e3⟩
       all_goals first
         | omega
         | exact a2 e2
         | exact a2 ⟨e2, e3⟩)
theorem cF4 (a b : Tx) (t : Int) (p : Tx) (o1 : Oa) (n1 c1 : Nat) (xs : Ts) (o2 : Oa) (n2 c2 : Nat) (ys : Ts) (st : Int) (v3 : Value) (n3 base : Nat) (fs : Fs) (d : Tx) (u : Int) (w : World) (ha : a.size ≤ maxLen) (hb : b.size ≤ maxLen) (h1 : aC4 w o1 n1 xs) (h2 : aC4 w o2 n2 ys) (h3 : aB3 w base v3 n3 fs) (hn1 : n1 ≤ 2000000) (hn2 : n2 ≤ 2000000) (hn3 : n3 ≤ 2000000) (hs1 : ∀ i, i < n1 → (aA8 xs i).size ≤ maxLen) (hs2 : ∀ i, i < n2 → (aA8 ys i).size ≤ maxLen) (hs3 : aP6 n3 fs) (hc : aT2 fs) (hp : p.size ≤ maxLen) (hx : d.size ≤ maxLen) (hg : (getV fs aF0).size ≤ 1048576) :
    Calls prog 144 #[.agg #[.int .i64 3, .string a, .string b, .int .i64 t], .agg #[.string p, .slice o1 n1 c1, .slice o2 n2 c2, .int .i64 st, v3, .string d, .int .i64 u]] w fun e w' => aA4 (HitP 3 a b t p xs ys st fs d u) w e w' := by
  obtain ⟨o3, c3, rfl, _⟩ := h3.slice;have d0 : Hid (∀ W, Bw w W → aC4 W o1 n1 xs) := fun W h => h1.below h
  have d1 : Hid (∀ W, Bw w W → aC4 W o2 n2 ys) := fun W h => h2.below h
  have c7 : Hid (∀ W, Bw w W → aB3 W base (.slice o3 n3 c3) n3 fs) := fun W h => h3.below h
  have d2 := hid hs1;have d3 := hid hs2;have d4 := hid hs3;have HC : Hid (aT2 fs) := hc;have d5 := hid hp;have HX := hid hx;have HG := hid hg;have d6 := hid ha;have d7 := hid hb;clear h1 h2 h3 hs1 hs2 hs3 hc hp hx hg ha hb;have d8 : ∀ W : World, (nilAhead 157 248 (.agg #[.string a, .string b]) "loop.example/g00239/impl.bans").run prog W = .ok (some false) W := fun _ => by kernel_rfl
  have d9 : ∀ W : World, (method 157 248 (.agg #[.string a, .string b]) "loop.example/g00239/impl.bans").run prog W = .ok (333, .agg #[.string a, .string b]) W := fun _ => by kernel_rfl
  have K0 := jnil w;go_enter func144, ntmps144;go_upto_region 1 with fail
  obtain ⟨b9, b1⟩ := exq (w.heap.size);obtain ⟨w1, b4⟩ := exq (w.alloc (.cells #[.int .i64 3, .string a, .string b, .int .i64 t] 62));have c0 := b1.symm;rw [← b4]; try rw [← b1];have hs1 := hsa b4 c0;have bw := bal b4;have K1 := ja K0 b4 c0;clear bw b4 c0 K0;obtain ⟨c4, b2⟩ := exq (b9 + 1);obtain ⟨w2, b5⟩ := exq (w1.alloc (.cells #[.string p, .slice o1 n1 c1, .slice o2 n2 c2, .int .i64 st, .slice o3 n3 c3, .string d, .int .i64 u] 51));have c5 : w1.heap.size = c4 := by rw [b2]; exact hs1
  rw [← b5]; try rw [← b2];have hs2 := hsa b5 c5;have bw := bal b5;have K2 := ja K1 b5 c5;clear bw b5 c5 K1;clear hs2 b2 hs1 b1;go_upto_region 1 with fail
  refine wp_region_held_drew (S := fun W => W.heap[b9]? = some (.cells #[.int .i64 3, .string a, .string b, .int .i64 t] 62) ∧ W.heap[c4]? = some (.cells #[.string p, .slice o1 n1 c1, .slice o2 n2 c2, .int .i64 st, .slice o3 n3 c3, .string d, .int .i64 u] 51)) (by kernel_rfl) ⟨(jb K2 1 rfl), (jb K2 0 rfl)⟩ (fun _ => ?_)
  obtain ⟨w3, hX⟩ := exq w2.drew;have bw := bdr hX;rw [← hX];have K3 := jw K2 bw;have c8 := And.intro (jb K3 1 rfl) (jb K3 0 rfl);clear bw hX K2;refine tkL 0 (.agg #[.int .i64 3, .string a, .string b, .int .i64 t]) 5 rfl rfl (Or.inl ⟨by rfl, by intro W hW; obtain ⟨a4, a5⟩ := hW; have y0 := c4c a4; go_simp⟩) c8 ?_;go_frame;refine rd1 1 rfl (fun K hK => ?_)
  go_simp;refine (aH1 3 a b t _ d6.out d7.out).mono ?_;rintro e w4 ⟨ub, rfl, a8, bw⟩;have K4 := jw K3 bw;clear bw K3;have a2 := And.intro (jb K4 1 rfl) (jb K4 0 rfl);refine hK.out _ _ a2 (fun _ => ?_)
  clear hK K c8;refine tkP 2 (.bool ub) 7 rfl rfl a2 ?_;go_frame;cases ub
  ·have b3 : Hid (¬ (BanP 3 a b t)) := fun h => nomatch a8.2 h
   clear a8;refine tkN 3 8 rfl rfl a2 (tkN 4 9 rfl rfl a2 (tkP 5 (.bool false) 10 rfl rfl a2 ?_));go_frame;refine tkP 6 (.bool false) 11 rfl rfl a2 (tkN 7 12 rfl rfl a2 (tkN 8 13 rfl rfl a2 ?_));go_frame;refine tkN 9 14 rfl rfl a2 (tkN 10 15 rfl rfl a2 (tkN 11 16 rfl rfl a2 ?_));go_frame;refine tkP 12 (.bool false) 17 rfl rfl a2 (tkP 13 (.bool false) 18 rfl rfl a2 (tkN 14 19 rfl rfl a2 ?_));go_frame;refine tkN 15 20 rfl rfl a2 (tkN 16 21 rfl rfl a2 (tkN 17 22 rfl rfl a2 ?_));go_frame;refine tkP 18 (.bool false) 23 rfl rfl a2 (tkP 19 (.bool false) 4 rfl rfl a2 ?_);go_frame;clear a2;refine wdn ?_;go_wp2_with fail
   go_ret;refine ⟨false, rfl, ?_, K4.hb⟩;have a3 := b3.out;refine ⟨fun h => (by cases h), fun h => ?_⟩
   exfalso
   obtain ⟨q1, q2, q3, q4⟩ := h
   first
     | exact a3 q1
     | exact a6 q2
     | exact a7 q3
     | (rcases q4 with ⟨e1, e2⟩ | ⟨e1, e2⟩ | ⟨e1, e2, e3⟩
        all_goals first
          | omega
          | exact a1 e2
          | exact a1 ⟨e2, e3⟩)
  have b3 : Hid (BanP 3 a b t) := a8.1 rfl;clear a8;refine tkL 3 (.agg #[.string p, .slice o1 n1 c1, .slice o2 n2 c2, .int .i64 st, .slice o3 n3 c3, .string d, .int .i64 u]) 8 rfl rfl (Or.inl ⟨by rfl, by intro W hW; obtain ⟨a4, a5⟩ := hW; have y0 := c7c a5; go_simp⟩) a2 ?_;go_frame;refine rd1 4 rfl (fun K hK => ?_)
  go_simp;refine (aN6 p _ n1 _ xs _ n2 _ ys st _ n3 base fs d u _ (d0.out _ K4.hb) (d1.out _ K4.hb) (c7.out _ K4.hb) (by omega) (by omega) (by omega) d2.out d3.out d4.out HC.out d5.out HX.out HG.out).mono ?_;rintro e w5 ⟨uo, rfl, a9, bw⟩;have K5 := jw K4 bw;clear bw K4;have a0 := And.intro (jb K5 1 rfl) (jb K5 0 rfl);refine hK.out _ _ a0 (fun _ => ?_)
  clear hK K a2;refine tkP 5 (.bool uo) 10 rfl rfl a0 (tkP 6 (.bool uo) 11 rfl rfl a0 ?_);go_frame;cases uo
  ·have b6 : Hid (¬ (ObjP p xs ys st fs d u)) := fun h => nomatch a9.2 h
   clear a9;refine tkN 7 12 rfl rfl a0 (tkN 8 13 rfl rfl a0 (tkN 9 14 rfl rfl a0 ?_));go_frame;refine tkN 10 15 rfl rfl a0 (tkN 11 16 rfl rfl a0 (tkP 12 (.bool false) 17 rfl rfl a0 ?_));go_frame;refine tkP 13 (.bool false) 18 rfl rfl a0 (tkN 14 19 rfl rfl a0 (tkN 15 20 rfl rfl a0 ?_));go_frame;refine tkN 16 21 rfl rfl a0 (tkN 17 22 rfl rfl a0 (tkP 18 (.bool false) 23 rfl rfl a0 ?_));go_frame;refine tkP 19 (.bool false) 4 rfl rfl a0 ?_;go_frame;clear a0;refine wdn ?_;go_wp2_with fail
   go_ret;refine ⟨false, rfl, ?_, K5.hb⟩;have a3 := b3.out;have a6 := b6.out;refine ⟨fun h => (by cases h), fun h => ?_⟩
   exfalso
   obtain ⟨q1, q2, q3, q4⟩ := h
   first
     | exact a3 q1
     | exact a6 q2
     | exact a7 q3
     | (rcases q4 with ⟨e1, e2⟩ | ⟨e1, e2⟩ | ⟨e1, e2, e3⟩
        all_goals first
          | omega
          | exact a1 e2
          | exact a1 ⟨e2, e3⟩)
  have b6 : Hid (ObjP p xs ys st fs d u) := a9.1 rfl;clear a9;refine tkP 7 (.pointer (some ⟨c4, 6, none⟩)) 12 rfl rfl a0 ?_;go_frame;refine tkL 8 (.int .i64 u) 13 rfl rfl (Or.inl ⟨by rfl, by intro W hW; obtain ⟨a4, a5⟩ := hW; have y6 := c7c a5; go_simp⟩) a0 ?_;go_frame;refine tkP 9 (.pointer (some ⟨b9, 3, none⟩)) 14 rfl rfl a0 ?_;go_frame;refine tkL 10 (.int .i64 t) 15 rfl rfl (Or.inl ⟨by rfl, by intro W hW; obtain ⟨a4, a5⟩ := hW; have y3 := c4c a4; go_simp⟩) a0 ?_;go_frame;by_cases hc1 : u ≤ t
  rotate_left
  ·have b7 := hid hc1;refine tkP 11 (.bool false) 16 rfl rfl a0 (tkP 12 (.bool false) 17 rfl rfl a0 (tkP 13 (.bool false) 18 rfl rfl a0 ?_));go_frame;refine tkN 14 19 rfl rfl a0 (tkN 15 20 rfl rfl a0 (tkN 16 21 rfl rfl a0 ?_));go_frame;refine tkN 17 22 rfl rfl a0 (tkP 18 (.bool false) 23 rfl rfl a0 (tkP 19 (.bool false) 4 rfl rfl a0 ?_));go_frame;clear a0;refine wdn ?_;go_wp2_with fail
   go_ret;refine ⟨false, rfl, ?_, K5.hb⟩;have a3 := b3.out;have a6 := b6.out;have a7 := b7.out;refine ⟨fun h => (by cases h), fun h => ?_⟩
   exfalso
   obtain ⟨q1, q2, q3, q4⟩ := h
   first
     | exact a3 q1
     | exact a6 q2
     | exact a7 q3
     | (rcases q4 with ⟨e1, e2⟩ | ⟨e1, e2⟩ | ⟨e1, e2, e3⟩
        all_goals first
          | omega
          | exact a1 e2
          | exact a1 ⟨e2, e3⟩)
  have b7 : Hid (u ≤ t) := hc1;refine tkP 11 (.bool true) 16 rfl rfl a0 (tkP 12 (.bool true) 17 rfl rfl a0 (tkP 13 (.bool true) 18 rfl rfl a0 ?_));go_frame;refine tkL 14 (.agg #[.int .i64 3, .string a, .string b, .int .i64 t]) 19 rfl rfl (Or.inl ⟨by rfl, by intro W hW; obtain ⟨a4, a5⟩ := hW; have y0 := c4c a4; go_simp⟩) a0 ?_;go_frame;refine tkL 16 (.agg #[.string p, .slice o1 n1 c1, .slice o2 n2 c2, .int .i64 st, .slice o3 n3 c3, .string d, .int .i64 u]) 21 rfl rfl (Or.inl ⟨by rfl, by intro W hW; obtain ⟨a4, a5⟩ := hW; have y0 := c7c a5; go_simp⟩) a0 ?_;go_frame;refine rd1 15 rfl (fun K hK => ?_)
  go_simp;refine (cB5 a b t _).mono ?_;rintro e w6 ⟨rfl, bw⟩;have K6 := jw K5 bw;clear bw K5;have c9 := And.intro (jb K6 1 rfl) (jb K6 0 rfl);refine hK.out _ _ c9 (fun _ => ?_)
  clear hK K a0;refine rd1 17 rfl (fun K hK => ?_)
  go_simp;refine (cT9 a b p _ _ st _ d u _ n3 base fs (c7.out _ K6.hb) (by omega) HC.out).mono ?_;rintro e w7 ⟨uh, rfl, b0, bw⟩;have K7 := jw K6 bw;clear bw K6;have b8 := And.intro (jb K7 1 rfl) (jb K7 0 rfl);refine hK.out _ _ b8 (fun _ => ?_)
  clear hK K c9;refine tkP 18 (.bool uh) 23 rfl rfl b8 (tkP 19 (.bool uh) 4 rfl rfl b8 ?_);go_frame;clear b8;refine wdn ?_;cases uh
  rotate_left
  ·have c6 : Hid (getB fs a = true ∧ getV fs a = b) := b0.1 rfl;clear b0;go_wp2_with fail
   go_ret;refine ⟨true, rfl, ?_, K7.hb⟩;have a3 := b3.out;have a6 := b6.out;have a7 := b7.out;have a1 := c6.out;exact ⟨fun _ => ⟨a3, a6, a7, .inr (.inr ⟨rfl, a1.1, a1.2⟩)⟩, fun _ => rfl⟩
  have c6 : Hid (¬ (getB fs a = true ∧ getV fs a = b)) := fun h => nomatch b0.2 h
  clear b0;go_wp2_with fail
  go_ret;refine ⟨false, rfl, ?_, K7.hb⟩;have a3 := b3.out;have a6 := b6.out;have a7 := b7.out;have a1 := c6.out;refine ⟨fun h => (by cases h), fun h => ?_⟩
  exfalso
  obtain ⟨q1, q2, q3, q4⟩ := h
  first
    | exact a3 q1
    | exact a6 q2
    | exact a7 q3
    | (rcases q4 with ⟨e1, e2⟩ | ⟨e1, e2⟩ | ⟨e1, e2, e3⟩
       all_goals first
         | omega
         | exact a1 e2
         | exact a1 ⟨e2, e3⟩)
theorem bY5 (k : Int) (hk1 : ¬ k = 1) (hk2 : ¬ k = 2) (hk3 : ¬ k = 3) (a b : Tx) (t : Int) (p : Tx) (o1 : Oa) (n1 c1 : Nat) (xs : Ts) (o2 : Oa) (n2 c2 : Nat) (ys : Ts) (st : Int) (v3 : Value) (n3 base : Nat) (fs : Fs) (d : Tx) (u : Int) (w : World) (ha : a.size ≤ maxLen) (hb : b.size ≤ maxLen) (h1 : aC4 w o1 n1 xs) (h2 : aC4 w o2 n2 ys) (h3 : aB3 w base v3 n3 fs) (_hn1 : n1 ≤ 2000000) (_hn2 : n2 ≤ 2000000) (_hn3 : n3 ≤ 2000000) (hs1 : ∀ i, i < n1 → (aA8 xs i).size ≤ maxLen) (hs2 : ∀ i, i < n2 → (aA8 ys i).size ≤ maxLen) (hs3 : aP6 n3 fs) (hc : aT2 fs) (hp : p.size ≤ maxLen) (hx : d.size ≤ maxLen) (hg : (getV fs aF0).size ≤ 1048576) :
  Calls prog 144 #[.agg #[.int .i64 k, .string a, .string b, .int .i64 t], .agg #[.string p, .slice o1 n1 c1, .slice o2 n2 c2, .int .i64 st, v3, .string d, .int .i64 u]] w fun e w' => aA4 (HitP k a b t p xs ys st fs d u) w e w' := by
 obtain ⟨o3, c3, rfl, _⟩ := h3.slice;have b7 : Hid (∀ W, Bw w W → aC4 W o1 n1 xs) := fun W h => h1.below h
 have b8 : Hid (∀ W, Bw w W → aC4 W o2 n2 ys) := fun W h => h2.below h
 have b9 : Hid (∀ W, Bw w W → aB3 W base (.slice o3 n3 c3) n3 fs) := fun W h => h3.below h
 have c0 := hid hs1;have c4 := hid hs2;have c5 := hid hs3;have HC : Hid (aT2 fs) := hc;have c6 := hid hp;have HX := hid hx;have HG := hid hg;have b1 := hid ha;have b2 := hid hb;clear h1 h2 h3 hs1 hs2 hs3 hc hp hx hg ha hb;have b3 := hid hk1;have b4 := hid hk2;have b5 := hid hk3;clear hk1 hk2 hk3;have K0 := jnil w;go_enter func144, ntmps144;go_upto_region 1 with fail
 obtain ⟨q1, a4⟩ := exq (w.heap.size);obtain ⟨w1, a1⟩ := exq (w.alloc (.cells #[.int .i64 k, .string a, .string b, .int .i64 t] 62));have a5 := a4.symm;rw [← a1]; try rw [← a4];have hs1 := hsa a1 a5;have bw := bal a1;have K1 := ja K0 a1 a5;clear bw a1 a5 K0;obtain ⟨q2, a6⟩ := exq (q1 + 1);obtain ⟨w2, a2⟩ := exq (w1.alloc (.cells #[.string p, .slice o1 n1 c1, .slice o2 n2 c2, .int .i64 st, .slice o3 n3 c3, .string d, .int .i64 u] 51));have a7 : w1.heap.size = q2 := by rw [a6]; exact hs1
 rw [← a2]; try rw [← a6];have hs2 := hsa a2 a7;have bw := bal a2;have K2 := ja K1 a2 a7;clear bw a2 a7 K1;clear hs2 a6 hs1 a4;go_upto_region 1 with fail
 refine wp_region_held_drew (S := fun W => W.heap[q1]? = some (.cells #[.int .i64 k, .string a, .string b, .int .i64 t] 62) ∧ W.heap[q2]? = some (.cells #[.string p, .slice o1 n1 c1, .slice o2 n2 c2, .int .i64 st, .slice o3 n3 c3, .string d, .int .i64 u] 51)) (by kernel_rfl) ⟨(jb K2 1 rfl), (jb K2 0 rfl)⟩ (fun _ => ?_)
 obtain ⟨w3, hX⟩ := exq w2.drew;have bw := bdr hX;rw [← hX];have K3 := jw K2 bw;have a9 := And.intro (jb K3 1 rfl) (jb K3 0 rfl);clear bw hX K2;refine tkL 0 (.agg #[.int .i64 k, .string a, .string b, .int .i64 t]) 5 rfl rfl (Or.inl ⟨by rfl, by intro W hW; obtain ⟨a8, b6⟩ := hW; have y0 := c4c a8; go_simp⟩) a9 ?_;go_frame;refine rd1 1 rfl (fun K hK => ?_)
 go_simp;refine (aH1 k a b t _ b1.out b2.out).mono ?_;rintro e w4 ⟨ub, rfl, a3, bw⟩;have b0 : Hid (¬ BanP k a b t) := fun h => h.kinds.elim b3.out (fun h => h.elim b4.out b5.out)
 obtain rfl : ub = false := by
  cases ub with
  | false => rfl
  | true => exact absurd (a3.1 rfl) b0.out
 clear a3;have K4 := jw K3 bw;clear bw K3;have a0 := And.intro (jb K4 1 rfl) (jb K4 0 rfl);refine hK.out _ _ a0 (fun _ => ?_)
 clear hK K a9;refine tkP 2 (.bool false) 7 rfl rfl a0 (tkN 3 8 rfl rfl a0 (tkN 4 9 rfl rfl a0 ?_));go_frame;refine tkP 5 (.bool false) 10 rfl rfl a0 (tkP 6 (.bool false) 11 rfl rfl a0 (tkN 7 12 rfl rfl a0 ?_));go_frame;refine tkN 8 13 rfl rfl a0 (tkN 9 14 rfl rfl a0 (tkN 10 15 rfl rfl a0 ?_));go_frame;refine tkN 11 16 rfl rfl a0 (tkP 12 (.bool false) 17 rfl rfl a0 (tkP 13 (.bool false) 18 rfl rfl a0 ?_));go_frame;refine tkN 14 19 rfl rfl a0 (tkN 15 20 rfl rfl a0 (tkN 16 21 rfl rfl a0 ?_));go_frame;refine tkN 17 22 rfl rfl a0 (tkP 18 (.bool false) 23 rfl rfl a0 (tkP 19 (.bool false) 4 rfl rfl a0 ?_));go_frame;clear a0;refine wdn ?_;go_wp2_with fail
 go_ret;exact aA4.no (fun h => b0.out h.1) K4.hb
theorem bU2 (k : Int) (a b : Tx) (t : Int) (p : Tx) (o1 : Oa) (n1 c1 : Nat) (xs : Ts) (o2 : Oa) (n2 c2 : Nat) (ys : Ts) (st : Int) (v3 : Value) (n3 base : Nat) (fs : Fs) (d : Tx) (u : Int) (w : World) (ha : a.size ≤ maxLen) (hb : b.size ≤ maxLen) (h1 : aC4 w o1 n1 xs) (h2 : aC4 w o2 n2 ys) (h3 : aB3 w base v3 n3 fs) (hn1 : n1 ≤ 2000000) (hn2 : n2 ≤ 2000000) (hn3 : n3 ≤ 2000000) (hs1 : ∀ i, i < n1 → (aA8 xs i).size ≤ maxLen) (hs2 : ∀ i, i < n2 → (aA8 ys i).size ≤ maxLen) (hs3 : aP6 n3 fs) (hc : aT2 fs) (hp : p.size ≤ maxLen) (hx : d.size ≤ maxLen) (hg : (getV fs aF0).size ≤ 1048576) :
  Calls prog 144 #[.agg #[.int .i64 k, .string a, .string b, .int .i64 t], .agg #[.string p, .slice o1 n1 c1, .slice o2 n2 c2, .int .i64 st, v3, .string d, .int .i64 u]] w fun e w' => aA4 (HitP k a b t p xs ys st fs d u) w e w' := by
 by_cases h1' : k = 1
 ·subst h1'; exact cF2 a b t p o1 n1 c1 xs o2 n2 c2 ys st v3 n3 base fs d u w ha hb h1 h2 h3 hn1 hn2 hn3 hs1 hs2 hs3 hc hp hx hg
 by_cases h2' : k = 2
 ·subst h2'; exact cF3 a b t p o1 n1 c1 xs o2 n2 c2 ys st v3 n3 base fs d u w ha hb h1 h2 h3 hn1 hn2 hn3 hs1 hs2 hs3 hc hp hx hg
 by_cases h3' : k = 3
 ·subst h3'; exact cF4 a b t p o1 n1 c1 xs o2 n2 c2 ys st v3 n3 base fs d u w ha hb h1 h2 h3 hn1 hn2 hn3 hs1 hs2 hs3 hc hp hx hg
 exact bY5 k h1' h2' h3' a b t p o1 n1 c1 xs o2 n2 c2 ys st v3 n3 base fs d u w ha hb h1 h2 h3 hn1 hn2 hn3 hs1 hs2 hs3 hc hp hx hg
end Go.Proofs.YtejoifianjgefaaGreatDoor
