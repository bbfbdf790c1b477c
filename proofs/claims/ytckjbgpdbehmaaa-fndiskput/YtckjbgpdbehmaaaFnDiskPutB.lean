/- What the proof of FnDiskPut leans on: contracts of the program's and the specification's functions, and plain facts (part 2 of 5). -/
import Derived.Test.YtckjbgpdbehmaaaFnDiskPutA
namespace Go.Proofs.Ytckjbgpdbehmaaa
open Go.RowKit

/-- How many bytes a head has; none: it is not whole. -/
def headN : List UInt8 → Option Nat
  | [] => none
  | c :: t => if (c :: t).take 4 = [13, 10, 13, 10] then some 4 else (headN t).map (· + 1)

theorem headN_len : ∀ {w : List UInt8} {n : Nat}, headN w = some n → 4 ≤ n ∧ n ≤ w.length := by
  intro w
  induction w with
  | nil => intro n h; simp [headN] at h
  | cons c t ih =>
    intro n h
    unfold headN at h
    by_cases h4 : (c :: t).take 4 = [13, 10, 13, 10]
    · rw [if_pos h4] at h
      obtain rfl := Option.some.inj h
      have := congrArg List.length h4
      simp [List.length_take] at this
      refine ⟨Nat.le_refl _, ?_⟩
      simp
      omega
    · rw [if_neg h4] at h
      obtain ⟨m, hm, rfl⟩ := Option.map_eq_some_iff.1 h
      have := ih hm
      simp
      omega

/-- A whole head stays the head, whatever is behind it. -/
theorem headN_app (x : List UInt8) : ∀ {w : List UInt8} {n : Nat}, headN w = some n → headN (w ++ x) = some n := by
  intro w
  induction w with
  | nil => intro n h; simp [headN] at h
  | cons c t ih =>
    intro n h
    have hl := headN_len h
    have ht : ((c :: t) ++ x).take 4 = (c :: t).take 4 := List.take_append_of_le_length (by omega)
    unfold headN at h
    show headN (c :: (t ++ x)) = some n
    unfold headN
    have ht' : (c :: (t ++ x)).take 4 = (c :: t).take 4 := ht
    rw [ht']
    by_cases h4 : (c :: t).take 4 = [13, 10, 13, 10]
    · rw [if_pos h4] at h ⊢; exact h
    · rw [if_neg h4] at h ⊢
      obtain ⟨m, hm, rfl⟩ := Option.map_eq_some_iff.1 h
      rw [ih hm]; rfl

/-- What waits behind it, whether it is bad, and what was told; none: not told within so many requests. -/
def fdF (ok : List UInt8 → Bool) (len : List UInt8 → Nat) : Nat → List UInt8 → Option (List UInt8 × Bool × List (List UInt8))
  | 0, _ => none
  | f + 1, w =>
    match headN w with
    | none => some (w, false, [])
    | some n =>
      if 120 < len (w.take n) then some ([], true, [])
      else if w.length < n + len (w.take n) then some (w, false, [])
      else if ok (w.take (n + len (w.take n))) = true then (fdF ok len f (w.drop (n + len (w.take n)))).map (fun x => (x.1, x.2.1, w.take (n + len (w.take n)) :: x.2.2))
      else some ([], true, [])

variable {ok : List UInt8 → Bool} {len : List UInt8 → Nat}

theorem fdF_more : ∀ (f : Nat) (w : List UInt8) (x : List UInt8 × Bool × List (List UInt8)), fdF ok len f w = some x → ∀ d, fdF ok len (f + d) w = some x := by
  intro f
  induction f with
  | zero => intro w x h; simp [fdF] at h
  | succ f ih =>
    intro w x h d
    rw [show f + 1 + d = (f + d) + 1 by omega]
    unfold fdF at h ⊢
    cases hn : headN w with
    | none => rw [hn] at h; exact h
    | some n =>
      rw [hn] at h
      simp only at h ⊢
      by_cases h1 : 120 < len (w.take n)
      · rw [if_pos h1] at h ⊢; exact h
      · rw [if_neg h1] at h ⊢
        by_cases h2 : w.length < n + len (w.take n)
        · rw [if_pos h2] at h ⊢; exact h
        · rw [if_neg h2] at h ⊢
          by_cases h3 : ok (w.take (n + len (w.take n))) = true
          · rw [if_pos h3] at h ⊢
            obtain ⟨y, hy, rfl⟩ := Option.map_eq_some_iff.1 h
            rw [ih _ _ hy d]; rfl
          · rw [if_neg h3] at h ⊢; exact h

/-- Bad stays bad, and what was told ahead of it stays told, whatever comes behind it. -/
theorem fdF_bad (x : List UInt8) : ∀ (f : Nat) (w u : List UInt8) (t : List (List UInt8)), fdF ok len f w = some (u, true, t) → u = [] ∧ fdF ok len f (w ++ x) = some ([], true, t) := by
  intro f
  induction f with
  | zero => intro w u t h; simp [fdF] at h
  | succ f ih =>
    intro w u t h
    unfold fdF at h ⊢
    cases hn : headN w with
    | none => rw [hn] at h; simp at h
    | some n =>
      have hl := headN_len hn
      rw [hn] at h
      rw [headN_app x hn]
      simp only at h ⊢
      rw [List.take_append_of_le_length hl.2]
      by_cases h1 : 120 < len (w.take n)
      · rw [if_pos h1] at h ⊢
        simp at h
        obtain ⟨rfl, rfl⟩ := h
        exact ⟨rfl, rfl⟩
      · rw [if_neg h1] at h ⊢
        by_cases h2 : w.length < n + len (w.take n)
        · rw [if_pos h2] at h; simp at h
        · rw [if_neg h2] at h
          rw [if_neg (by rw [List.length_append]; omega), List.take_append_of_le_length (by omega), List.drop_append_of_le_length (by omega)]
          by_cases h3 : ok (w.take (n + len (w.take n))) = true
          · rw [if_pos h3] at h ⊢
            obtain ⟨⟨y1, y2, y3⟩, hy, he⟩ := Option.map_eq_some_iff.1 h
            simp at he
            obtain ⟨rfl, rfl, rfl⟩ := he
            obtain ⟨e1, e2⟩ := ih _ _ _ hy
            rw [e2]
            exact ⟨e1, rfl⟩
          · rw [if_neg h3] at h ⊢
            simp at h
            obtain ⟨rfl, rfl⟩ := h
            exact ⟨rfl, rfl⟩

/-- What waits, with more behind it, goes on as the whole would have. -/
theorem fdF_on (x : List UInt8) (g : Nat) (u2 : List UInt8) (b2 : Bool) (t2 : List (List UInt8)) : ∀ (f : Nat) (w u : List UInt8) (t : List (List UInt8)), fdF ok len f w = some (u, false, t) → fdF ok len g (u ++ x) = some (u2, b2, t2) → fdF ok len (f + g) (w ++ x) = some (u2, b2, t ++ t2) := by
  intro f
  induction f with
  | zero => intro w u t h; simp [fdF] at h
  | succ f ih =>
    intro w u t h k
    have hstay : u = w → t = [] → fdF ok len (f + 1 + g) (w ++ x) = some (u2, b2, t ++ t2) := by
      rintro rfl rfl
      rw [Nat.add_comm]
      exact fdF_more _ _ _ k _
    unfold fdF at h
    cases hn : headN w with
    | none =>
      rw [hn] at h
      simp at h
      exact hstay h.1.symm h.2
    | some n =>
      have hl := headN_len hn
      rw [hn] at h
      simp only at h
      by_cases h1 : 120 < len (w.take n)
      · rw [if_pos h1] at h; simp at h
      · rw [if_neg h1] at h
        by_cases h2 : w.length < n + len (w.take n)
        · rw [if_pos h2] at h
          simp at h
          exact hstay h.1.symm h.2
        · rw [if_neg h2] at h
          by_cases h3 : ok (w.take (n + len (w.take n))) = true
          · rw [if_pos h3] at h
            obtain ⟨⟨y1, y2, y3⟩, hy, he⟩ := Option.map_eq_some_iff.1 h
            simp at he
            obtain ⟨rfl, rfl, rfl⟩ := he
            rw [show f + 1 + g = (f + g) + 1 by omega]
            unfold fdF
            rw [headN_app x hn]
            simp only
            rw [List.take_append_of_le_length hl.2, if_neg h1, if_neg (by rw [List.length_append]; omega), List.take_append_of_le_length (by omega), List.drop_append_of_le_length (by omega), if_pos h3, ih _ _ _ hy k]
            rfl
          · rw [if_neg h3] at h; simp at h

/-- What waits is no longer than the text; what was told is right, and no longer together. -/
theorem fdF_bound : ∀ (f : Nat) (w u : List UInt8) (b : Bool) (t : List (List UInt8)), fdF ok len f w = some (u, b, t) → u.length + t.flatten.length ≤ w.length ∧ (∀ y ∈ t, ok y = true) ∧ 4 * t.length ≤ w.length := by
  intro f
  induction f with
  | zero => intro w u b t h; simp [fdF] at h
  | succ f ih =>
    intro w u b t h
    unfold fdF at h
    cases hn : headN w with
    | none =>
      rw [hn] at h
      simp at h
      obtain ⟨rfl, rfl, rfl⟩ := h
      simp
    | some n =>
      have hl := headN_len hn
      rw [hn] at h
      simp only at h
      by_cases h1 : 120 < len (w.take n)
      · rw [if_pos h1] at h
        simp at h
        obtain ⟨rfl, rfl, rfl⟩ := h
        simp
      · rw [if_neg h1] at h
        by_cases h2 : w.length < n + len (w.take n)
        · rw [if_pos h2] at h
          simp at h
          obtain ⟨rfl, rfl, rfl⟩ := h
          simp
        · rw [if_neg h2] at h
          by_cases h3 : ok (w.take (n + len (w.take n))) = true
          · rw [if_pos h3] at h
            obtain ⟨⟨y1, y2, y3⟩, hy, he⟩ := Option.map_eq_some_iff.1 h
            simp at he
            obtain ⟨rfl, rfl, rfl⟩ := he
            obtain ⟨e1, e2, e3⟩ := ih _ _ _ _ hy
            rw [List.length_drop] at e1 e3
            refine ⟨?_, ?_, ?_⟩
            · rw [List.flatten_cons, List.length_append, List.length_take]
              omega
            · intro y hy'
              rcases List.mem_cons.1 hy' with rfl | hy'
              · exact h3
              · exact e2 y hy'
            · rw [List.length_cons]; omega
          · rw [if_neg h3] at h
            simp at h
            obtain ⟨rfl, rfl, rfl⟩ := h
            simp

/-- What is told of a text: one thing. -/
def Fd (ok : List UInt8 → Bool) (len : List UInt8 → Nat) (w : List UInt8) (x : List UInt8 × Bool × List (List UInt8)) : Prop := ∃ f, fdF ok len f w = some x
theorem Fd.none {w : List UInt8} (h : headN w = .none) : Fd ok len w (w, false, []) := ⟨1, by unfold fdF; rw [h]⟩
theorem Fd.short {w : List UInt8} {n : Nat} (h : headN w = some n) (h1 : ¬ 120 < len (w.take n)) (h2 : w.length < n + len (w.take n)) : Fd ok len w (w, false, []) := ⟨1, by unfold fdF; rw [h]; simp only; rw [if_neg h1, if_pos h2]⟩
/-- Feed: what waits and whether it is bad, ahead and behind, and what was told. -/
def FeedP (ok : List UInt8 → Bool) (len : List UInt8 → Nat) (w : List UInt8) (b : Bool) (p : List UInt8) (w' : List UInt8) (b' : Bool) (t : List (List UInt8)) : Prop :=
  (b = true ∧ w' = [] ∧ b' = true ∧ t = []) ∨
  (b = false ∧ ∃ u c, Fd ok len (w ++ p) (u, c, t) ∧ (((c = true ∨ 1200 < u.length) ∧ w' = [] ∧ b' = true) ∨ (c = false ∧ ¬ 1200 < u.length ∧ w' = u ∧ b' = false)))
/-- Feed of each piece, one behind the other, and all that was told. -/
def FeedAllP (ok : List UInt8 → Bool) (len : List UInt8 → Nat) : List (List UInt8) → List UInt8 → Bool → List UInt8 → Bool → List (List UInt8) → Prop
  | [], w, b, w', b', t => w' = w ∧ b' = b ∧ t = []
  | p :: ps, w, b, w', b', t => ∃ w1 b1 t1 t2, FeedP ok len w b p w1 b1 t1 ∧ FeedAllP ok len ps w1 b1 w' b' t2 ∧ t = t1 ++ t2

/-- Promise 5 in plain words: in whatever pieces it comes, the same is told, and the same waits. -/
theorem FeedAllP.pieces : ∀ (ps : List (List UInt8)) (w : List UInt8) (b : Bool) (w' : List UInt8) (b' : Bool) (t : List (List UInt8)), ps ≠ [] → w.length + ps.flatten.length ≤ 1200 → FeedAllP ok len ps w b w' b' t → FeedP ok len w b ps.flatten w' b' t := by
  intro ps
  induction ps with
  | nil => intro w b w' b' t h; exact absurd rfl h
  | cons p ps ih =>
    intro w b w' b' t _ hl h
    obtain ⟨w1, b1, t1, t2, hf, ha, rfl⟩ := h
    rw [List.flatten_cons, List.length_append] at hl
    rw [List.flatten_cons]
    cases ps with
    | nil =>
      obtain ⟨rfl, rfl, rfl⟩ := ha
      simpa using hf
    | cons q qs =>
      rcases hf with ⟨hb, rfl, rfl, rfl⟩ | ⟨hb, u, c, hfd, hh⟩
      · rcases ih _ _ _ _ _ (by simp) (by simp only [List.length_nil]; omega) ha with ⟨_, rfl, rfl, rfl⟩ | ⟨kb, _⟩
        · exact .inl ⟨hb, rfl, rfl, rfl⟩
        · cases kb
      · obtain ⟨f, hfd⟩ := hfd
        have hbd := (fdF_bound f _ _ _ _ hfd).1
        rw [List.length_append] at hbd
        cases c with
        | true =>
          rcases hh with ⟨_, rfl, rfl⟩ | ⟨hc, _⟩
          · rcases ih _ _ _ _ _ (by simp) (by simp only [List.length_nil]; omega) ha with ⟨_, rfl, rfl, rfl⟩ | ⟨kb, _⟩
            · refine .inr ⟨hb, [], true, ⟨f, ?_⟩, .inl ⟨.inl rfl, rfl, rfl⟩⟩
              rw [← List.append_assoc, List.append_nil]
              exact (fdF_bad _ f _ _ _ hfd).2
            · cases kb
          · cases hc
        | false =>
          rcases hh with ⟨ho, _, _⟩ | ⟨_, _, rfl, rfl⟩
          · rcases ho with ho | ho
            · cases ho
            · exfalso; omega
          · rcases ih _ _ _ _ _ (by simp) (by omega) ha with ⟨kb, _⟩ | ⟨_, u2, c2, ⟨g, hg⟩, kk⟩
            · cases kb
            · refine .inr ⟨hb, u2, c2, ⟨f + g, ?_⟩, kk⟩
              rw [← List.append_assoc]
              exact fdF_on _ g _ _ _ f _ _ _ hfd hg

/-- A text cut into pieces of these sizes, and the rest as the last one, if it is not empty. -/
def pcs : List Int → List UInt8 → List (List UInt8)
  | [], s => if s = [] then [] else [s]
  | z :: zs, s => s.take z.toNat :: pcs zs (s.drop z.toNat)
theorem pcs_flat : ∀ (zs : List Int) (s : List UInt8), (pcs zs s).flatten = s := by
  intro zs
  induction zs with
  | nil =>
    intro s
    unfold pcs
    by_cases h : s = []
    · rw [if_pos h, h]; rfl
    · rw [if_neg h]; simp
  | cons z zs ih =>
    intro s
    unfold pcs
    rw [List.flatten_cons, ih, List.take_append_drop]
/-- The law's last piece is empty, so that there is one: the same is told of the pieces and of the whole. -/
theorem FeedAllP.cut {zs : List Int} {s w w' : List UInt8} {b b' : Bool} {t : List (List UInt8)} (hl : w.length + s.length ≤ 1200) (h : FeedAllP ok len (pcs zs s ++ [[]]) w b w' b' t) : FeedP ok len w b s w' b' t := by
  have hf : (pcs zs s ++ [[]]).flatten = s := by rw [List.flatten_append, pcs_flat]; simp
  have := FeedAllP.pieces (pcs zs s ++ [[]]) w b w' b' t (by simp) (by rw [hf]; exact hl) h
  rw [hf] at this
  exact this
end Go.Proofs.Ytckjbgpdbehmaaa

namespace Go.Proofs.Ytckjbgpdbehmaaa
open Go.RowKit
open Go.Lib hiding intOf

/-- A request, as it is told. -/
structure RqD where
  m : Int
  p : ByteArray
  fs : List (ByteArray × ByteArray)
  b : ByteArray
/-- Its text. -/
def RqD.text (r : RqD) : List UInt8 := bs (reqT r.m r.p r.fs r.b)
def RqD.ok (r : RqD) : Prop := ReqP r.m r.p r.fs r.b
end Go.Proofs.Ytckjbgpdbehmaaa

namespace Go.Proofs.Ytckjbgpdbehmaaa
open Go.RowKit
open Go.Lib hiding intOf

/-- The cells of it. -/
def CcD.cs (c : CcD) : Array Value := #[.bool c.ns, .bool c.nc, .bool c.pr, .bool c.mu, .bool c.ha, .int .i64 c.age]
end Go.Proofs.Ytckjbgpdbehmaaa

namespace Go.Proofs.Ytckjbgpdbehmaaa
open Go.RowKit
open Go.Lib hiding intOf

/-- A call on the cursor answers a field of short texts, and turns the cursor alone of what was there. -/
def FieldDrawn (w : World) (c : Nat) (a : Option Addr) (len cap : Nat) (e : Ending) (w' : World) : Prop :=
  ∃ nm vl : ByteArray, e = .returned (.agg #[.string nm, .string vl]) ∧ nm.size ≤ 64 ∧ vl.size ≤ 64 ∧ CurAt w' c a len cap ∧ w.grownBy w' (some c)

/-- The two cells of a field's memory, written. -/
def twoSet (w : World) (r : Nat) (nm vl : ByteArray) : World := (w.setCell ⟨r, 0, none⟩ (.string nm)).setCell ⟨r, 1, none⟩ (.string vl)
theorem twoSet_grown (w : World) (r : Nat) (nm vl : ByteArray) : w.grownBy (twoSet w r nm vl) (some r) :=
  ⟨rfl, rfl, rfl, by simp [twoSet], fun k _ hk => by
    have hne : k ≠ r := fun e => hk (by rw [e])
    unfold twoSet
    rw [heap_setCell_other _ _ k _ (fun e => hne e), heap_setCell_other _ _ k _ (fun e => hne e)]⟩
theorem FieldDrawn.of {w w2 : World} {c r : Nat} {a : Option Addr} {len cap : Nat} {nm vl : ByteArray} (h1 : nm.size ≤ 64) (h2 : vl.size ≤ 64) (hcu : CurAt w2 c a len cap) (hg : w.grownBy w2 (some c)) (hrc : r ≠ c) (hrw : w.heap.size ≤ r) : FieldDrawn w c a len cap (.returned (.agg #[.string nm, .string vl])) (twoSet w2 r nm vl) :=
  ⟨nm, vl, rfl, h1, h2, hcu.grown (twoSet_grown w2 r nm vl) (fun e => hrc (Option.some.inj e)), grown_later hg (twoSet_grown w2 r nm vl) (fun g e => by cases e; exact hrw)⟩

end Go.Proofs.Ytckjbgpdbehmaaa

namespace Go.Proofs.Ytckjbgpdbehmaaa
open Go.RowKit
open Go.Lib hiding intOf

/-- 'wpAnyH_take', its place named. -/
theorem wpAnyH_takeD {P : Program} {ops : Array Oper} {Q : Exit → Act → World → Prop} {md : Region.Mode} {S : World → Prop} {i : Nat} {oi : Oper} {v : Value} {fuel : Nat} {listed : Array Bool} {a : Act} {w : World} (d : Option Tmp) (hi : ops[i]? = some oi) (hd : oi.dst = d)
    (hs : Region.noSelect ops = true) (hf : Region.free md ops listed i = true) (hr : (Region.ready md ops listed).contains i = true)
    (hQ : ∀ c a w, Q (.panic c) (a.put oi.dst v) w → Q (.panic c) a w) (hy : YieldsIf P ops S oi v a) (hS : S w)
    (h : wpAnyH P md ops Q S fuel (listed.setIfInBounds i true) (a.put d v) w) : wpAnyH P md ops Q S (fuel + 1) listed a w :=
  wpAnyH_take hi hs hf hr hQ hy hS (hd ▸ h)
end Go.Proofs.Ytckjbgpdbehmaaa

namespace Go.Proofs.Ytckjbgpdbehmaaa
open Go.RowKit
open Go.Lib hiding intOf

set_option maxHeartbeats 8000000 in
set_option maxRecDepth 100000 in
theorem specDiskOk_len (o1 : Option Addr) (n1 c1 : Nat) (v2 : Value) (n2 : Nat) (ws : List (Int × ByteArray)) (B : Nat) (w : World) (h : w.ownsRow B 67 2 v2 n2 (flatWrite ws)) (hn2 : n2 ≤ 2000000) :
    Calls Try.prog 17 #[.agg #[.slice o1 n1 c1, v2]] w fun e w' => BoolIs (DiskN n1 ws) w e w' := by
  obtain ⟨oPx, pPx, rfl⟩ := slice_of_owns h
  have HOPx_0 : Hid ((w).ownsRow B 67 2 (.slice oPx n2 pPx) n2 (flatWrite ws)) := h
  have HIPx : Hid (∀ g, (Value.ownBlock (.slice oPx n2 pPx)) = some g → g < w.heap.size) := fun g hg => owns_lt h hg
  have HPL : Hid (ws.length = n2) := write_len h
  clear h
  have hb0 : Below w.heap.size w w := Below.refl _ _
  go_enter Try.func17, Try.ntmps17
  go_upto_region 1 with fail
  obtain ⟨qv1, hqv1⟩ : ∃ q, q = (w).heap.size := ⟨_, rfl⟩
  obtain ⟨w1, hW1⟩ : ∃ W, W = (w).alloc (.cells #[.slice o1 n1 c1, .slice oPx n2 pPx] 27) := ⟨_, rfl⟩
  have hz1 : (w).heap.size = qv1 := hqv1.symm
  first | rw [← hW1, ← hqv1] | rw [← hW1]
  have hs1 : w1.heap.size = qv1 + 1 := by rw [hW1, ← hz1]; simp
  have bw : Below (w).heap.size (w) w1 := by rw [hW1]; exact (Below.refl _ _).alloc (Nat.le_refl _) _
  have hb1 : Below w.heap.size w (w1) := hb0.trans (bw.mono hb0.size)
  have HM1 : Hid ((w).heap.size ≤ (w1).heap.size) := bw.size
  have HOPx_1 : Hid ((w1).ownsRow B 67 2 (.slice oPx n2 pPx) n2 (flatWrite ws)) := owns_below HOPx_0.out bw (fun g hg => owns_lt HOPx_0.out hg)
  have HBv1_1 : Hid ((w1).heap[qv1]? = some (.cells #[.slice o1 n1 c1, .slice oPx n2 pPx] 27)) := by show _ = _; rw [hW1, ← hz1]; exact heap_alloc_new _ _
  have HGv1 : Hid (w.heap.size ≤ qv1) := by show _ ≤ _; rw [← hz1]; exact hb0.size
  clear hb0 HOPx_0 bw hW1 hz1
  clear hs1 hqv1
  go_wp2_with fail
  go_loopw [3] (fun i wr => ∃ j : Nat, j ≤ n2 ∧ i = .int .i64 (j : Int) ∧ Hid (Below w.heap.size w (wr) ∧ (wr).heap[qv1]? = some (.cells #[.slice o1 n1 c1, .slice oPx n2 pPx] 27) ∧ (wr).ownsRow B 67 2 (.slice oPx n2 pPx) n2 (flatWrite ws)) ∧ Hid (∀ x ∈ ws.take j, 0 ≤ x.1 ∧ x.1 ≤ 19)) (fun i _ => n2 - (intOf i).toNat)
  case atStart => exact ⟨0, Nat.zero_le _, rfl, ⟨hb1, HBv1_1.out, HOPx_1.out⟩, fun x hx => by simp at hx⟩
  case round =>
    obtain ⟨j, hj, rfl, HW, HN⟩ := hrel
    by_cases hlt : (j : Int) < (n2 : Int)
    · have hb2 := HW.out.1
      have HBv1_2 : Hid ((wr).heap[qv1]? = some (.cells #[.slice o1 n1 c1, .slice oPx n2 pPx] 27)) := HW.out.2.1
      have HOPx_2 : Hid ((wr).ownsRow B 67 2 (.slice oPx n2 pPx) n2 (flatWrite ws)) := HW.out.2.2
      clear HW hb1 HOPx_1 HBv1_1
      have hjx : j < ws.length := by rw [HPL.out]; omega
      obtain ⟨g, rfl⟩ := owns_some HOPx_2.out (by omega)
      obtain ⟨y, hy⟩ : ∃ y, y = writeAt ws j := ⟨_, rfl⟩
      have HM : Hid (y ∈ ws) := by show _ ∈ _; rw [hy]; exact writeAt_mem ws j hjx
      have HTK : Hid (ws.take (j + 1) = ws.take j ++ [y]) := by show _ = _; rw [hy]; exact take_writeAt ws j hjx
      have HYE : Hid (writeAt ws j = y) := hy.symm
      clear hy hjx
      obtain ⟨y0, y1⟩ := y
      have HELPx : Hid (∀ W : World, (W).ownsRow B 67 2 (.slice (some ⟨g, 0, none⟩) n2 pPx) n2 (flatWrite ws) → (W.cell? ⟨g, j * 2, none⟩ = some (.int .i64 y0) ∧ W.cell? ⟨g, j * 2 + 1, none⟩ = some (.string y1))) := fun W h => by
        obtain ⟨g', hg, _, r0, r1⟩ := (write_view h).2 j (by omega)
        cases hg
        rw [HYE.out] at r0 r1
        exact ⟨r0, r1⟩
      obtain ⟨r0, r1⟩ := HELPx.out _ HOPx_2.out
      have cv1_1 : (wr).cell? ⟨qv1, 1, none⟩ = some (.slice (some ⟨g, 0, none⟩) n2 pPx) := (cell_of HBv1_2.out 1).trans rfl
      go_wp2_with fail
      refine (l1In_any y0 0 19 _).mono ?_
      rintro e w3 ⟨rfl, hwe⟩
      have bw : Below (wr).heap.size (wr) w3 := by rw [hwe]; exact Below.refl _ _
      clear hwe
      obtain ⟨uy, huy⟩ : ∃ u, u = decide ((0 : Int) ≤ y0 ∧ y0 ≤ 19) := ⟨_, rfl⟩
      rw [← huy]
      have hb3 : Below w.heap.size w (w3) := hb2.trans (bw.mono hb2.size)
      have HM3 : Hid ((wr).heap.size ≤ (w3).heap.size) := bw.size
      have HOPx_3 : Hid ((w3).ownsRow B 67 2 (.slice (some ⟨g, 0, none⟩) n2 pPx) n2 (flatWrite ws)) := owns_below HOPx_2.out bw (fun g hg => owns_lt HOPx_2.out hg)
      have HBv1_3 : Hid ((w3).heap[qv1]? = some (.cells #[.slice o1 n1 c1, .slice (some ⟨g, 0, none⟩) n2 pPx] 27)) := blk_below HBv1_2.out bw
      clear hb2 HOPx_2 HBv1_2 bw
      clear cv1_1 r0 r1
      cases uy with
      | false =>
        have HNY : Hid (¬ (0 ≤ y0 ∧ y0 ≤ 19)) := (show ¬ (0 ≤ y0 ∧ y0 ≤ 19) from of_decide_eq_false huy.symm)
        clear huy
        go_wp2_with fail
        go_ret
        exact BoolIs.no (fun h => HNY.out (h.2.2 _ HM.out)) hb3
      | true =>
        have HY : Hid (0 ≤ y0 ∧ y0 ≤ 19) := (show (0 ≤ y0 ∧ y0 ≤ 19) from of_decide_eq_true huy.symm)
        clear huy
        have HN2 : Hid (∀ x ∈ ws.take (j + 1), 0 ≤ x.1 ∧ x.1 ≤ 19) := fun x hx => by
          rw [HTK.out] at hx
          rcases List.mem_append.1 hx with hx | hx
          · exact HN.out x hx
          · rw [List.mem_singleton.1 hx]; exact HY.out
        go_wp2_with fail
        go_roundw
        case rel => exact ⟨j + 1, by omega, by go_num, ⟨hb3, HBv1_3.out, HOPx_3.out⟩, HN2⟩
        case measure => simp [intOf]; omega
    · have hb2 := HW.out.1
      have HBv1_2 : Hid ((wr).heap[qv1]? = some (.cells #[.slice o1 n1 c1, .slice oPx n2 pPx] 27)) := HW.out.2.1
      have HOPx_2 : Hid ((wr).ownsRow B 67 2 (.slice oPx n2 pPx) n2 (flatWrite ws)) := HW.out.2.2
      clear HW hb1 HOPx_1 HBv1_1
      have HAL : Hid (∀ x ∈ ws, 0 ≤ x.1 ∧ x.1 ≤ 19) := fun x hx => HN.out x (by rw [List.take_of_length_le (by rw [HPL.out]; omega)]; exact hx)
      clear HN
      have cv1_1 : (wr).cell? ⟨qv1, 1, none⟩ = some (.slice oPx n2 pPx) := (cell_of HBv1_2.out 1).trans rfl
      by_cases hc1 : (n1 : Int) = 20
      · have hc1b : (((n1 : Int) : Int) == (20 : Int)) = true := by simpa using hc1
        have hc1n : (((n1 : Int) : Int) != (20 : Int)) = false := by simpa using hc1
        have HE : Hid (n1 = 20) := (by have := hc1; show _ = _; omega)
        have hc1H : Hid ((n1 : Int) = 20) := hc1
        clear hc1
        have cv1_0 : (wr).cell? ⟨qv1, 0, none⟩ = some (.slice o1 n1 c1) := (cell_of HBv1_2.out 0).trans rfl
        by_cases hc2 : (n2 : Int) ≤ 16
        · have HLE : Hid (n2 ≤ 16) := (by have := hc2; show _ ≤ _; omega)
          go_wp2_with fail
          go_ret
          exact ⟨true, rfl, ⟨fun _ => ⟨HE.out, by rw [HPL.out]; exact HLE.out, HAL.out⟩, fun _ => rfl⟩, hb2⟩
        · have HLE : Hid (¬ n2 ≤ 16) := (by have := hc2; show ¬ _; omega)
          go_wp2_with fail
          go_ret
          exact BoolIs.no (fun h => HLE.out (by have := h.2.1; rw [HPL.out] at this; exact this)) hb2
      · have hc1b : (((n1 : Int) : Int) == (20 : Int)) = false := by simpa using hc1
        have hc1n : (((n1 : Int) : Int) != (20 : Int)) = true := by simpa using hc1
        have HE : Hid (¬ n1 = 20) := (by have := hc1; show ¬ _; omega)
        have hc1H : Hid (¬ ((n1 : Int) = 20)) := hc1
        clear hc1
        have cv1_0 : (wr).cell? ⟨qv1, 0, none⟩ = some (.slice o1 n1 c1) := (cell_of HBv1_2.out 0).trans rfl
        go_wp2_with fail
        go_ret
        exact BoolIs.no (fun h => HE.out h.1) hb2

theorem specDiskOk_any (v1 v2 : Value) (n1 : Nat) (cs : List ByteArray) (n2 : Nat) (ws : List (Int × ByteArray)) (B : Nat) (w : World) (h : DiskO w B v1 n1 cs v2 n2 ws) (_hn1 : n1 ≤ 2000000) (hn2 : n2 ≤ 2000000) :
    Calls Try.prog 17 #[.agg #[v1, v2]] w fun e w' => BoolIs (DiskP cs ws) w e w' := by
  obtain ⟨oCx, pCx, rfl⟩ := slice_of_owns h.cells
  have hl : cs.length = n1 := by have := h.cells.1; rw [List.length_map] at this; omega
  refine (specDiskOk_len oCx n1 pCx v2 n2 ws B w h.pend hn2).mono fun e w' hq => ?_
  show BoolIs (DiskN cs.length ws) w e w'
  rw [hl]
  exact hq

set_option maxHeartbeats 8000000 in
set_option maxRecDepth 100000 in
theorem specDiskNew_any (w : World) :
    Calls Try.prog 31 #[] w fun e w' => DiskIs newC [] w e w' := by
  have hmk : ∀ W : World, (Instr.makeSlice 24 (.int .i64 20) (.int .i64 20)).run Try.prog W = .ok (.slice (some ⟨W.heap.size, 0, none⟩) 20 20) (W.alloc (.cells #[.string ⟨#[]⟩, .string ⟨#[]⟩, .string ⟨#[]⟩, .string ⟨#[]⟩, .string ⟨#[]⟩, .string ⟨#[]⟩, .string ⟨#[]⟩, .string ⟨#[]⟩, .string ⟨#[]⟩, .string ⟨#[]⟩, .string ⟨#[]⟩, .string ⟨#[]⟩, .string ⟨#[]⟩, .string ⟨#[]⟩, .string ⟨#[]⟩, .string ⟨#[]⟩, .string ⟨#[]⟩, .string ⟨#[]⟩, .string ⟨#[]⟩, .string ⟨#[]⟩] 9)) := fun W => by
    obtain ⟨i0, hi, hz0, hz1, hz2⟩ := info_parts info9
    have h := run_make (P := Try.prog) W 24 9 i0 (.string ⟨#[]⟩) Try.underlying24 hi hz0 .i64 .i64 20 20 (by omega) (by omega) (by rw [hz2]; omega) (by omega)
    have hm : madeCells (Value.string ⟨#[]⟩).cells 20 = #[.string ⟨#[]⟩, .string ⟨#[]⟩, .string ⟨#[]⟩, .string ⟨#[]⟩, .string ⟨#[]⟩, .string ⟨#[]⟩, .string ⟨#[]⟩, .string ⟨#[]⟩, .string ⟨#[]⟩, .string ⟨#[]⟩, .string ⟨#[]⟩, .string ⟨#[]⟩, .string ⟨#[]⟩, .string ⟨#[]⟩, .string ⟨#[]⟩, .string ⟨#[]⟩, .string ⟨#[]⟩, .string ⟨#[]⟩, .string ⟨#[]⟩, .string ⟨#[]⟩] := by kernel_rfl
    rw [hz1, show (Int.toNat 20 * 1) = 20 from rfl, hm] at h
    exact h
  have hb0 : Below w.heap.size w w := Below.refl _ _
  go_enter Try.func31, Try.ntmps31
  go_upto_region 1 with fail
  obtain ⟨qv1, hqv1⟩ : ∃ q, q = (w).heap.size := ⟨_, rfl⟩
  obtain ⟨w1, hW1⟩ : ∃ W, W = (w).alloc (.cells #[.slice none 0 0, .slice none 0 0] 27) := ⟨_, rfl⟩
  have hz1 : (w).heap.size = qv1 := hqv1.symm
  first | rw [← hW1, ← hqv1] | rw [← hW1]
  have hs1 : w1.heap.size = qv1 + 1 := by rw [hW1, ← hz1]; simp
  have bw : Below (w).heap.size (w) w1 := by rw [hW1]; exact (Below.refl _ _).alloc (Nat.le_refl _) _
  have hb1 : Below w.heap.size w (w1) := hb0.trans (bw.mono hb0.size)
  have HM1 : Hid ((w).heap.size ≤ (w1).heap.size) := bw.size
  have HBv1_1 : Hid ((w1).heap[qv1]? = some (.cells #[.slice none 0 0, .slice none 0 0] 27)) := by show _ = _; rw [hW1, ← hz1]; exact heap_alloc_new _ _
  have HGv1 : Hid (w.heap.size ≤ qv1) := by show _ ≤ _; rw [← hz1]; exact hb0.size
  clear hb0 bw hW1 hz1
  clear hs1 hqv1
  have cv1_0 : (w1).cell? ⟨qv1, 0, none⟩ = some (.slice none 0 0) := (cell_of HBv1_1.out 0).trans rfl
  have Acv1_0 : ∀ o, ((w1).alloc o).cell? ⟨qv1, 0, none⟩ = some (.slice none 0 0) := fun o => (cell_of (blk_below HBv1_1.out ((Below.refl _ _).alloc (Nat.le_refl _) o)) 0).trans rfl
  have Afcv1_0 : ∀ o, ((w1).alloc o).frozen? ⟨qv1, 0, none⟩ = false := fun o => frozen_of (blk_below HBv1_1.out ((Below.refl _ _).alloc (Nat.le_refl _) o)) 0
  have fcv1_0 : (w1).frozen? ⟨qv1, 0, none⟩ = false := frozen_of HBv1_1.out 0
  have cv1_1 : (w1).cell? ⟨qv1, 1, none⟩ = some (.slice none 0 0) := (cell_of HBv1_1.out 1).trans rfl
  have Acv1_1 : ∀ o, ((w1).alloc o).cell? ⟨qv1, 1, none⟩ = some (.slice none 0 0) := fun o => (cell_of (blk_below HBv1_1.out ((Below.refl _ _).alloc (Nat.le_refl _) o)) 1).trans rfl
  have Afcv1_1 : ∀ o, ((w1).alloc o).frozen? ⟨qv1, 1, none⟩ = false := fun o => frozen_of (blk_below HBv1_1.out ((Below.refl _ _).alloc (Nat.le_refl _) o)) 1
  have fcv1_1 : (w1).frozen? ⟨qv1, 1, none⟩ = false := frozen_of HBv1_1.out 1
  go_wp2_with fail
  obtain ⟨qv2, hqv2⟩ : ∃ q, q = (w1).heap.size := ⟨_, rfl⟩
  obtain ⟨w2, hW2⟩ : ∃ W, W = (w1).alloc (.cells #[.string ⟨#[]⟩, .string ⟨#[]⟩, .string ⟨#[]⟩, .string ⟨#[]⟩, .string ⟨#[]⟩, .string ⟨#[]⟩, .string ⟨#[]⟩, .string ⟨#[]⟩, .string ⟨#[]⟩, .string ⟨#[]⟩, .string ⟨#[]⟩, .string ⟨#[]⟩, .string ⟨#[]⟩, .string ⟨#[]⟩, .string ⟨#[]⟩, .string ⟨#[]⟩, .string ⟨#[]⟩, .string ⟨#[]⟩, .string ⟨#[]⟩, .string ⟨#[]⟩] 9) := ⟨_, rfl⟩
  have hz2 : (w1).heap.size = qv2 := hqv2.symm
  first | rw [← hW2, ← hqv2] | rw [← hW2]
  have hs2 : w2.heap.size = qv2 + 1 := by rw [hW2, ← hz2]; simp
  have bw : Below (w1).heap.size (w1) w2 := by rw [hW2]; exact (Below.refl _ _).alloc (Nat.le_refl _) _
  have hb2 : Below w.heap.size w (w2) := hb1.trans (bw.mono hb1.size)
  have HM2 : Hid ((w1).heap.size ≤ (w2).heap.size) := bw.size
  have HBv1_2 : Hid ((w2).heap[qv1]? = some (.cells #[.slice none 0 0, .slice none 0 0] 27)) := blk_below HBv1_1.out bw
  have HNv1v2 : Hid (qv1 ≠ qv2) := fun e => by have h1 := (Array.getElem?_eq_some_iff.1 HBv1_1.out).1; omega
  have HBv2_2 : Hid ((w2).heap[qv2]? = some (.cells #[.string ⟨#[]⟩, .string ⟨#[]⟩, .string ⟨#[]⟩, .string ⟨#[]⟩, .string ⟨#[]⟩, .string ⟨#[]⟩, .string ⟨#[]⟩, .string ⟨#[]⟩, .string ⟨#[]⟩, .string ⟨#[]⟩, .string ⟨#[]⟩, .string ⟨#[]⟩, .string ⟨#[]⟩, .string ⟨#[]⟩, .string ⟨#[]⟩, .string ⟨#[]⟩, .string ⟨#[]⟩, .string ⟨#[]⟩, .string ⟨#[]⟩, .string ⟨#[]⟩] 9)) := by show _ = _; rw [hW2, ← hz2]; exact heap_alloc_new _ _
  have HGv2 : Hid (w.heap.size ≤ qv2) := by show _ ≤ _; rw [← hz2]; exact hb1.size
  clear hb1 HBv1_1 bw hW2 hz2
  obtain ⟨w3, hW3⟩ : ∃ W, W = (w2).setCell ⟨qv1, 0, none⟩ (.slice (some ⟨qv2, 0, none⟩) 20 20) := ⟨_, rfl⟩
  rw [← hW3]
  have hb3 : Below w.heap.size w (w3) := by rw [hW3]; exact (hb2.setCell (p := ⟨qv1, 0, none⟩) HGv1.out _)
  have HM3 : Hid ((w2).heap.size ≤ w3.heap.size) := by show _ ≤ _; rw [hW3]; simp
  have HBv2_3 : Hid ((w3).heap[qv2]? = some (.cells #[.string ⟨#[]⟩, .string ⟨#[]⟩, .string ⟨#[]⟩, .string ⟨#[]⟩, .string ⟨#[]⟩, .string ⟨#[]⟩, .string ⟨#[]⟩, .string ⟨#[]⟩, .string ⟨#[]⟩, .string ⟨#[]⟩, .string ⟨#[]⟩, .string ⟨#[]⟩, .string ⟨#[]⟩, .string ⟨#[]⟩, .string ⟨#[]⟩, .string ⟨#[]⟩, .string ⟨#[]⟩, .string ⟨#[]⟩, .string ⟨#[]⟩, .string ⟨#[]⟩] 9)) := by show _ = _; rw [hW3, heap_setCell_other _ _ _ _ HNv1v2.out.symm]; exact HBv2_2.out
  have HBv1_3 : Hid ((w3).heap[qv1]? = some (.cells #[.slice (some ⟨qv2, 0, none⟩) 20 20, .slice none 0 0] 27)) := by show _ = _; rw [hW3]; have h := heap_set _ _ 0 _ _ _ (.slice (some ⟨qv2, 0, none⟩) 20 20) HBv1_2.out; simpa using h
  clear hb2 HBv1_2 HBv2_2 hW3
  obtain ⟨w4, hW4⟩ : ∃ W, W = (w3).setCell ⟨qv1, 1, none⟩ (.slice none 0 0) := ⟨_, rfl⟩
  rw [← hW4]
  have hb4 : Below w.heap.size w (w4) := by rw [hW4]; exact (hb3.setCell (p := ⟨qv1, 1, none⟩) HGv1.out _)
  have HM4 : Hid ((w3).heap.size ≤ w4.heap.size) := by show _ ≤ _; rw [hW4]; simp
  have HBv2_4 : Hid ((w4).heap[qv2]? = some (.cells #[.string ⟨#[]⟩, .string ⟨#[]⟩, .string ⟨#[]⟩, .string ⟨#[]⟩, .string ⟨#[]⟩, .string ⟨#[]⟩, .string ⟨#[]⟩, .string ⟨#[]⟩, .string ⟨#[]⟩, .string ⟨#[]⟩, .string ⟨#[]⟩, .string ⟨#[]⟩, .string ⟨#[]⟩, .string ⟨#[]⟩, .string ⟨#[]⟩, .string ⟨#[]⟩, .string ⟨#[]⟩, .string ⟨#[]⟩, .string ⟨#[]⟩, .string ⟨#[]⟩] 9)) := by show _ = _; rw [hW4, heap_setCell_other _ _ _ _ HNv1v2.out.symm]; exact HBv2_3.out
  have HBv1_4 : Hid ((w4).heap[qv1]? = some (.cells #[.slice (some ⟨qv2, 0, none⟩) 20 20, .slice none 0 0] 27)) := by show _ = _; rw [hW4]; have h := heap_set _ _ 1 _ _ _ (.slice none 0 0) HBv1_3.out; simpa using h
  clear hb3 HBv1_3 HBv2_3 hW4
  clear hs2 hqv2
  have kv1_0 : (w4).cell? ⟨qv1, 0, none⟩ = some (.slice (some ⟨qv2, 0, none⟩) 20 20) := (cell_of HBv1_4.out 0).trans rfl
  have kv1_1 : (w4).cell? ⟨qv1, 1, none⟩ = some (.slice none 0 0) := (cell_of HBv1_4.out 1).trans rfl
  refine bodyPost_ret (v := .agg #[.slice (some ⟨qv2, 0, none⟩) 20 20, .slice none 0 0]) (by simp [results, Try.results31, go_sem, kv1_0, kv1_1]) rfl ?_
  exact ⟨_, _, rfl, ⟨⟨rfl, .inr ⟨_, 20, _, rfl, HGv2.out, HBv2_4.out, Nat.le_refl _, by decide, rfl, rfl⟩⟩, World.ownsRow_nil _ _ _ _⟩, hb4⟩

set_option maxHeartbeats 8000000 in
set_option maxRecDepth 100000 in
theorem l12Copy_any (v1 v2 : Value) (n1 : Nat) (cs : List ByteArray) (n2 : Nat) (ws : List (Int × ByteArray)) (B : Nat) (w : World) (h : DiskO w B v1 n1 cs v2 n2 ws) (hn1 : n1 ≤ 2000000) (hn2 : n2 ≤ 2000000) :
    Calls Try.prog 53 #[.agg #[v1, v2]] w fun e w' => DiskIs cs ws w e w' := by
  obtain ⟨i0s, his, hz0s, hz1s, hz2s⟩ := info_parts info9
  obtain ⟨i0w, hiw, hz0w, hz1w, hz2w⟩ := info_parts infoWrite
  obtain ⟨oCx, pCx, rfl⟩ := slice_of_owns h.cells
  have HOCx_0 : Hid ((w).ownsRow B 9 1 (.slice oCx n1 pCx) n1 (cs.map Value.string)) := h.cells
  have HICx : Hid (∀ g, (Value.ownBlock (.slice oCx n1 pCx)) = some g → g < w.heap.size) := fun g hg => owns_lt h.cells hg
  obtain ⟨oPx, pPx, rfl⟩ := slice_of_owns h.pend
  have HOPx_0 : Hid ((w).ownsRow B 67 2 (.slice oPx n2 pPx) n2 (flatWrite ws)) := h.pend
  have HIPx : Hid (∀ g, (Value.ownBlock (.slice oPx n2 pPx)) = some g → g < w.heap.size) := fun g hg => owns_lt h.pend hg
  have HCL : Hid (cs.length = n1) := by have := h.cells.1; rw [List.length_map] at this; show _ = _; omega
  have HPL : Hid (ws.length = n2) := write_len h.pend
  clear h
  have hb0 : Below w.heap.size w w := Below.refl _ _
  go_enter Try.func53, Try.ntmps53
  go_upto_region 1 with fail
  obtain ⟨qv1, hqv1⟩ : ∃ q, q = (w).heap.size := ⟨_, rfl⟩
  obtain ⟨w1, hW1⟩ : ∃ W, W = (w).alloc (.cells #[.slice oCx n1 pCx, .slice oPx n2 pPx] 27) := ⟨_, rfl⟩
  have hz1 : (w).heap.size = qv1 := hqv1.symm
  first | rw [← hW1, ← hqv1] | rw [← hW1]
  have hs1 : w1.heap.size = qv1 + 1 := by rw [hW1, ← hz1]; simp
  have bw : Below (w).heap.size (w) w1 := by rw [hW1]; exact (Below.refl _ _).alloc (Nat.le_refl _) _
  have hb1 : Below w.heap.size w (w1) := hb0.trans (bw.mono hb0.size)
  have HM1 : Hid ((w).heap.size ≤ (w1).heap.size) := bw.size
  have HOCx_1 : Hid ((w1).ownsRow B 9 1 (.slice oCx n1 pCx) n1 (cs.map Value.string)) := owns_below HOCx_0.out bw (fun g hg => owns_lt HOCx_0.out hg)
  have HOPx_1 : Hid ((w1).ownsRow B 67 2 (.slice oPx n2 pPx) n2 (flatWrite ws)) := owns_below HOPx_0.out bw (fun g hg => owns_lt HOPx_0.out hg)
  have HBv1_1 : Hid ((w1).heap[qv1]? = some (.cells #[.slice oCx n1 pCx, .slice oPx n2 pPx] 27)) := by show _ = _; rw [hW1, ← hz1]; exact heap_alloc_new _ _
  have HGv1 : Hid (w.heap.size ≤ qv1) := by show _ ≤ _; rw [← hz1]; exact hb0.size
  clear hb0 HOCx_0 HOPx_0 bw hW1 hz1
  obtain ⟨qv2, hqv2⟩ : ∃ q, q = qv1 + 1 := ⟨_, rfl⟩
  obtain ⟨w2, hW2⟩ : ∃ W, W = (w1).alloc (.cells #[.slice none 0 0, .slice none 0 0] 27) := ⟨_, rfl⟩
  have hz2 : (w1).heap.size = qv2 := by rw [hqv2]; exact hs1
  first | rw [← hW2, ← hqv2] | rw [← hW2]
  have hs2 : w2.heap.size = qv2 + 1 := by rw [hW2, ← hz2]; simp
  have bw : Below (w1).heap.size (w1) w2 := by rw [hW2]; exact (Below.refl _ _).alloc (Nat.le_refl _) _
  have hb2 : Below w.heap.size w (w2) := hb1.trans (bw.mono hb1.size)
  have HM2 : Hid ((w1).heap.size ≤ (w2).heap.size) := bw.size
  have HOCx_2 : Hid ((w2).ownsRow B 9 1 (.slice oCx n1 pCx) n1 (cs.map Value.string)) := owns_below HOCx_1.out bw (fun g hg => owns_lt HOCx_1.out hg)
  have HOPx_2 : Hid ((w2).ownsRow B 67 2 (.slice oPx n2 pPx) n2 (flatWrite ws)) := owns_below HOPx_1.out bw (fun g hg => owns_lt HOPx_1.out hg)
  have HBv1_2 : Hid ((w2).heap[qv1]? = some (.cells #[.slice oCx n1 pCx, .slice oPx n2 pPx] 27)) := blk_below HBv1_1.out bw
  have HNv1v2 : Hid (qv1 ≠ qv2) := fun e => by have h1 := (Array.getElem?_eq_some_iff.1 HBv1_1.out).1; omega
  have HBv2_2 : Hid ((w2).heap[qv2]? = some (.cells #[.slice none 0 0, .slice none 0 0] 27)) := by show _ = _; rw [hW2, ← hz2]; exact heap_alloc_new _ _
  have HGv2 : Hid (w.heap.size ≤ qv2) := by show _ ≤ _; rw [← hz2]; exact hb1.size
  clear hb1 HOCx_1 HOPx_1 HBv1_1 bw hW2 hz2
  clear hs2 hqv2 hs1 hqv1
  go_upto_region 1 with fail
  refine wp_region_held_drew (S := fun W => W.heap[qv1]? = some (.cells #[.slice oCx n1 pCx, .slice oPx n2 pPx] 27)) (by kernel_rfl) HBv1_2.out (fun _ => ?_)
  obtain ⟨w3, hX⟩ : ∃ X, X = w2.drew := ⟨_, rfl⟩
  have bw : Below w2.heap.size w2 w3 := by rw [hX]; exact (Below.refl _ _).drew
  rw [← hX]
  have hb3 : Below w.heap.size w (w3) := hb2.trans (bw.mono hb2.size)
  have HM3 : Hid ((w2).heap.size ≤ (w3).heap.size) := bw.size
  have HOCx_3 : Hid ((w3).ownsRow B 9 1 (.slice oCx n1 pCx) n1 (cs.map Value.string)) := owns_below HOCx_2.out bw (fun g hg => owns_lt HOCx_2.out hg)
  have HOPx_3 : Hid ((w3).ownsRow B 67 2 (.slice oPx n2 pPx) n2 (flatWrite ws)) := owns_below HOPx_2.out bw (fun g hg => owns_lt HOPx_2.out hg)
  have HBv1_3 : Hid ((w3).heap[qv1]? = some (.cells #[.slice oCx n1 pCx, .slice oPx n2 pPx] 27)) := blk_below HBv1_2.out bw
  have HBv2_3 : Hid ((w3).heap[qv2]? = some (.cells #[.slice none 0 0, .slice none 0 0] 27)) := blk_below HBv2_2.out bw
  have hS3 : w3.heap[qv1]? = some (.cells #[.slice oCx n1 pCx, .slice oPx n2 pPx] 27) := HBv1_3.out
  clear hb2 HOCx_2 HOPx_2 HBv1_2 HBv2_2 bw hX
  refine wpAnyH_takeD (i := 1) (v := .pointer (some ⟨qv1, 0, none⟩)) (some 4) rfl rfl (by kernel_rfl) (by kernel_rfl) (by kernel_rfl) (fun _ _ _ h => h) (Or.inl ⟨by rfl, by intro W _; go_simp⟩) hS3 ?_
  simp only [Act.put, List.setIfInBounds_toArray, List.set_cons_zero, List.set_cons_succ]
  refine wpAnyH_takeD (i := 2) (v := .slice oCx n1 pCx) (some 5) rfl rfl (by kernel_rfl) (by kernel_rfl) (by kernel_rfl) (fun _ _ _ h => h) (Or.inl ⟨by rfl, by intro W hW; have hhv1 := hW; have y0 := (cell_of hhv1 0).trans rfl; go_simp⟩) hS3 ?_
  simp only [Act.put, List.setIfInBounds_toArray, List.set_cons_zero, List.set_cons_succ]
  refine wpAnyH_takeD (i := 5) (v := .pointer (some ⟨qv1, 1, none⟩)) (some 8) rfl rfl (by kernel_rfl) (by kernel_rfl) (by kernel_rfl) (fun _ _ _ h => h) (Or.inl ⟨by rfl, by intro W _; go_simp⟩) hS3 ?_
  simp only [Act.put, List.setIfInBounds_toArray, List.set_cons_zero, List.set_cons_succ]
  refine wpAnyH_takeD (i := 6) (v := .slice oPx n2 pPx) (some 9) rfl rfl (by kernel_rfl) (by kernel_rfl) (by kernel_rfl) (fun _ _ _ h => h) (Or.inl ⟨by rfl, by intro W hW; have hhv1 := hW; have y1 := (cell_of hhv1 1).trans rfl; go_simp⟩) hS3 ?_
  simp only [Act.put, List.setIfInBounds_toArray, List.set_cons_zero, List.set_cons_succ]
  refine wpAnyH_ready (rs := [0, 4]) (by kernel_rfl) (by simp) ?_
  refine AllReadyH.cons rfl (fun K hK => ?_) (AllReadyH.cons rfl (fun K hK => ?_) AllReadyH.nil)
  · go_simp
    have bw : Below w3.heap.size w3 (w3.alloc (.cells #[] 9)) := (Below.refl _ _).alloc (Nat.le_refl _) _
    have hSA : (w3.alloc (.cells #[] 9)).heap[qv1]? = some (.cells #[.slice oCx n1 pCx, .slice oPx n2 pPx] 27) := blk_below HBv1_3.out bw
    refine hK.out _ _ hSA (fun _ => ?_)
    clear hK K hSA bw hS3
    obtain ⟨qv3, hqv3⟩ : ∃ o, o = w3.heap.size := ⟨_, rfl⟩
    obtain ⟨w4, hXj⟩ : ∃ X, X = (w3.alloc (.cells #[] 9)) := ⟨_, rfl⟩
    rw [← hqv3, ← hXj]
    have bw : Below w3.heap.size w3 w4 := by rw [hXj]; exact (Below.refl _ _).alloc (Nat.le_refl _) _
    have hb4 : Below w.heap.size w (w4) := hb3.trans (bw.mono hb3.size)
    have HM4 : Hid ((w3).heap.size ≤ (w4).heap.size) := bw.size
    have HOCx_4 : Hid ((w4).ownsRow B 9 1 (.slice oCx n1 pCx) n1 (cs.map Value.string)) := owns_below HOCx_3.out bw (fun g hg => owns_lt HOCx_3.out hg)
    have HOPx_4 : Hid ((w4).ownsRow B 67 2 (.slice oPx n2 pPx) n2 (flatWrite ws)) := owns_below HOPx_3.out bw (fun g hg => owns_lt HOPx_3.out hg)
    have HBv1_4 : Hid ((w4).heap[qv1]? = some (.cells #[.slice oCx n1 pCx, .slice oPx n2 pPx] 27)) := blk_below HBv1_3.out bw
    have HBv2_4 : Hid ((w4).heap[qv2]? = some (.cells #[.slice none 0 0, .slice none 0 0] 27)) := blk_below HBv2_3.out bw
    have HNv1v3 : Hid (qv1 ≠ qv3) := fun e => by have h1 := (Array.getElem?_eq_some_iff.1 HBv1_3.out).1; omega
    have HNv2v3 : Hid (qv2 ≠ qv3) := fun e => by have h1 := (Array.getElem?_eq_some_iff.1 HBv2_3.out).1; omega
    have HBv3_4 : Hid ((w4).heap[qv3]? = some (.cells #[] 9)) := by show _ = _; rw [hXj, hqv3]; exact heap_alloc_new _ _
    have HGv3 : Hid (w.heap.size ≤ qv3) := by show _ ≤ _; rw [hqv3]; exact hb3.size
    have hS4 : w4.heap[qv1]? = some (.cells #[.slice oCx n1 pCx, .slice oPx n2 pPx] 27) := HBv1_4.out
    have HQv3 : Hid ((w3).heap.size ≤ qv3) := by show _ ≤ _; omega
    clear hb3 HOCx_3 HOPx_3 HBv1_3 HBv2_3 bw hXj hqv3
    have HOEv3_4 : Hid ((w4).ownsRow w.heap.size 9 1 (.slice (some ⟨qv3, 0, none⟩) 0 0) 0 []) := ⟨rfl, .inr ⟨_, 0, #[], rfl, HGv3.out, HBv3_4.out, Nat.le_refl _, Nat.zero_le _, rfl, rfl⟩⟩
    have HIEv3 : Hid (∀ g, (Value.ownBlock (.slice (some ⟨qv3, 0, none⟩) 0 0)) = some g → g < (w4).heap.size) := fun g hg => owns_lt HOEv3_4.out hg
    have LOEv3 : Hid (∀ g, (Value.ownBlock (.slice (some ⟨qv3, 0, none⟩) 0 0)) = some g → (w3).heap.size ≤ g) := fun g hg => by simp [Value.ownBlock] at hg; have := HQv3.out; omega
    clear HBv3_4
    refine wpAnyH_ready (rs := [3, 4]) (by kernel_rfl) (by simp) ?_
    refine AllReadyH.cons rfl (fun K hK => ?_) (AllReadyH.cons rfl (fun K hK => ?_) AllReadyH.nil)
    · have h63 : 0 + n1 ≤ maxLen := by unfold maxLen; omega
      have h47 : (0 + n1) * 16 ≤ 140737488355328 := by omega
      refine step_append_src (w := w4) (by rfl) _ _ _ (by rfl) w.heap.size 9 i0s (.string ⟨#[]⟩) 1 16 Try.underlying24 his hz0s hz1s hz2s rfl (by decide) _ _ _ (by rfl) HOEv3_4.out _ _ _ (by rfl) (Src.texts HOCx_4.out) h63 h47 hb4.size ?_
      intro v1 w5 hown2 hgrow
      rw [Nat.zero_add, List.nil_append] at hown2
      have hb5 : Below w.heap.size w (w5) := hb4.grown hgrow hb4.size (fun g hg => owns_ge HOEv3_4.out hg)
      have HM5 : Hid ((w4).heap.size ≤ w5.heap.size) := hgrow.size
      have HOCx_5 : Hid ((w5).ownsRow B 9 1 (.slice oCx n1 pCx) n1 (cs.map Value.string)) := owns_same HOCx_4.out (fun g hg => hgrow.block g (owns_lt HOCx_4.out hg) (fun e => (fun e => by have h1 := LOEv3.out g e; have h2 := HICx.out g hg; have := HM1.out; have := HM2.out; have := HM3.out; have := HM4.out; omega) e.symm))
      have HOPx_5 : Hid ((w5).ownsRow B 67 2 (.slice oPx n2 pPx) n2 (flatWrite ws)) := owns_same HOPx_4.out (fun g hg => hgrow.block g (owns_lt HOPx_4.out hg) (fun e => (own_type_ne HOPx_4.out HOEv3_4.out (by decide) g hg) e.symm))
      have HBv1_5 : Hid ((w5).heap[qv1]? = some (.cells #[.slice oCx n1 pCx, .slice oPx n2 pPx] 27)) := (hgrow.block _ (Array.getElem?_eq_some_iff.1 HBv1_4.out).1 (fun e => own_ne HOEv3_4.out HBv1_4.out (by decide) _ e.symm rfl)).trans HBv1_4.out
      have HBv2_5 : Hid ((w5).heap[qv2]? = some (.cells #[.slice none 0 0, .slice none 0 0] 27)) := (hgrow.block _ (Array.getElem?_eq_some_iff.1 HBv2_4.out).1 (fun e => own_ne HOEv3_4.out HBv2_4.out (by decide) _ e.symm rfl)).trans HBv2_4.out
      obtain ⟨oEv3p, pEv3p, rfl⟩ := slice_of_owns hown2
      have HOEv3p_5 : Hid ((w5).ownsRow w.heap.size 9 1 (.slice oEv3p n1 pEv3p) n1 (cs.map Value.string)) := hown2
      clear hb4 HOCx_4 HOPx_4 HOEv3_4 HBv1_4 HBv2_4 hown2 hgrow h63 h47
      simp only [Act.put, List.setIfInBounds_toArray]
      have hS5 : w5.heap[qv1]? = some (.cells #[.slice oCx n1 pCx, .slice oPx n2 pPx] 27) := HBv1_5.out
      refine hK.out _ _ hS5 (fun _ => ?_)
      clear hK K hS4
      refine wpAnyH_ready (rs := [4]) (by kernel_rfl) (by simp) ?_
      refine AllReadyH.cons rfl (fun K hK => ?_) AllReadyH.nil
      go_simp
      have bw : Below w5.heap.size w5 (w5.alloc (.cells #[] 67)) := (Below.refl _ _).alloc (Nat.le_refl _) _
      have hSA : (w5.alloc (.cells #[] 67)).heap[qv1]? = some (.cells #[.slice oCx n1 pCx, .slice oPx n2 pPx] 27) := blk_below HBv1_5.out bw
      refine hK.out _ _ hSA (fun _ => ?_)
      clear hK K hSA bw hS5
      obtain ⟨qv4, hqv4⟩ : ∃ o, o = w5.heap.size := ⟨_, rfl⟩
      obtain ⟨w6, hXj⟩ : ∃ X, X = (w5.alloc (.cells #[] 67)) := ⟨_, rfl⟩
      rw [← hqv4, ← hXj]
      have bw : Below w5.heap.size w5 w6 := by rw [hXj]; exact (Below.refl _ _).alloc (Nat.le_refl _) _
      have hb6 : Below w.heap.size w (w6) := hb5.trans (bw.mono hb5.size)
      have HM6 : Hid ((w5).heap.size ≤ (w6).heap.size) := bw.size
      have HOCx_6 : Hid ((w6).ownsRow B 9 1 (.slice oCx n1 pCx) n1 (cs.map Value.string)) := owns_below HOCx_5.out bw (fun g hg => owns_lt HOCx_5.out hg)
      have HOPx_6 : Hid ((w6).ownsRow B 67 2 (.slice oPx n2 pPx) n2 (flatWrite ws)) := owns_below HOPx_5.out bw (fun g hg => owns_lt HOPx_5.out hg)
      have HOEv3p_6 : Hid ((w6).ownsRow w.heap.size 9 1 (.slice oEv3p n1 pEv3p) n1 (cs.map Value.string)) := owns_below HOEv3p_5.out bw (fun g hg => owns_lt HOEv3p_5.out hg)
      have HBv1_6 : Hid ((w6).heap[qv1]? = some (.cells #[.slice oCx n1 pCx, .slice oPx n2 pPx] 27)) := blk_below HBv1_5.out bw
      have HBv2_6 : Hid ((w6).heap[qv2]? = some (.cells #[.slice none 0 0, .slice none 0 0] 27)) := blk_below HBv2_5.out bw
      have HNv1v4 : Hid (qv1 ≠ qv4) := fun e => by have h1 := (Array.getElem?_eq_some_iff.1 HBv1_5.out).1; omega
      have HNv2v4 : Hid (qv2 ≠ qv4) := fun e => by have h1 := (Array.getElem?_eq_some_iff.1 HBv2_5.out).1; omega
      have HBv4_6 : Hid ((w6).heap[qv4]? = some (.cells #[] 67)) := by show _ = _; rw [hXj, hqv4]; exact heap_alloc_new _ _
      have HGv4 : Hid (w.heap.size ≤ qv4) := by show _ ≤ _; rw [hqv4]; exact hb5.size
      have hS6 : w6.heap[qv1]? = some (.cells #[.slice oCx n1 pCx, .slice oPx n2 pPx] 27) := HBv1_6.out
      have HQv4 : Hid ((w5).heap.size ≤ qv4) := by show _ ≤ _; omega
      clear hb5 HOCx_5 HOPx_5 HOEv3p_5 HBv1_5 HBv2_5 bw hXj hqv4
      have HOEv4_6 : Hid ((w6).ownsRow w.heap.size 67 2 (.slice (some ⟨qv4, 0, none⟩) 0 0) 0 []) := ⟨rfl, .inr ⟨_, 0, #[], rfl, HGv4.out, HBv4_6.out, Nat.le_refl _, Nat.zero_le _, rfl, rfl⟩⟩
      have HIEv4 : Hid (∀ g, (Value.ownBlock (.slice (some ⟨qv4, 0, none⟩) 0 0)) = some g → g < (w6).heap.size) := fun g hg => owns_lt HOEv4_6.out hg
      have LOEv4 : Hid (∀ g, (Value.ownBlock (.slice (some ⟨qv4, 0, none⟩) 0 0)) = some g → (w5).heap.size ≤ g) := fun g hg => by simp [Value.ownBlock] at hg; have := HQv4.out; omega
      clear HBv4_6
      refine wpAnyH_ready (rs := [7]) (by kernel_rfl) (by simp) ?_
      refine AllReadyH.cons rfl (fun K hK => ?_) AllReadyH.nil
      have h63 : 0 + n2 ≤ maxLen := by unfold maxLen; omega
      have h47 : (0 + n2) * 24 ≤ 140737488355328 := by omega
      refine step_append_src (w := w6) (by rfl) _ _ _ (by rfl) w.heap.size 67 i0w (.agg #[.int .i64 0, .string ⟨#[]⟩]) 2 24 Try.underlying25 hiw hz0w hz1w hz2w rfl (by decide) _ _ _ (by rfl) HOEv4_6.out _ _ _ (by rfl) (Src.of_owns HOPx_6.out (flatWrite_ones _)) h63 h47 hb6.size ?_
      intro v1 w7 hown2 hgrow
      rw [Nat.zero_add, List.nil_append] at hown2
      have hb7 : Below w.heap.size w (w7) := hb6.grown hgrow hb6.size (fun g hg => owns_ge HOEv4_6.out hg)
      have HM7 : Hid ((w6).heap.size ≤ w7.heap.size) := hgrow.size
      have HOCx_7 : Hid ((w7).ownsRow B 9 1 (.slice oCx n1 pCx) n1 (cs.map Value.string)) := owns_same HOCx_6.out (fun g hg => hgrow.block g (owns_lt HOCx_6.out hg) (fun e => (own_type_ne HOCx_6.out HOEv4_6.out (by decide) g hg) e.symm))
      have HOPx_7 : Hid ((w7).ownsRow B 67 2 (.slice oPx n2 pPx) n2 (flatWrite ws)) := owns_same HOPx_6.out (fun g hg => hgrow.block g (owns_lt HOPx_6.out hg) (fun e => (fun e => by have h1 := LOEv4.out g e; have h2 := HIPx.out g hg; have := HM1.out; have := HM2.out; have := HM3.out; have := HM4.out; have := HM5.out; have := HM6.out; omega) e.symm))
      have HOEv3p_7 : Hid ((w7).ownsRow w.heap.size 9 1 (.slice oEv3p n1 pEv3p) n1 (cs.map Value.string)) := owns_same HOEv3p_6.out (fun g hg => hgrow.block g (owns_lt HOEv3p_6.out hg) (fun e => (own_type_ne HOEv3p_6.out HOEv4_6.out (by decide) g hg) e.symm))
      have HBv1_7 : Hid ((w7).heap[qv1]? = some (.cells #[.slice oCx n1 pCx, .slice oPx n2 pPx] 27)) := (hgrow.block _ (Array.getElem?_eq_some_iff.1 HBv1_6.out).1 (fun e => own_ne HOEv4_6.out HBv1_6.out (by decide) _ e.symm rfl)).trans HBv1_6.out
      have HBv2_7 : Hid ((w7).heap[qv2]? = some (.cells #[.slice none 0 0, .slice none 0 0] 27)) := (hgrow.block _ (Array.getElem?_eq_some_iff.1 HBv2_6.out).1 (fun e => own_ne HOEv4_6.out HBv2_6.out (by decide) _ e.symm rfl)).trans HBv2_6.out
      obtain ⟨oEv4p, pEv4p, rfl⟩ := slice_of_owns hown2
      have HOEv4p_7 : Hid ((w7).ownsRow w.heap.size 67 2 (.slice oEv4p n2 pEv4p) n2 (flatWrite ws)) := hown2
      clear hb6 HOCx_6 HOPx_6 HOEv3p_6 HOEv4_6 HBv1_6 HBv2_6 hown2 hgrow h63 h47
      simp only [Act.put]
      have hS7 : w7.heap[qv1]? = some (.cells #[.slice oCx n1 pCx, .slice oPx n2 pPx] 27) := HBv1_7.out
      refine hK.out _ _ hS7 (fun _ => ?_)
      clear hK K hS6
      refine wpAnyH_takeD (i := 8) (v := .agg #[.slice oEv3p n1 pEv3p, .slice oEv4p n2 pEv4p]) (some 11) rfl rfl (by kernel_rfl) (by kernel_rfl) (by kernel_rfl) (fun _ _ _ h => h) (Or.inl ⟨by rfl, by intro W _; go_simp⟩) hS7 ?_
      simp only [Act.put]
      refine wpAnyH_ready (rs := [9]) (by kernel_rfl) (by simp) ?_
      refine AllReadyH.cons rfl (fun K hK => ?_) AllReadyH.nil
      have ce0 : (w7).cell? ⟨qv2, 0, none⟩ = some (.slice none 0 0) := (cell_of HBv2_7.out 0).trans rfl
      have fe0 : (w7).frozen? ⟨qv2, 0, none⟩ = false := frozen_of HBv2_7.out 0
      have ce1 : (w7).cell? ⟨qv2, 1, none⟩ = some (.slice none 0 0) := (cell_of HBv2_7.out 1).trans rfl
      have fe1 : (w7).frozen? ⟨qv2, 1, none⟩ = false := frozen_of HBv2_7.out 1
      obtain ⟨w8, hY⟩ : ∃ Y, Y = ((w7.setCell ⟨qv2, 0, none⟩ (.slice oEv3p n1 pEv3p)).setCell ⟨qv2, 1, none⟩ (.slice oEv4p n2 pEv4p)) := ⟨_, rfl⟩
      have HY : Hid (((w7.setCell ⟨qv2, 0, none⟩ (.slice oEv3p n1 pEv3p)).setCell ⟨qv2, 1, none⟩ (.slice oEv4p n2 pEv4p)) = w8) := hY.symm
      have hb8 : Below w.heap.size w (w8) := by rw [hY]; exact ((hb7.setCell (p := ⟨qv2, 0, none⟩) HGv2.out _).setCell (p := ⟨qv2, 1, none⟩) HGv2.out _)
      have HM8 : Hid ((w7).heap.size ≤ w8.heap.size) := by show _ ≤ _; rw [hY]; simp
      have HOCx_8 : Hid ((w8).ownsRow B 9 1 (.slice oCx n1 pCx) n1 (cs.map Value.string)) := by show World.ownsRow _ _ _ _ _ _ _; rw [hY]; exact owns_same HOCx_7.out (fun g hg => by have hne := own_ne HOCx_7.out HBv2_7.out (by decide) g hg; rw [heap_setCell_other _ _ g _ hne, heap_setCell_other _ _ g _ hne])
      have HOPx_8 : Hid ((w8).ownsRow B 67 2 (.slice oPx n2 pPx) n2 (flatWrite ws)) := by show World.ownsRow _ _ _ _ _ _ _; rw [hY]; exact owns_same HOPx_7.out (fun g hg => by have hne := own_ne HOPx_7.out HBv2_7.out (by decide) g hg; rw [heap_setCell_other _ _ g _ hne, heap_setCell_other _ _ g _ hne])
      have HOEv3p_8 : Hid ((w8).ownsRow w.heap.size 9 1 (.slice oEv3p n1 pEv3p) n1 (cs.map Value.string)) := by show World.ownsRow _ _ _ _ _ _ _; rw [hY]; exact owns_same HOEv3p_7.out (fun g hg => by have hne := own_ne HOEv3p_7.out HBv2_7.out (by decide) g hg; rw [heap_setCell_other _ _ g _ hne, heap_setCell_other _ _ g _ hne])
      have HOEv4p_8 : Hid ((w8).ownsRow w.heap.size 67 2 (.slice oEv4p n2 pEv4p) n2 (flatWrite ws)) := by show World.ownsRow _ _ _ _ _ _ _; rw [hY]; exact owns_same HOEv4p_7.out (fun g hg => by have hne := own_ne HOEv4p_7.out HBv2_7.out (by decide) g hg; rw [heap_setCell_other _ _ g _ hne, heap_setCell_other _ _ g _ hne])
      have HBv1_8 : Hid ((w8).heap[qv1]? = some (.cells #[.slice oCx n1 pCx, .slice oPx n2 pPx] 27)) := by show _ = _; rw [hY, heap_setCell_other _ _ _ _ HNv1v2.out, heap_setCell_other _ _ _ _ HNv1v2.out]; exact HBv1_7.out
      have HBv2_8 : Hid ((w8).heap[qv2]? = some (.cells #[.slice oEv3p n1 pEv3p, .slice oEv4p n2 pEv4p] 27)) := by show _ = _; rw [hY]; have h := (heap_set _ qv2 1 _ _ _ (.slice oEv4p n2 pEv4p) (heap_set _ qv2 0 _ _ _ (.slice oEv3p n1 pEv3p) HBv2_7.out)); simpa using h
      clear hY hb7 HOCx_7 HOPx_7 HOEv3p_7 HOEv4p_7 HBv1_7 HBv2_7
      go_simp
      rw [HY.out]
      have hS8 : w8.heap[qv1]? = some (.cells #[.slice oCx n1 pCx, .slice oPx n2 pPx] 27) := HBv1_8.out
      refine hK.out _ _ hS8 (fun _ => ?_)
      clear hK K HY hS7 ce0 fe0 ce1 fe1
      clear hS8
      refine wpAnyH_done (by kernel_rfl) ?_ _
      go_wp2_with fail
      have kv2_0 : (w8).cell? ⟨qv2, 0, none⟩ = some (.slice oEv3p n1 pEv3p) := (cell_of HBv2_8.out 0).trans rfl
      have kv2_1 : (w8).cell? ⟨qv2, 1, none⟩ = some (.slice oEv4p n2 pEv4p) := (cell_of HBv2_8.out 1).trans rfl
      refine bodyPost_ret (v := .agg #[.slice oEv3p n1 pEv3p, .slice oEv4p n2 pEv4p]) (by simp [results, Try.results53, go_sem, kv2_0, kv2_1]) rfl ?_
      exact ⟨_, _, rfl, ⟨by rw [HCL.out]; exact HOEv3p_8.out, by rw [HPL.out]; exact HOEv4p_8.out⟩, hb8⟩
    · go_simp
      have bw : Below w4.heap.size w4 (w4.alloc (.cells #[] 67)) := (Below.refl _ _).alloc (Nat.le_refl _) _
      have hSA : (w4.alloc (.cells #[] 67)).heap[qv1]? = some (.cells #[.slice oCx n1 pCx, .slice oPx n2 pPx] 27) := blk_below HBv1_4.out bw
      refine hK.out _ _ hSA (fun _ => ?_)
      clear hK K hSA bw hS4
      obtain ⟨qv4, hqv4⟩ : ∃ o, o = w4.heap.size := ⟨_, rfl⟩
      obtain ⟨w5, hXj⟩ : ∃ X, X = (w4.alloc (.cells #[] 67)) := ⟨_, rfl⟩
      rw [← hqv4, ← hXj]
      have bw : Below w4.heap.size w4 w5 := by rw [hXj]; exact (Below.refl _ _).alloc (Nat.le_refl _) _
      have hb5 : Below w.heap.size w (w5) := hb4.trans (bw.mono hb4.size)
      have HM5 : Hid ((w4).heap.size ≤ (w5).heap.size) := bw.size
      have HOCx_5 : Hid ((w5).ownsRow B 9 1 (.slice oCx n1 pCx) n1 (cs.map Value.string)) := owns_below HOCx_4.out bw (fun g hg => owns_lt HOCx_4.out hg)
      have HOPx_5 : Hid ((w5).ownsRow B 67 2 (.slice oPx n2 pPx) n2 (flatWrite ws)) := owns_below HOPx_4.out bw (fun g hg => owns_lt HOPx_4.out hg)
      have HOEv3_5 : Hid ((w5).ownsRow w.heap.size 9 1 (.slice (some ⟨qv3, 0, none⟩) 0 0) 0 []) := owns_below HOEv3_4.out bw (fun g hg => owns_lt HOEv3_4.out hg)
      have HBv1_5 : Hid ((w5).heap[qv1]? = some (.cells #[.slice oCx n1 pCx, .slice oPx n2 pPx] 27)) := blk_below HBv1_4.out bw
      have HBv2_5 : Hid ((w5).heap[qv2]? = some (.cells #[.slice none 0 0, .slice none 0 0] 27)) := blk_below HBv2_4.out bw
      have HNv1v4 : Hid (qv1 ≠ qv4) := fun e => by have h1 := (Array.getElem?_eq_some_iff.1 HBv1_4.out).1; omega
      have HNv2v4 : Hid (qv2 ≠ qv4) := fun e => by have h1 := (Array.getElem?_eq_some_iff.1 HBv2_4.out).1; omega
      have HBv4_5 : Hid ((w5).heap[qv4]? = some (.cells #[] 67)) := by show _ = _; rw [hXj, hqv4]; exact heap_alloc_new _ _
      have HGv4 : Hid (w.heap.size ≤ qv4) := by show _ ≤ _; rw [hqv4]; exact hb4.size
      have hS5 : w5.heap[qv1]? = some (.cells #[.slice oCx n1 pCx, .slice oPx n2 pPx] 27) := HBv1_5.out
      have HQv4 : Hid ((w4).heap.size ≤ qv4) := by show _ ≤ _; omega
      clear hb4 HOCx_4 HOPx_4 HOEv3_4 HBv1_4 HBv2_4 bw hXj hqv4
      have HOEv4_5 : Hid ((w5).ownsRow w.heap.size 67 2 (.slice (some ⟨qv4, 0, none⟩) 0 0) 0 []) := ⟨rfl, .inr ⟨_, 0, #[], rfl, HGv4.out, HBv4_5.out, Nat.le_refl _, Nat.zero_le _, rfl, rfl⟩⟩
      have HIEv4 : Hid (∀ g, (Value.ownBlock (.slice (some ⟨qv4, 0, none⟩) 0 0)) = some g → g < (w5).heap.size) := fun g hg => owns_lt HOEv4_5.out hg
      have LOEv4 : Hid (∀ g, (Value.ownBlock (.slice (some ⟨qv4, 0, none⟩) 0 0)) = some g → (w4).heap.size ≤ g) := fun g hg => by simp [Value.ownBlock] at hg; have := HQv4.out; omega
      clear HBv4_5
      refine wpAnyH_ready (rs := [3]) (by kernel_rfl) (by simp) ?_
      refine AllReadyH.cons rfl (fun K hK => ?_) AllReadyH.nil
      have h63 : 0 + n1 ≤ maxLen := by unfold maxLen; omega
      have h47 : (0 + n1) * 16 ≤ 140737488355328 := by omega
      refine step_append_src (w := w5) (by rfl) _ _ _ (by rfl) w.heap.size 9 i0s (.string ⟨#[]⟩) 1 16 Try.underlying24 his hz0s hz1s hz2s rfl (by decide) _ _ _ (by rfl) HOEv3_5.out _ _ _ (by rfl) (Src.texts HOCx_5.out) h63 h47 hb5.size ?_
      intro v1 w6 hown2 hgrow
      rw [Nat.zero_add, List.nil_append] at hown2
      have hb6 : Below w.heap.size w (w6) := hb5.grown hgrow hb5.size (fun g hg => owns_ge HOEv3_5.out hg)
      have HM6 : Hid ((w5).heap.size ≤ w6.heap.size) := hgrow.size
      have HOCx_6 : Hid ((w6).ownsRow B 9 1 (.slice oCx n1 pCx) n1 (cs.map Value.string)) := owns_same HOCx_5.out (fun g hg => hgrow.block g (owns_lt HOCx_5.out hg) (fun e => (fun e => by have h1 := LOEv3.out g e; have h2 := HICx.out g hg; have := HM1.out; have := HM2.out; have := HM3.out; have := HM4.out; omega) e.symm))
      have HOPx_6 : Hid ((w6).ownsRow B 67 2 (.slice oPx n2 pPx) n2 (flatWrite ws)) := owns_same HOPx_5.out (fun g hg => hgrow.block g (owns_lt HOPx_5.out hg) (fun e => (own_type_ne HOPx_5.out HOEv3_5.out (by decide) g hg) e.symm))
      have HOEv4_6 : Hid ((w6).ownsRow w.heap.size 67 2 (.slice (some ⟨qv4, 0, none⟩) 0 0) 0 []) := owns_same HOEv4_5.out (fun g hg => hgrow.block g (owns_lt HOEv4_5.out hg) (fun e => (own_type_ne HOEv4_5.out HOEv3_5.out (by decide) g hg) e.symm))
      have HBv1_6 : Hid ((w6).heap[qv1]? = some (.cells #[.slice oCx n1 pCx, .slice oPx n2 pPx] 27)) := (hgrow.block _ (Array.getElem?_eq_some_iff.1 HBv1_5.out).1 (fun e => own_ne HOEv3_5.out HBv1_5.out (by decide) _ e.symm rfl)).trans HBv1_5.out
      have HBv2_6 : Hid ((w6).heap[qv2]? = some (.cells #[.slice none 0 0, .slice none 0 0] 27)) := (hgrow.block _ (Array.getElem?_eq_some_iff.1 HBv2_5.out).1 (fun e => own_ne HOEv3_5.out HBv2_5.out (by decide) _ e.symm rfl)).trans HBv2_5.out
      obtain ⟨oEv3p, pEv3p, rfl⟩ := slice_of_owns hown2
      have HOEv3p_6 : Hid ((w6).ownsRow w.heap.size 9 1 (.slice oEv3p n1 pEv3p) n1 (cs.map Value.string)) := hown2
      clear hb5 HOCx_5 HOPx_5 HOEv3_5 HOEv4_5 HBv1_5 HBv2_5 hown2 hgrow h63 h47
      simp only [Act.put, List.setIfInBounds_toArray]
      have hS6 : w6.heap[qv1]? = some (.cells #[.slice oCx n1 pCx, .slice oPx n2 pPx] 27) := HBv1_6.out
      refine hK.out _ _ hS6 (fun _ => ?_)
      clear hK K hS5
      refine wpAnyH_ready (rs := [7]) (by kernel_rfl) (by simp) ?_
      refine AllReadyH.cons rfl (fun K hK => ?_) AllReadyH.nil
      have h63 : 0 + n2 ≤ maxLen := by unfold maxLen; omega
      have h47 : (0 + n2) * 24 ≤ 140737488355328 := by omega
      refine step_append_src (w := w6) (by rfl) _ _ _ (by rfl) w.heap.size 67 i0w (.agg #[.int .i64 0, .string ⟨#[]⟩]) 2 24 Try.underlying25 hiw hz0w hz1w hz2w rfl (by decide) _ _ _ (by rfl) HOEv4_6.out _ _ _ (by rfl) (Src.of_owns HOPx_6.out (flatWrite_ones _)) h63 h47 hb6.size ?_
      intro v1 w7 hown2 hgrow
      rw [Nat.zero_add, List.nil_append] at hown2
      have hb7 : Below w.heap.size w (w7) := hb6.grown hgrow hb6.size (fun g hg => owns_ge HOEv4_6.out hg)
      have HM7 : Hid ((w6).heap.size ≤ w7.heap.size) := hgrow.size
      have HOCx_7 : Hid ((w7).ownsRow B 9 1 (.slice oCx n1 pCx) n1 (cs.map Value.string)) := owns_same HOCx_6.out (fun g hg => hgrow.block g (owns_lt HOCx_6.out hg) (fun e => (own_type_ne HOCx_6.out HOEv4_6.out (by decide) g hg) e.symm))
      have HOPx_7 : Hid ((w7).ownsRow B 67 2 (.slice oPx n2 pPx) n2 (flatWrite ws)) := owns_same HOPx_6.out (fun g hg => hgrow.block g (owns_lt HOPx_6.out hg) (fun e => (fun e => by have h1 := LOEv4.out g e; have h2 := HIPx.out g hg; have := HM1.out; have := HM2.out; have := HM3.out; have := HM4.out; have := HM5.out; omega) e.symm))
      have HOEv3p_7 : Hid ((w7).ownsRow w.heap.size 9 1 (.slice oEv3p n1 pEv3p) n1 (cs.map Value.string)) := owns_same HOEv3p_6.out (fun g hg => hgrow.block g (owns_lt HOEv3p_6.out hg) (fun e => (own_type_ne HOEv3p_6.out HOEv4_6.out (by decide) g hg) e.symm))
      have HBv1_7 : Hid ((w7).heap[qv1]? = some (.cells #[.slice oCx n1 pCx, .slice oPx n2 pPx] 27)) := (hgrow.block _ (Array.getElem?_eq_some_iff.1 HBv1_6.out).1 (fun e => own_ne HOEv4_6.out HBv1_6.out (by decide) _ e.symm rfl)).trans HBv1_6.out
      have HBv2_7 : Hid ((w7).heap[qv2]? = some (.cells #[.slice none 0 0, .slice none 0 0] 27)) := (hgrow.block _ (Array.getElem?_eq_some_iff.1 HBv2_6.out).1 (fun e => own_ne HOEv4_6.out HBv2_6.out (by decide) _ e.symm rfl)).trans HBv2_6.out
      obtain ⟨oEv4p, pEv4p, rfl⟩ := slice_of_owns hown2
      have HOEv4p_7 : Hid ((w7).ownsRow w.heap.size 67 2 (.slice oEv4p n2 pEv4p) n2 (flatWrite ws)) := hown2
      clear hb6 HOCx_6 HOPx_6 HOEv4_6 HOEv3p_6 HBv1_6 HBv2_6 hown2 hgrow h63 h47
      simp only [Act.put]
      have hS7 : w7.heap[qv1]? = some (.cells #[.slice oCx n1 pCx, .slice oPx n2 pPx] 27) := HBv1_7.out
      refine hK.out _ _ hS7 (fun _ => ?_)
      clear hK K hS6
      refine wpAnyH_takeD (i := 8) (v := .agg #[.slice oEv3p n1 pEv3p, .slice oEv4p n2 pEv4p]) (some 11) rfl rfl (by kernel_rfl) (by kernel_rfl) (by kernel_rfl) (fun _ _ _ h => h) (Or.inl ⟨by rfl, by intro W _; go_simp⟩) hS7 ?_
      simp only [Act.put]
      refine wpAnyH_ready (rs := [9]) (by kernel_rfl) (by simp) ?_
      refine AllReadyH.cons rfl (fun K hK => ?_) AllReadyH.nil
      have ce0 : (w7).cell? ⟨qv2, 0, none⟩ = some (.slice none 0 0) := (cell_of HBv2_7.out 0).trans rfl
      have fe0 : (w7).frozen? ⟨qv2, 0, none⟩ = false := frozen_of HBv2_7.out 0
      have ce1 : (w7).cell? ⟨qv2, 1, none⟩ = some (.slice none 0 0) := (cell_of HBv2_7.out 1).trans rfl
      have fe1 : (w7).frozen? ⟨qv2, 1, none⟩ = false := frozen_of HBv2_7.out 1
      obtain ⟨w8, hY⟩ : ∃ Y, Y = ((w7.setCell ⟨qv2, 0, none⟩ (.slice oEv3p n1 pEv3p)).setCell ⟨qv2, 1, none⟩ (.slice oEv4p n2 pEv4p)) := ⟨_, rfl⟩
      have HY : Hid (((w7.setCell ⟨qv2, 0, none⟩ (.slice oEv3p n1 pEv3p)).setCell ⟨qv2, 1, none⟩ (.slice oEv4p n2 pEv4p)) = w8) := hY.symm
      have hb8 : Below w.heap.size w (w8) := by rw [hY]; exact ((hb7.setCell (p := ⟨qv2, 0, none⟩) HGv2.out _).setCell (p := ⟨qv2, 1, none⟩) HGv2.out _)
      have HM8 : Hid ((w7).heap.size ≤ w8.heap.size) := by show _ ≤ _; rw [hY]; simp
      have HOCx_8 : Hid ((w8).ownsRow B 9 1 (.slice oCx n1 pCx) n1 (cs.map Value.string)) := by show World.ownsRow _ _ _ _ _ _ _; rw [hY]; exact owns_same HOCx_7.out (fun g hg => by have hne := own_ne HOCx_7.out HBv2_7.out (by decide) g hg; rw [heap_setCell_other _ _ g _ hne, heap_setCell_other _ _ g _ hne])
      have HOPx_8 : Hid ((w8).ownsRow B 67 2 (.slice oPx n2 pPx) n2 (flatWrite ws)) := by show World.ownsRow _ _ _ _ _ _ _; rw [hY]; exact owns_same HOPx_7.out (fun g hg => by have hne := own_ne HOPx_7.out HBv2_7.out (by decide) g hg; rw [heap_setCell_other _ _ g _ hne, heap_setCell_other _ _ g _ hne])
      have HOEv3p_8 : Hid ((w8).ownsRow w.heap.size 9 1 (.slice oEv3p n1 pEv3p) n1 (cs.map Value.string)) := by show World.ownsRow _ _ _ _ _ _ _; rw [hY]; exact owns_same HOEv3p_7.out (fun g hg => by have hne := own_ne HOEv3p_7.out HBv2_7.out (by decide) g hg; rw [heap_setCell_other _ _ g _ hne, heap_setCell_other _ _ g _ hne])
      have HOEv4p_8 : Hid ((w8).ownsRow w.heap.size 67 2 (.slice oEv4p n2 pEv4p) n2 (flatWrite ws)) := by show World.ownsRow _ _ _ _ _ _ _; rw [hY]; exact owns_same HOEv4p_7.out (fun g hg => by have hne := own_ne HOEv4p_7.out HBv2_7.out (by decide) g hg; rw [heap_setCell_other _ _ g _ hne, heap_setCell_other _ _ g _ hne])
      have HBv1_8 : Hid ((w8).heap[qv1]? = some (.cells #[.slice oCx n1 pCx, .slice oPx n2 pPx] 27)) := by show _ = _; rw [hY, heap_setCell_other _ _ _ _ HNv1v2.out, heap_setCell_other _ _ _ _ HNv1v2.out]; exact HBv1_7.out
      have HBv2_8 : Hid ((w8).heap[qv2]? = some (.cells #[.slice oEv3p n1 pEv3p, .slice oEv4p n2 pEv4p] 27)) := by show _ = _; rw [hY]; have h := (heap_set _ qv2 1 _ _ _ (.slice oEv4p n2 pEv4p) (heap_set _ qv2 0 _ _ _ (.slice oEv3p n1 pEv3p) HBv2_7.out)); simpa using h
      clear hY hb7 HOCx_7 HOPx_7 HOEv3p_7 HOEv4p_7 HBv1_7 HBv2_7
      go_simp
      rw [HY.out]
      have hS8 : w8.heap[qv1]? = some (.cells #[.slice oCx n1 pCx, .slice oPx n2 pPx] 27) := HBv1_8.out
      refine hK.out _ _ hS8 (fun _ => ?_)
      clear hK K HY hS7 ce0 fe0 ce1 fe1
      clear hS8
      refine wpAnyH_done (by kernel_rfl) ?_ _
      go_wp2_with fail
      have kv2_0 : (w8).cell? ⟨qv2, 0, none⟩ = some (.slice oEv3p n1 pEv3p) := (cell_of HBv2_8.out 0).trans rfl
      have kv2_1 : (w8).cell? ⟨qv2, 1, none⟩ = some (.slice oEv4p n2 pEv4p) := (cell_of HBv2_8.out 1).trans rfl
      refine bodyPost_ret (v := .agg #[.slice oEv3p n1 pEv3p, .slice oEv4p n2 pEv4p]) (by simp [results, Try.results53, go_sem, kv2_0, kv2_1]) rfl ?_
      exact ⟨_, _, rfl, ⟨by rw [HCL.out]; exact HOEv3p_8.out, by rw [HPL.out]; exact HOEv4p_8.out⟩, hb8⟩
  · go_simp
    have bw : Below w3.heap.size w3 (w3.alloc (.cells #[] 67)) := (Below.refl _ _).alloc (Nat.le_refl _) _
    have hSA : (w3.alloc (.cells #[] 67)).heap[qv1]? = some (.cells #[.slice oCx n1 pCx, .slice oPx n2 pPx] 27) := blk_below HBv1_3.out bw
    refine hK.out _ _ hSA (fun _ => ?_)
    clear hK K hSA bw hS3
    obtain ⟨qv3, hqv3⟩ : ∃ o, o = w3.heap.size := ⟨_, rfl⟩
    obtain ⟨w4, hXj⟩ : ∃ X, X = (w3.alloc (.cells #[] 67)) := ⟨_, rfl⟩
    rw [← hqv3, ← hXj]
    have bw : Below w3.heap.size w3 w4 := by rw [hXj]; exact (Below.refl _ _).alloc (Nat.le_refl _) _
    have hb4 : Below w.heap.size w (w4) := hb3.trans (bw.mono hb3.size)
    have HM4 : Hid ((w3).heap.size ≤ (w4).heap.size) := bw.size
    have HOCx_4 : Hid ((w4).ownsRow B 9 1 (.slice oCx n1 pCx) n1 (cs.map Value.string)) := owns_below HOCx_3.out bw (fun g hg => owns_lt HOCx_3.out hg)
    have HOPx_4 : Hid ((w4).ownsRow B 67 2 (.slice oPx n2 pPx) n2 (flatWrite ws)) := owns_below HOPx_3.out bw (fun g hg => owns_lt HOPx_3.out hg)
    have HBv1_4 : Hid ((w4).heap[qv1]? = some (.cells #[.slice oCx n1 pCx, .slice oPx n2 pPx] 27)) := blk_below HBv1_3.out bw
    have HBv2_4 : Hid ((w4).heap[qv2]? = some (.cells #[.slice none 0 0, .slice none 0 0] 27)) := blk_below HBv2_3.out bw
    have HNv1v3 : Hid (qv1 ≠ qv3) := fun e => by have h1 := (Array.getElem?_eq_some_iff.1 HBv1_3.out).1; omega
    have HNv2v3 : Hid (qv2 ≠ qv3) := fun e => by have h1 := (Array.getElem?_eq_some_iff.1 HBv2_3.out).1; omega
    have HBv3_4 : Hid ((w4).heap[qv3]? = some (.cells #[] 67)) := by show _ = _; rw [hXj, hqv3]; exact heap_alloc_new _ _
    have HGv3 : Hid (w.heap.size ≤ qv3) := by show _ ≤ _; rw [hqv3]; exact hb3.size
    have hS4 : w4.heap[qv1]? = some (.cells #[.slice oCx n1 pCx, .slice oPx n2 pPx] 27) := HBv1_4.out
    have HQv3 : Hid ((w3).heap.size ≤ qv3) := by show _ ≤ _; omega
    clear hb3 HOCx_3 HOPx_3 HBv1_3 HBv2_3 bw hXj hqv3
    have HOEv3_4 : Hid ((w4).ownsRow w.heap.size 67 2 (.slice (some ⟨qv3, 0, none⟩) 0 0) 0 []) := ⟨rfl, .inr ⟨_, 0, #[], rfl, HGv3.out, HBv3_4.out, Nat.le_refl _, Nat.zero_le _, rfl, rfl⟩⟩
    have HIEv3 : Hid (∀ g, (Value.ownBlock (.slice (some ⟨qv3, 0, none⟩) 0 0)) = some g → g < (w4).heap.size) := fun g hg => owns_lt HOEv3_4.out hg
    have LOEv3 : Hid (∀ g, (Value.ownBlock (.slice (some ⟨qv3, 0, none⟩) 0 0)) = some g → (w3).heap.size ≤ g) := fun g hg => by simp [Value.ownBlock] at hg; have := HQv3.out; omega
    clear HBv3_4
    refine wpAnyH_ready (rs := [0]) (by kernel_rfl) (by simp) ?_
    refine AllReadyH.cons rfl (fun K hK => ?_) AllReadyH.nil
    go_simp
    have bw : Below w4.heap.size w4 (w4.alloc (.cells #[] 9)) := (Below.refl _ _).alloc (Nat.le_refl _) _
    have hSA : (w4.alloc (.cells #[] 9)).heap[qv1]? = some (.cells #[.slice oCx n1 pCx, .slice oPx n2 pPx] 27) := blk_below HBv1_4.out bw
    refine hK.out _ _ hSA (fun _ => ?_)
    clear hK K hSA bw hS4
    obtain ⟨qv4, hqv4⟩ : ∃ o, o = w4.heap.size := ⟨_, rfl⟩
    obtain ⟨w5, hXj⟩ : ∃ X, X = (w4.alloc (.cells #[] 9)) := ⟨_, rfl⟩
    rw [← hqv4, ← hXj]
    have bw : Below w4.heap.size w4 w5 := by rw [hXj]; exact (Below.refl _ _).alloc (Nat.le_refl _) _
    have hb5 : Below w.heap.size w (w5) := hb4.trans (bw.mono hb4.size)
    have HM5 : Hid ((w4).heap.size ≤ (w5).heap.size) := bw.size
    have HOCx_5 : Hid ((w5).ownsRow B 9 1 (.slice oCx n1 pCx) n1 (cs.map Value.string)) := owns_below HOCx_4.out bw (fun g hg => owns_lt HOCx_4.out hg)
    have HOPx_5 : Hid ((w5).ownsRow B 67 2 (.slice oPx n2 pPx) n2 (flatWrite ws)) := owns_below HOPx_4.out bw (fun g hg => owns_lt HOPx_4.out hg)
    have HOEv3_5 : Hid ((w5).ownsRow w.heap.size 67 2 (.slice (some ⟨qv3, 0, none⟩) 0 0) 0 []) := owns_below HOEv3_4.out bw (fun g hg => owns_lt HOEv3_4.out hg)
    have HBv1_5 : Hid ((w5).heap[qv1]? = some (.cells #[.slice oCx n1 pCx, .slice oPx n2 pPx] 27)) := blk_below HBv1_4.out bw
    have HBv2_5 : Hid ((w5).heap[qv2]? = some (.cells #[.slice none 0 0, .slice none 0 0] 27)) := blk_below HBv2_4.out bw
    have HNv1v4 : Hid (qv1 ≠ qv4) := fun e => by have h1 := (Array.getElem?_eq_some_iff.1 HBv1_4.out).1; omega
    have HNv2v4 : Hid (qv2 ≠ qv4) := fun e => by have h1 := (Array.getElem?_eq_some_iff.1 HBv2_4.out).1; omega
    have HBv4_5 : Hid ((w5).heap[qv4]? = some (.cells #[] 9)) := by show _ = _; rw [hXj, hqv4]; exact heap_alloc_new _ _
    have HGv4 : Hid (w.heap.size ≤ qv4) := by show _ ≤ _; rw [hqv4]; exact hb4.size
    have hS5 : w5.heap[qv1]? = some (.cells #[.slice oCx n1 pCx, .slice oPx n2 pPx] 27) := HBv1_5.out
    have HQv4 : Hid ((w4).heap.size ≤ qv4) := by show _ ≤ _; omega
    clear hb4 HOCx_4 HOPx_4 HOEv3_4 HBv1_4 HBv2_4 bw hXj hqv4
    have HOEv4_5 : Hid ((w5).ownsRow w.heap.size 9 1 (.slice (some ⟨qv4, 0, none⟩) 0 0) 0 []) := ⟨rfl, .inr ⟨_, 0, #[], rfl, HGv4.out, HBv4_5.out, Nat.le_refl _, Nat.zero_le _, rfl, rfl⟩⟩
    have HIEv4 : Hid (∀ g, (Value.ownBlock (.slice (some ⟨qv4, 0, none⟩) 0 0)) = some g → g < (w5).heap.size) := fun g hg => owns_lt HOEv4_5.out hg
    have LOEv4 : Hid (∀ g, (Value.ownBlock (.slice (some ⟨qv4, 0, none⟩) 0 0)) = some g → (w4).heap.size ≤ g) := fun g hg => by simp [Value.ownBlock] at hg; have := HQv4.out; omega
    clear HBv4_5
    refine wpAnyH_ready (rs := [3]) (by kernel_rfl) (by simp) ?_
    refine AllReadyH.cons rfl (fun K hK => ?_) AllReadyH.nil
    have h63 : 0 + n1 ≤ maxLen := by unfold maxLen; omega
    have h47 : (0 + n1) * 16 ≤ 140737488355328 := by omega
    refine step_append_src (w := w5) (by rfl) _ _ _ (by rfl) w.heap.size 9 i0s (.string ⟨#[]⟩) 1 16 Try.underlying24 his hz0s hz1s hz2s rfl (by decide) _ _ _ (by rfl) HOEv4_5.out _ _ _ (by rfl) (Src.texts HOCx_5.out) h63 h47 hb5.size ?_
    intro v1 w6 hown2 hgrow
    rw [Nat.zero_add, List.nil_append] at hown2
    have hb6 : Below w.heap.size w (w6) := hb5.grown hgrow hb5.size (fun g hg => owns_ge HOEv4_5.out hg)
    have HM6 : Hid ((w5).heap.size ≤ w6.heap.size) := hgrow.size
    have HOCx_6 : Hid ((w6).ownsRow B 9 1 (.slice oCx n1 pCx) n1 (cs.map Value.string)) := owns_same HOCx_5.out (fun g hg => hgrow.block g (owns_lt HOCx_5.out hg) (fun e => (fun e => by have h1 := LOEv4.out g e; have h2 := HICx.out g hg; have := HM1.out; have := HM2.out; have := HM3.out; have := HM4.out; have := HM5.out; omega) e.symm))
    have HOPx_6 : Hid ((w6).ownsRow B 67 2 (.slice oPx n2 pPx) n2 (flatWrite ws)) := owns_same HOPx_5.out (fun g hg => hgrow.block g (owns_lt HOPx_5.out hg) (fun e => (own_type_ne HOPx_5.out HOEv4_5.out (by decide) g hg) e.symm))
    have HOEv3_6 : Hid ((w6).ownsRow w.heap.size 67 2 (.slice (some ⟨qv3, 0, none⟩) 0 0) 0 []) := owns_same HOEv3_5.out (fun g hg => hgrow.block g (owns_lt HOEv3_5.out hg) (fun e => (own_type_ne HOEv3_5.out HOEv4_5.out (by decide) g hg) e.symm))
    have HBv1_6 : Hid ((w6).heap[qv1]? = some (.cells #[.slice oCx n1 pCx, .slice oPx n2 pPx] 27)) := (hgrow.block _ (Array.getElem?_eq_some_iff.1 HBv1_5.out).1 (fun e => own_ne HOEv4_5.out HBv1_5.out (by decide) _ e.symm rfl)).trans HBv1_5.out
    have HBv2_6 : Hid ((w6).heap[qv2]? = some (.cells #[.slice none 0 0, .slice none 0 0] 27)) := (hgrow.block _ (Array.getElem?_eq_some_iff.1 HBv2_5.out).1 (fun e => own_ne HOEv4_5.out HBv2_5.out (by decide) _ e.symm rfl)).trans HBv2_5.out
    obtain ⟨oEv4p, pEv4p, rfl⟩ := slice_of_owns hown2
    have HOEv4p_6 : Hid ((w6).ownsRow w.heap.size 9 1 (.slice oEv4p n1 pEv4p) n1 (cs.map Value.string)) := hown2
    clear hb5 HOCx_5 HOPx_5 HOEv3_5 HOEv4_5 HBv1_5 HBv2_5 hown2 hgrow h63 h47
    simp only [Act.put, List.setIfInBounds_toArray]
    have hS6 : w6.heap[qv1]? = some (.cells #[.slice oCx n1 pCx, .slice oPx n2 pPx] 27) := HBv1_6.out
    refine hK.out _ _ hS6 (fun _ => ?_)
    clear hK K hS5
    refine wpAnyH_ready (rs := [7]) (by kernel_rfl) (by simp) ?_
    refine AllReadyH.cons rfl (fun K hK => ?_) AllReadyH.nil
    have h63 : 0 + n2 ≤ maxLen := by unfold maxLen; omega
    have h47 : (0 + n2) * 24 ≤ 140737488355328 := by omega
    refine step_append_src (w := w6) (by rfl) _ _ _ (by rfl) w.heap.size 67 i0w (.agg #[.int .i64 0, .string ⟨#[]⟩]) 2 24 Try.underlying25 hiw hz0w hz1w hz2w rfl (by decide) _ _ _ (by rfl) HOEv3_6.out _ _ _ (by rfl) (Src.of_owns HOPx_6.out (flatWrite_ones _)) h63 h47 hb6.size ?_
    intro v1 w7 hown2 hgrow
    rw [Nat.zero_add, List.nil_append] at hown2
    have hb7 : Below w.heap.size w (w7) := hb6.grown hgrow hb6.size (fun g hg => owns_ge HOEv3_6.out hg)
    have HM7 : Hid ((w6).heap.size ≤ w7.heap.size) := hgrow.size
    have HOCx_7 : Hid ((w7).ownsRow B 9 1 (.slice oCx n1 pCx) n1 (cs.map Value.string)) := owns_same HOCx_6.out (fun g hg => hgrow.block g (owns_lt HOCx_6.out hg) (fun e => (own_type_ne HOCx_6.out HOEv3_6.out (by decide) g hg) e.symm))
    have HOPx_7 : Hid ((w7).ownsRow B 67 2 (.slice oPx n2 pPx) n2 (flatWrite ws)) := owns_same HOPx_6.out (fun g hg => hgrow.block g (owns_lt HOPx_6.out hg) (fun e => (fun e => by have h1 := LOEv3.out g e; have h2 := HIPx.out g hg; have := HM1.out; have := HM2.out; have := HM3.out; have := HM4.out; omega) e.symm))
    have HOEv4p_7 : Hid ((w7).ownsRow w.heap.size 9 1 (.slice oEv4p n1 pEv4p) n1 (cs.map Value.string)) := owns_same HOEv4p_6.out (fun g hg => hgrow.block g (owns_lt HOEv4p_6.out hg) (fun e => (own_type_ne HOEv4p_6.out HOEv3_6.out (by decide) g hg) e.symm))
    have HBv1_7 : Hid ((w7).heap[qv1]? = some (.cells #[.slice oCx n1 pCx, .slice oPx n2 pPx] 27)) := (hgrow.block _ (Array.getElem?_eq_some_iff.1 HBv1_6.out).1 (fun e => own_ne HOEv3_6.out HBv1_6.out (by decide) _ e.symm rfl)).trans HBv1_6.out
    have HBv2_7 : Hid ((w7).heap[qv2]? = some (.cells #[.slice none 0 0, .slice none 0 0] 27)) := (hgrow.block _ (Array.getElem?_eq_some_iff.1 HBv2_6.out).1 (fun e => own_ne HOEv3_6.out HBv2_6.out (by decide) _ e.symm rfl)).trans HBv2_6.out
    obtain ⟨oEv3p, pEv3p, rfl⟩ := slice_of_owns hown2
    have HOEv3p_7 : Hid ((w7).ownsRow w.heap.size 67 2 (.slice oEv3p n2 pEv3p) n2 (flatWrite ws)) := hown2
    clear hb6 HOCx_6 HOPx_6 HOEv3_6 HOEv4p_6 HBv1_6 HBv2_6 hown2 hgrow h63 h47
    simp only [Act.put]
    have hS7 : w7.heap[qv1]? = some (.cells #[.slice oCx n1 pCx, .slice oPx n2 pPx] 27) := HBv1_7.out
    refine hK.out _ _ hS7 (fun _ => ?_)
    clear hK K hS6
    refine wpAnyH_takeD (i := 8) (v := .agg #[.slice oEv4p n1 pEv4p, .slice oEv3p n2 pEv3p]) (some 11) rfl rfl (by kernel_rfl) (by kernel_rfl) (by kernel_rfl) (fun _ _ _ h => h) (Or.inl ⟨by rfl, by intro W _; go_simp⟩) hS7 ?_
    simp only [Act.put]
    refine wpAnyH_ready (rs := [9]) (by kernel_rfl) (by simp) ?_
    refine AllReadyH.cons rfl (fun K hK => ?_) AllReadyH.nil
    have ce0 : (w7).cell? ⟨qv2, 0, none⟩ = some (.slice none 0 0) := (cell_of HBv2_7.out 0).trans rfl
    have fe0 : (w7).frozen? ⟨qv2, 0, none⟩ = false := frozen_of HBv2_7.out 0
    have ce1 : (w7).cell? ⟨qv2, 1, none⟩ = some (.slice none 0 0) := (cell_of HBv2_7.out 1).trans rfl
    have fe1 : (w7).frozen? ⟨qv2, 1, none⟩ = false := frozen_of HBv2_7.out 1
    obtain ⟨w8, hY⟩ : ∃ Y, Y = ((w7.setCell ⟨qv2, 0, none⟩ (.slice oEv4p n1 pEv4p)).setCell ⟨qv2, 1, none⟩ (.slice oEv3p n2 pEv3p)) := ⟨_, rfl⟩
    have HY : Hid (((w7.setCell ⟨qv2, 0, none⟩ (.slice oEv4p n1 pEv4p)).setCell ⟨qv2, 1, none⟩ (.slice oEv3p n2 pEv3p)) = w8) := hY.symm
    have hb8 : Below w.heap.size w (w8) := by rw [hY]; exact ((hb7.setCell (p := ⟨qv2, 0, none⟩) HGv2.out _).setCell (p := ⟨qv2, 1, none⟩) HGv2.out _)
    have HM8 : Hid ((w7).heap.size ≤ w8.heap.size) := by show _ ≤ _; rw [hY]; simp
    have HOCx_8 : Hid ((w8).ownsRow B 9 1 (.slice oCx n1 pCx) n1 (cs.map Value.string)) := by show World.ownsRow _ _ _ _ _ _ _; rw [hY]; exact owns_same HOCx_7.out (fun g hg => by have hne := own_ne HOCx_7.out HBv2_7.out (by decide) g hg; rw [heap_setCell_other _ _ g _ hne, heap_setCell_other _ _ g _ hne])
    have HOPx_8 : Hid ((w8).ownsRow B 67 2 (.slice oPx n2 pPx) n2 (flatWrite ws)) := by show World.ownsRow _ _ _ _ _ _ _; rw [hY]; exact owns_same HOPx_7.out (fun g hg => by have hne := own_ne HOPx_7.out HBv2_7.out (by decide) g hg; rw [heap_setCell_other _ _ g _ hne, heap_setCell_other _ _ g _ hne])
    have HOEv4p_8 : Hid ((w8).ownsRow w.heap.size 9 1 (.slice oEv4p n1 pEv4p) n1 (cs.map Value.string)) := by show World.ownsRow _ _ _ _ _ _ _; rw [hY]; exact owns_same HOEv4p_7.out (fun g hg => by have hne := own_ne HOEv4p_7.out HBv2_7.out (by decide) g hg; rw [heap_setCell_other _ _ g _ hne, heap_setCell_other _ _ g _ hne])
    have HOEv3p_8 : Hid ((w8).ownsRow w.heap.size 67 2 (.slice oEv3p n2 pEv3p) n2 (flatWrite ws)) := by show World.ownsRow _ _ _ _ _ _ _; rw [hY]; exact owns_same HOEv3p_7.out (fun g hg => by have hne := own_ne HOEv3p_7.out HBv2_7.out (by decide) g hg; rw [heap_setCell_other _ _ g _ hne, heap_setCell_other _ _ g _ hne])
    have HBv1_8 : Hid ((w8).heap[qv1]? = some (.cells #[.slice oCx n1 pCx, .slice oPx n2 pPx] 27)) := by show _ = _; rw [hY, heap_setCell_other _ _ _ _ HNv1v2.out, heap_setCell_other _ _ _ _ HNv1v2.out]; exact HBv1_7.out
    have HBv2_8 : Hid ((w8).heap[qv2]? = some (.cells #[.slice oEv4p n1 pEv4p, .slice oEv3p n2 pEv3p] 27)) := by show _ = _; rw [hY]; have h := (heap_set _ qv2 1 _ _ _ (.slice oEv3p n2 pEv3p) (heap_set _ qv2 0 _ _ _ (.slice oEv4p n1 pEv4p) HBv2_7.out)); simpa using h
    clear hY hb7 HOCx_7 HOPx_7 HOEv4p_7 HOEv3p_7 HBv1_7 HBv2_7
    go_simp
    rw [HY.out]
    have hS8 : w8.heap[qv1]? = some (.cells #[.slice oCx n1 pCx, .slice oPx n2 pPx] 27) := HBv1_8.out
    refine hK.out _ _ hS8 (fun _ => ?_)
    clear hK K HY hS7 ce0 fe0 ce1 fe1
    clear hS8
    refine wpAnyH_done (by kernel_rfl) ?_ _
    go_wp2_with fail
    have kv2_0 : (w8).cell? ⟨qv2, 0, none⟩ = some (.slice oEv4p n1 pEv4p) := (cell_of HBv2_8.out 0).trans rfl
    have kv2_1 : (w8).cell? ⟨qv2, 1, none⟩ = some (.slice oEv3p n2 pEv3p) := (cell_of HBv2_8.out 1).trans rfl
    refine bodyPost_ret (v := .agg #[.slice oEv4p n1 pEv4p, .slice oEv3p n2 pEv3p]) (by simp [results, Try.results53, go_sem, kv2_0, kv2_1]) rfl ?_
    exact ⟨_, _, rfl, ⟨by rw [HCL.out]; exact HOEv4p_8.out, by rw [HPL.out]; exact HOEv3p_8.out⟩, hb8⟩

set_option maxHeartbeats 8000000 in
set_option maxRecDepth 100000 in
theorem specDiskPut_any (v1 v2 : Value) (n1 : Nat) (cs : List ByteArray) (n2 : Nat) (ws : List (Int × ByteArray)) (B : Nat) (w : World) (h : DiskO w B v1 n1 cs v2 n2 ws) (hn1 : n1 ≤ 2000000) (hn2 : n2 ≤ 2000000) (x : Int) (t : ByteArray) :
    Calls Try.prog 22 #[.agg #[v1, v2], .int .i64 x, .string t] w fun e w' => DiskIsB (putC cs ws) (putW cs ws x t) (putB cs ws x) w e w' := by
  obtain ⟨i0s, his, hz0s, hz1s, hz2s⟩ := info_parts info9
  obtain ⟨i0w, hiw, hz0w, hz1w, hz2w⟩ := info_parts infoWrite
  obtain ⟨oCx, pCx, rfl⟩ := slice_of_owns h.cells
  have HOCx_0 : Hid ((w).ownsRow B 9 1 (.slice oCx n1 pCx) n1 (cs.map Value.string)) := h.cells
  have HICx : Hid (∀ g, (Value.ownBlock (.slice oCx n1 pCx)) = some g → g < w.heap.size) := fun g hg => owns_lt h.cells hg
  obtain ⟨oPx, pPx, rfl⟩ := slice_of_owns h.pend
  have HOPx_0 : Hid ((w).ownsRow B 67 2 (.slice oPx n2 pPx) n2 (flatWrite ws)) := h.pend
  have HIPx : Hid (∀ g, (Value.ownBlock (.slice oPx n2 pPx)) = some g → g < w.heap.size) := fun g hg => owns_lt h.pend hg
  have HCL : Hid (cs.length = n1) := by have := h.cells.1; rw [List.length_map] at this; show _ = _; omega
  have HPL : Hid (ws.length = n2) := write_len h.pend
  clear h
  have hb0 : Below w.heap.size w w := Below.refl _ _
  go_enter Try.func22, Try.ntmps22
  go_upto_region 1 with fail
  obtain ⟨qv1, hqv1⟩ : ∃ q, q = (w).heap.size := ⟨_, rfl⟩
  obtain ⟨w1, hW1⟩ : ∃ W, W = (w).alloc (.cells #[.slice oCx n1 pCx, .slice oPx n2 pPx] 27) := ⟨_, rfl⟩
  have hz1 : (w).heap.size = qv1 := hqv1.symm
  first | rw [← hW1, ← hqv1] | rw [← hW1]
  have hs1 : w1.heap.size = qv1 + 1 := by rw [hW1, ← hz1]; simp
  have bw : Below (w).heap.size (w) w1 := by rw [hW1]; exact (Below.refl _ _).alloc (Nat.le_refl _) _
  have hb1 : Below w.heap.size w (w1) := hb0.trans (bw.mono hb0.size)
  have HM1 : Hid ((w).heap.size ≤ (w1).heap.size) := bw.size
  have HOCx_1 : Hid ((w1).ownsRow B 9 1 (.slice oCx n1 pCx) n1 (cs.map Value.string)) := owns_below HOCx_0.out bw (fun g hg => owns_lt HOCx_0.out hg)
  have HOPx_1 : Hid ((w1).ownsRow B 67 2 (.slice oPx n2 pPx) n2 (flatWrite ws)) := owns_below HOPx_0.out bw (fun g hg => owns_lt HOPx_0.out hg)
  have HBv1_1 : Hid ((w1).heap[qv1]? = some (.cells #[.slice oCx n1 pCx, .slice oPx n2 pPx] 27)) := by show _ = _; rw [hW1, ← hz1]; exact heap_alloc_new _ _
  have HGv1 : Hid (w.heap.size ≤ qv1) := by show _ ≤ _; rw [← hz1]; exact hb0.size
  clear hb0 HOCx_0 HOPx_0 bw hW1 hz1
  obtain ⟨qv2, hqv2⟩ : ∃ q, q = qv1 + 1 := ⟨_, rfl⟩
  obtain ⟨w2, hW2⟩ : ∃ W, W = (w1).alloc (.cells #[.slice none 0 0, .slice none 0 0] 27) := ⟨_, rfl⟩
  have hz2 : (w1).heap.size = qv2 := by rw [hqv2]; exact hs1
  first | rw [← hW2, ← hqv2] | rw [← hW2]
  have hs2 : w2.heap.size = qv2 + 1 := by rw [hW2, ← hz2]; simp
  have bw : Below (w1).heap.size (w1) w2 := by rw [hW2]; exact (Below.refl _ _).alloc (Nat.le_refl _) _
  have hb2 : Below w.heap.size w (w2) := hb1.trans (bw.mono hb1.size)
  have HM2 : Hid ((w1).heap.size ≤ (w2).heap.size) := bw.size
  have HOCx_2 : Hid ((w2).ownsRow B 9 1 (.slice oCx n1 pCx) n1 (cs.map Value.string)) := owns_below HOCx_1.out bw (fun g hg => owns_lt HOCx_1.out hg)
  have HOPx_2 : Hid ((w2).ownsRow B 67 2 (.slice oPx n2 pPx) n2 (flatWrite ws)) := owns_below HOPx_1.out bw (fun g hg => owns_lt HOPx_1.out hg)
  have HBv1_2 : Hid ((w2).heap[qv1]? = some (.cells #[.slice oCx n1 pCx, .slice oPx n2 pPx] 27)) := blk_below HBv1_1.out bw
  have HNv1v2 : Hid (qv1 ≠ qv2) := fun e => by have h1 := (Array.getElem?_eq_some_iff.1 HBv1_1.out).1; omega
  have HBv2_2 : Hid ((w2).heap[qv2]? = some (.cells #[.slice none 0 0, .slice none 0 0] 27)) := by show _ = _; rw [hW2, ← hz2]; exact heap_alloc_new _ _
  have HGv2 : Hid (w.heap.size ≤ qv2) := by show _ ≤ _; rw [← hz2]; exact hb1.size
  clear hb1 HOCx_1 HOPx_1 HBv1_1 bw hW2 hz2
  clear hs2 hqv2 hs1 hqv1
  have cv1_0 : (w2).cell? ⟨qv1, 0, none⟩ = some (.slice oCx n1 pCx) := (cell_of HBv1_2.out 0).trans rfl
  have cv1_1 : (w2).cell? ⟨qv1, 1, none⟩ = some (.slice oPx n2 pPx) := (cell_of HBv1_2.out 1).trans rfl
  go_wp2_with fail
  refine (specDiskOk_any _ _ n1 cs n2 ws B _ ⟨HOCx_2.out, HOPx_2.out⟩ hn1 hn2).mono ?_
  rintro e w3 ⟨uo, rfl, htuo, bw⟩
  have hb3 : Below w.heap.size w (w3) := hb2.trans (bw.mono hb2.size)
  have HM3 : Hid ((w2).heap.size ≤ (w3).heap.size) := bw.size
  have HOCx_3 : Hid ((w3).ownsRow B 9 1 (.slice oCx n1 pCx) n1 (cs.map Value.string)) := owns_below HOCx_2.out bw (fun g hg => owns_lt HOCx_2.out hg)
  have HOPx_3 : Hid ((w3).ownsRow B 67 2 (.slice oPx n2 pPx) n2 (flatWrite ws)) := owns_below HOPx_2.out bw (fun g hg => owns_lt HOPx_2.out hg)
  have HBv1_3 : Hid ((w3).heap[qv1]? = some (.cells #[.slice oCx n1 pCx, .slice oPx n2 pPx] 27)) := blk_below HBv1_2.out bw
  have HBv2_3 : Hid ((w3).heap[qv2]? = some (.cells #[.slice none 0 0, .slice none 0 0] 27)) := blk_below HBv2_2.out bw
  clear hb2 HOCx_2 HOPx_2 HBv1_2 HBv2_2 bw
  clear cv1_0 cv1_1
  cases uo with
  | false =>
    have HNK : Hid (¬ DiskP cs ws) := fun h => nomatch htuo.2 h
    clear htuo
    have cv2_0 : (w3).cell? ⟨qv2, 0, none⟩ = some (.slice none 0 0) := (cell_of HBv2_3.out 0).trans rfl
    have fcv2_0 : (w3).frozen? ⟨qv2, 0, none⟩ = false := frozen_of HBv2_3.out 0
    have cv2_1 : (w3).cell? ⟨qv2, 1, none⟩ = some (.slice none 0 0) := (cell_of HBv2_3.out 1).trans rfl
    have fcv2_1 : (w3).frozen? ⟨qv2, 1, none⟩ = false := frozen_of HBv2_3.out 1
    go_wp2_with fail
    obtain ⟨w4, hW4⟩ : ∃ W, W = (w3).setCell ⟨qv2, 0, none⟩ (.slice none 0 0) := ⟨_, rfl⟩
    rw [← hW4]
    have hb4 : Below w.heap.size w (w4) := by rw [hW4]; exact (hb3.setCell (p := ⟨qv2, 0, none⟩) HGv2.out _)
    have HM4 : Hid ((w3).heap.size ≤ w4.heap.size) := by show _ ≤ _; rw [hW4]; simp
    have HOCx_4 : Hid ((w4).ownsRow B 9 1 (.slice oCx n1 pCx) n1 (cs.map Value.string)) := by show World.ownsRow _ _ _ _ _ _ _; rw [hW4]; exact owns_same HOCx_3.out (fun g hg => heap_setCell_other _ _ g _ (own_ne HOCx_3.out HBv2_3.out (by decide) g hg))
    have HOPx_4 : Hid ((w4).ownsRow B 67 2 (.slice oPx n2 pPx) n2 (flatWrite ws)) := by show World.ownsRow _ _ _ _ _ _ _; rw [hW4]; exact owns_same HOPx_3.out (fun g hg => heap_setCell_other _ _ g _ (own_ne HOPx_3.out HBv2_3.out (by decide) g hg))
    have HBv1_4 : Hid ((w4).heap[qv1]? = some (.cells #[.slice oCx n1 pCx, .slice oPx n2 pPx] 27)) := by show _ = _; rw [hW4, heap_setCell_other _ _ _ _ HNv1v2.out]; exact HBv1_3.out
    have HBv2_4 : Hid ((w4).heap[qv2]? = some (.cells #[.slice none 0 0, .slice none 0 0] 27)) := by show _ = _; rw [hW4]; have h := heap_set _ _ 0 _ _ _ (.slice none 0 0) HBv2_3.out; simpa using h
    clear hb3 HOCx_3 HOPx_3 HBv1_3 HBv2_3 hW4
    obtain ⟨w5, hW5⟩ : ∃ W, W = (w4).setCell ⟨qv2, 1, none⟩ (.slice none 0 0) := ⟨_, rfl⟩
    rw [← hW5]
    have hb5 : Below w.heap.size w (w5) := by rw [hW5]; exact (hb4.setCell (p := ⟨qv2, 1, none⟩) HGv2.out _)
    have HM5 : Hid ((w4).heap.size ≤ w5.heap.size) := by show _ ≤ _; rw [hW5]; simp
    have HOCx_5 : Hid ((w5).ownsRow B 9 1 (.slice oCx n1 pCx) n1 (cs.map Value.string)) := by show World.ownsRow _ _ _ _ _ _ _; rw [hW5]; exact owns_same HOCx_4.out (fun g hg => heap_setCell_other _ _ g _ (own_ne HOCx_4.out HBv2_4.out (by decide) g hg))
    have HOPx_5 : Hid ((w5).ownsRow B 67 2 (.slice oPx n2 pPx) n2 (flatWrite ws)) := by show World.ownsRow _ _ _ _ _ _ _; rw [hW5]; exact owns_same HOPx_4.out (fun g hg => heap_setCell_other _ _ g _ (own_ne HOPx_4.out HBv2_4.out (by decide) g hg))
    have HBv1_5 : Hid ((w5).heap[qv1]? = some (.cells #[.slice oCx n1 pCx, .slice oPx n2 pPx] 27)) := by show _ = _; rw [hW5, heap_setCell_other _ _ _ _ HNv1v2.out]; exact HBv1_4.out
    have HBv2_5 : Hid ((w5).heap[qv2]? = some (.cells #[.slice none 0 0, .slice none 0 0] 27)) := by show _ = _; rw [hW5]; have h := heap_set _ _ 1 _ _ _ (.slice none 0 0) HBv2_4.out; simpa using h
    clear hb4 HOCx_4 HOPx_4 HBv1_4 HBv2_4 hW5
    have kv2_0 : (w5).cell? ⟨qv2, 0, none⟩ = some (.slice none 0 0) := (cell_of HBv2_5.out 0).trans rfl
    have kv2_1 : (w5).cell? ⟨qv2, 1, none⟩ = some (.slice none 0 0) := (cell_of HBv2_5.out 1).trans rfl
    refine bodyPost_ret (v := .tuple #[.agg #[.slice none 0 0, .slice none 0 0], .bool false]) (by simp [results, Try.results22, go_sem, kv2_0, kv2_1]) rfl ?_
    obtain ⟨e1, e2, e3⟩ := put_no HNK.out x t
    rw [e1, e2, e3]
    exact ⟨_, _, rfl, diskO_nil _ _, hb5⟩
  | true =>
    have HOK : Hid (DiskP cs ws) := htuo.1 rfl
    clear htuo
    have cv1_0 : (w3).cell? ⟨qv1, 0, none⟩ = some (.slice oCx n1 pCx) := (cell_of HBv1_3.out 0).trans rfl
    have cv1_1 : (w3).cell? ⟨qv1, 1, none⟩ = some (.slice oPx n2 pPx) := (cell_of HBv1_3.out 1).trans rfl
    go_wp2_with fail
    refine (l12Copy_any _ _ n1 cs n2 ws B _ ⟨HOCx_3.out, HOPx_3.out⟩ hn1 hn2).mono ?_
    rintro e w4 ⟨vv1, vv2, rfl, ⟨ownC1, ownP1⟩, bw⟩
    rw [HCL.out] at ownC1
    rw [HPL.out] at ownP1
    obtain ⟨oC1, pC1, rfl⟩ := slice_of_owns ownC1
    obtain ⟨oP1, pP1, rfl⟩ := slice_of_owns ownP1
    have hb4 : Below w.heap.size w (w4) := hb3.trans (bw.mono hb3.size)
    have HM4 : Hid ((w3).heap.size ≤ (w4).heap.size) := bw.size
    have HOCx_4 : Hid ((w4).ownsRow B 9 1 (.slice oCx n1 pCx) n1 (cs.map Value.string)) := owns_below HOCx_3.out bw (fun g hg => owns_lt HOCx_3.out hg)
    have HOPx_4 : Hid ((w4).ownsRow B 67 2 (.slice oPx n2 pPx) n2 (flatWrite ws)) := owns_below HOPx_3.out bw (fun g hg => owns_lt HOPx_3.out hg)
    have HBv1_4 : Hid ((w4).heap[qv1]? = some (.cells #[.slice oCx n1 pCx, .slice oPx n2 pPx] 27)) := blk_below HBv1_3.out bw
    have HBv2_4 : Hid ((w4).heap[qv2]? = some (.cells #[.slice none 0 0, .slice none 0 0] 27)) := blk_below HBv2_3.out bw
    have HOC1_4 : Hid ((w4).ownsRow w.heap.size 9 1 (.slice oC1 n1 pC1) n1 (cs.map Value.string)) := owns_wide ownC1 hb3.size
    have LOC1 : Hid (∀ g, (Value.ownBlock (.slice oC1 n1 pC1)) = some g → (w3).heap.size ≤ g) := fun g hg => owns_ge ownC1 hg
    have HIC1 : Hid (∀ g, (Value.ownBlock (.slice oC1 n1 pC1)) = some g → g < (w4).heap.size) := fun g hg => owns_lt ownC1 hg
    clear ownC1
    have HOP1_4 : Hid ((w4).ownsRow w.heap.size 67 2 (.slice oP1 n2 pP1) n2 (flatWrite ws)) := owns_wide ownP1 hb3.size
    have LOP1 : Hid (∀ g, (Value.ownBlock (.slice oP1 n2 pP1)) = some g → (w3).heap.size ≤ g) := fun g hg => owns_ge ownP1 hg
    have HIP1 : Hid (∀ g, (Value.ownBlock (.slice oP1 n2 pP1)) = some g → g < (w4).heap.size) := fun g hg => owns_lt ownP1 hg
    clear ownP1
    clear hb3 HOCx_3 HOPx_3 HBv1_3 HBv2_3 bw
    clear cv1_0 cv1_1
    go_upto_region 4 with fail
    obtain ⟨qv3, hqv3⟩ : ∃ q, q = (w4).heap.size := ⟨_, rfl⟩
    obtain ⟨w5, hW5⟩ : ∃ W, W = (w4).alloc (.cells #[.slice oC1 n1 pC1, .slice oP1 n2 pP1] 27) := ⟨_, rfl⟩
    have hz5 : (w4).heap.size = qv3 := hqv3.symm
    first | rw [← hW5, ← hqv3] | rw [← hW5]
    have hs5 : w5.heap.size = qv3 + 1 := by rw [hW5, ← hz5]; simp
    have bw : Below (w4).heap.size (w4) w5 := by rw [hW5]; exact (Below.refl _ _).alloc (Nat.le_refl _) _
    have hb5 : Below w.heap.size w (w5) := hb4.trans (bw.mono hb4.size)
    have HM5 : Hid ((w4).heap.size ≤ (w5).heap.size) := bw.size
    have HOCx_5 : Hid ((w5).ownsRow B 9 1 (.slice oCx n1 pCx) n1 (cs.map Value.string)) := owns_below HOCx_4.out bw (fun g hg => owns_lt HOCx_4.out hg)
    have HOPx_5 : Hid ((w5).ownsRow B 67 2 (.slice oPx n2 pPx) n2 (flatWrite ws)) := owns_below HOPx_4.out bw (fun g hg => owns_lt HOPx_4.out hg)
    have HOC1_5 : Hid ((w5).ownsRow w.heap.size 9 1 (.slice oC1 n1 pC1) n1 (cs.map Value.string)) := owns_below HOC1_4.out bw (fun g hg => owns_lt HOC1_4.out hg)
    have HOP1_5 : Hid ((w5).ownsRow w.heap.size 67 2 (.slice oP1 n2 pP1) n2 (flatWrite ws)) := owns_below HOP1_4.out bw (fun g hg => owns_lt HOP1_4.out hg)
    have HBv1_5 : Hid ((w5).heap[qv1]? = some (.cells #[.slice oCx n1 pCx, .slice oPx n2 pPx] 27)) := blk_below HBv1_4.out bw
    have HBv2_5 : Hid ((w5).heap[qv2]? = some (.cells #[.slice none 0 0, .slice none 0 0] 27)) := blk_below HBv2_4.out bw
    have HNv1v3 : Hid (qv1 ≠ qv3) := fun e => by have h1 := (Array.getElem?_eq_some_iff.1 HBv1_4.out).1; omega
    have HNv2v3 : Hid (qv2 ≠ qv3) := fun e => by have h1 := (Array.getElem?_eq_some_iff.1 HBv2_4.out).1; omega
    have HBv3_5 : Hid ((w5).heap[qv3]? = some (.cells #[.slice oC1 n1 pC1, .slice oP1 n2 pP1] 27)) := by show _ = _; rw [hW5, ← hz5]; exact heap_alloc_new _ _
    have HGv3 : Hid (w.heap.size ≤ qv3) := by show _ ≤ _; rw [← hz5]; exact hb4.size
    clear hb4 HOCx_4 HOPx_4 HOC1_4 HOP1_4 HBv1_4 HBv2_4 bw hW5 hz5
    clear hs5 hqv3
    by_cases hc1 : (n2 : Int) = 16
    · have hc1b : (((n2 : Int) : Int) == (16 : Int)) = true := by simpa using hc1
      have hc1n : (((n2 : Int) : Int) != (16 : Int)) = false := by simpa using hc1
      have HF : Hid (n2 = 16) := (by have := hc1; show _ = _; omega)
      have hc1H : Hid ((n2 : Int) = 16) := hc1
      clear hc1
      have cv1_1 : (w5).cell? ⟨qv1, 1, none⟩ = some (.slice oPx n2 pPx) := (cell_of HBv1_5.out 1).trans rfl
      have cv2_0 : (w5).cell? ⟨qv2, 0, none⟩ = some (.slice none 0 0) := (cell_of HBv2_5.out 0).trans rfl
      have fcv2_0 : (w5).frozen? ⟨qv2, 0, none⟩ = false := frozen_of HBv2_5.out 0
      have cv2_1 : (w5).cell? ⟨qv2, 1, none⟩ = some (.slice none 0 0) := (cell_of HBv2_5.out 1).trans rfl
      have fcv2_1 : (w5).frozen? ⟨qv2, 1, none⟩ = false := frozen_of HBv2_5.out 1
      have cv3_0 : (w5).cell? ⟨qv3, 0, none⟩ = some (.slice oC1 n1 pC1) := (cell_of HBv3_5.out 0).trans rfl
      have cv3_1 : (w5).cell? ⟨qv3, 1, none⟩ = some (.slice oP1 n2 pP1) := (cell_of HBv3_5.out 1).trans rfl
      go_wp2_with fail
      obtain ⟨w6, hW6⟩ : ∃ W, W = (w5).setCell ⟨qv2, 0, none⟩ (.slice oC1 n1 pC1) := ⟨_, rfl⟩
      rw [← hW6]
      have hb6 : Below w.heap.size w (w6) := by rw [hW6]; exact (hb5.setCell (p := ⟨qv2, 0, none⟩) HGv2.out _)
      have HM6 : Hid ((w5).heap.size ≤ w6.heap.size) := by show _ ≤ _; rw [hW6]; simp
      have HOCx_6 : Hid ((w6).ownsRow B 9 1 (.slice oCx n1 pCx) n1 (cs.map Value.string)) := by show World.ownsRow _ _ _ _ _ _ _; rw [hW6]; exact owns_same HOCx_5.out (fun g hg => heap_setCell_other _ _ g _ (own_ne HOCx_5.out HBv2_5.out (by decide) g hg))
      have HOPx_6 : Hid ((w6).ownsRow B 67 2 (.slice oPx n2 pPx) n2 (flatWrite ws)) := by show World.ownsRow _ _ _ _ _ _ _; rw [hW6]; exact owns_same HOPx_5.out (fun g hg => heap_setCell_other _ _ g _ (own_ne HOPx_5.out HBv2_5.out (by decide) g hg))
      have HOC1_6 : Hid ((w6).ownsRow w.heap.size 9 1 (.slice oC1 n1 pC1) n1 (cs.map Value.string)) := by show World.ownsRow _ _ _ _ _ _ _; rw [hW6]; exact owns_same HOC1_5.out (fun g hg => heap_setCell_other _ _ g _ (own_ne HOC1_5.out HBv2_5.out (by decide) g hg))
      have HOP1_6 : Hid ((w6).ownsRow w.heap.size 67 2 (.slice oP1 n2 pP1) n2 (flatWrite ws)) := by show World.ownsRow _ _ _ _ _ _ _; rw [hW6]; exact owns_same HOP1_5.out (fun g hg => heap_setCell_other _ _ g _ (own_ne HOP1_5.out HBv2_5.out (by decide) g hg))
      have HBv1_6 : Hid ((w6).heap[qv1]? = some (.cells #[.slice oCx n1 pCx, .slice oPx n2 pPx] 27)) := by show _ = _; rw [hW6, heap_setCell_other _ _ _ _ HNv1v2.out]; exact HBv1_5.out
      have HBv3_6 : Hid ((w6).heap[qv3]? = some (.cells #[.slice oC1 n1 pC1, .slice oP1 n2 pP1] 27)) := by show _ = _; rw [hW6, heap_setCell_other _ _ _ _ HNv2v3.out.symm]; exact HBv3_5.out
      have HBv2_6 : Hid ((w6).heap[qv2]? = some (.cells #[.slice oC1 n1 pC1, .slice none 0 0] 27)) := by show _ = _; rw [hW6]; have h := heap_set _ _ 0 _ _ _ (.slice oC1 n1 pC1) HBv2_5.out; simpa using h
      clear hb5 HOCx_5 HOPx_5 HOC1_5 HOP1_5 HBv1_5 HBv2_5 HBv3_5 hW6
      obtain ⟨w7, hW7⟩ : ∃ W, W = (w6).setCell ⟨qv2, 1, none⟩ (.slice oP1 n2 pP1) := ⟨_, rfl⟩
      rw [← hW7]
      have hb7 : Below w.heap.size w (w7) := by rw [hW7]; exact (hb6.setCell (p := ⟨qv2, 1, none⟩) HGv2.out _)
      have HM7 : Hid ((w6).heap.size ≤ w7.heap.size) := by show _ ≤ _; rw [hW7]; simp
      have HOCx_7 : Hid ((w7).ownsRow B 9 1 (.slice oCx n1 pCx) n1 (cs.map Value.string)) := by show World.ownsRow _ _ _ _ _ _ _; rw [hW7]; exact owns_same HOCx_6.out (fun g hg => heap_setCell_other _ _ g _ (own_ne HOCx_6.out HBv2_6.out (by decide) g hg))
      have HOPx_7 : Hid ((w7).ownsRow B 67 2 (.slice oPx n2 pPx) n2 (flatWrite ws)) := by show World.ownsRow _ _ _ _ _ _ _; rw [hW7]; exact owns_same HOPx_6.out (fun g hg => heap_setCell_other _ _ g _ (own_ne HOPx_6.out HBv2_6.out (by decide) g hg))
      have HOC1_7 : Hid ((w7).ownsRow w.heap.size 9 1 (.slice oC1 n1 pC1) n1 (cs.map Value.string)) := by show World.ownsRow _ _ _ _ _ _ _; rw [hW7]; exact owns_same HOC1_6.out (fun g hg => heap_setCell_other _ _ g _ (own_ne HOC1_6.out HBv2_6.out (by decide) g hg))
      have HOP1_7 : Hid ((w7).ownsRow w.heap.size 67 2 (.slice oP1 n2 pP1) n2 (flatWrite ws)) := by show World.ownsRow _ _ _ _ _ _ _; rw [hW7]; exact owns_same HOP1_6.out (fun g hg => heap_setCell_other _ _ g _ (own_ne HOP1_6.out HBv2_6.out (by decide) g hg))
      have HBv1_7 : Hid ((w7).heap[qv1]? = some (.cells #[.slice oCx n1 pCx, .slice oPx n2 pPx] 27)) := by show _ = _; rw [hW7, heap_setCell_other _ _ _ _ HNv1v2.out]; exact HBv1_6.out
      have HBv3_7 : Hid ((w7).heap[qv3]? = some (.cells #[.slice oC1 n1 pC1, .slice oP1 n2 pP1] 27)) := by show _ = _; rw [hW7, heap_setCell_other _ _ _ _ HNv2v3.out.symm]; exact HBv3_6.out
      have HBv2_7 : Hid ((w7).heap[qv2]? = some (.cells #[.slice oC1 n1 pC1, .slice oP1 n2 pP1] 27)) := by show _ = _; rw [hW7]; have h := heap_set _ _ 1 _ _ _ (.slice oP1 n2 pP1) HBv2_6.out; simpa using h
      clear hb6 HOCx_6 HOPx_6 HOC1_6 HOP1_6 HBv1_6 HBv2_6 HBv3_6 hW7
      have kv2_0 : (w7).cell? ⟨qv2, 0, none⟩ = some (.slice oC1 n1 pC1) := (cell_of HBv2_7.out 0).trans rfl
      have kv2_1 : (w7).cell? ⟨qv2, 1, none⟩ = some (.slice oP1 n2 pP1) := (cell_of HBv2_7.out 1).trans rfl
      refine bodyPost_ret (v := .tuple #[.agg #[.slice oC1 n1 pC1, .slice oP1 n2 pP1], .bool false]) (by simp [results, Try.results22, go_sem, kv2_0, kv2_1]) rfl ?_
      obtain ⟨e1, e2, e3⟩ := put_full HOK.out (x := x) (fun h => by have h2 := HF.out; have h3 := HPL.out; omega) t
      rw [e1, e2, e3]
      exact ⟨_, _, rfl, ⟨by rw [HCL.out]; exact HOC1_7.out, by rw [HPL.out]; exact HOP1_7.out⟩, hb7⟩
    · have hc1b : (((n2 : Int) : Int) == (16 : Int)) = false := by simpa using hc1
      have hc1n : (((n2 : Int) : Int) != (16 : Int)) = true := by simpa using hc1
      have HF : Hid (¬ n2 = 16) := (by have := hc1; show ¬ _; omega)
      have hc1H : Hid (¬ ((n2 : Int) = 16)) := hc1
      clear hc1
      have cv1_1 : (w5).cell? ⟨qv1, 1, none⟩ = some (.slice oPx n2 pPx) := (cell_of HBv1_5.out 1).trans rfl
      go_wp2_with fail
      refine (l1In_any x 0 19 _).mono ?_
      rintro e w6 ⟨rfl, hwe⟩
      have bw : Below (w5).heap.size (w5) w6 := by rw [hwe]; exact Below.refl _ _
      clear hwe
      obtain ⟨ui, hui⟩ : ∃ u, u = decide ((0 : Int) ≤ x ∧ x ≤ 19) := ⟨_, rfl⟩
      rw [← hui]
      have hb6 : Below w.heap.size w (w6) := hb5.trans (bw.mono hb5.size)
      have HM6 : Hid ((w5).heap.size ≤ (w6).heap.size) := bw.size
      have HOCx_6 : Hid ((w6).ownsRow B 9 1 (.slice oCx n1 pCx) n1 (cs.map Value.string)) := owns_below HOCx_5.out bw (fun g hg => owns_lt HOCx_5.out hg)
      have HOPx_6 : Hid ((w6).ownsRow B 67 2 (.slice oPx n2 pPx) n2 (flatWrite ws)) := owns_below HOPx_5.out bw (fun g hg => owns_lt HOPx_5.out hg)
      have HOC1_6 : Hid ((w6).ownsRow w.heap.size 9 1 (.slice oC1 n1 pC1) n1 (cs.map Value.string)) := owns_below HOC1_5.out bw (fun g hg => owns_lt HOC1_5.out hg)
      have HOP1_6 : Hid ((w6).ownsRow w.heap.size 67 2 (.slice oP1 n2 pP1) n2 (flatWrite ws)) := owns_below HOP1_5.out bw (fun g hg => owns_lt HOP1_5.out hg)
      have HBv1_6 : Hid ((w6).heap[qv1]? = some (.cells #[.slice oCx n1 pCx, .slice oPx n2 pPx] 27)) := blk_below HBv1_5.out bw
      have HBv2_6 : Hid ((w6).heap[qv2]? = some (.cells #[.slice none 0 0, .slice none 0 0] 27)) := blk_below HBv2_5.out bw
      have HBv3_6 : Hid ((w6).heap[qv3]? = some (.cells #[.slice oC1 n1 pC1, .slice oP1 n2 pP1] 27)) := blk_below HBv3_5.out bw
      clear hb5 HOCx_5 HOPx_5 HOC1_5 HOP1_5 HBv1_5 HBv2_5 HBv3_5 bw
      clear cv1_1
      cases ui with
      | false =>
        have HNI : Hid (¬ (0 ≤ x ∧ x ≤ 19)) := (show ¬ (0 ≤ x ∧ x ≤ 19) from of_decide_eq_false hui.symm)
        clear hui
        have cv2_0 : (w6).cell? ⟨qv2, 0, none⟩ = some (.slice none 0 0) := (cell_of HBv2_6.out 0).trans rfl
        have fcv2_0 : (w6).frozen? ⟨qv2, 0, none⟩ = false := frozen_of HBv2_6.out 0
        have cv2_1 : (w6).cell? ⟨qv2, 1, none⟩ = some (.slice none 0 0) := (cell_of HBv2_6.out 1).trans rfl
        have fcv2_1 : (w6).frozen? ⟨qv2, 1, none⟩ = false := frozen_of HBv2_6.out 1
        have cv3_0 : (w6).cell? ⟨qv3, 0, none⟩ = some (.slice oC1 n1 pC1) := (cell_of HBv3_6.out 0).trans rfl
        have cv3_1 : (w6).cell? ⟨qv3, 1, none⟩ = some (.slice oP1 n2 pP1) := (cell_of HBv3_6.out 1).trans rfl
        go_wp2_with fail
        obtain ⟨w7, hW7⟩ : ∃ W, W = (w6).setCell ⟨qv2, 0, none⟩ (.slice oC1 n1 pC1) := ⟨_, rfl⟩
        rw [← hW7]
        have hb7 : Below w.heap.size w (w7) := by rw [hW7]; exact (hb6.setCell (p := ⟨qv2, 0, none⟩) HGv2.out _)
        have HM7 : Hid ((w6).heap.size ≤ w7.heap.size) := by show _ ≤ _; rw [hW7]; simp
        have HOCx_7 : Hid ((w7).ownsRow B 9 1 (.slice oCx n1 pCx) n1 (cs.map Value.string)) := by show World.ownsRow _ _ _ _ _ _ _; rw [hW7]; exact owns_same HOCx_6.out (fun g hg => heap_setCell_other _ _ g _ (own_ne HOCx_6.out HBv2_6.out (by decide) g hg))
        have HOPx_7 : Hid ((w7).ownsRow B 67 2 (.slice oPx n2 pPx) n2 (flatWrite ws)) := by show World.ownsRow _ _ _ _ _ _ _; rw [hW7]; exact owns_same HOPx_6.out (fun g hg => heap_setCell_other _ _ g _ (own_ne HOPx_6.out HBv2_6.out (by decide) g hg))
        have HOC1_7 : Hid ((w7).ownsRow w.heap.size 9 1 (.slice oC1 n1 pC1) n1 (cs.map Value.string)) := by show World.ownsRow _ _ _ _ _ _ _; rw [hW7]; exact owns_same HOC1_6.out (fun g hg => heap_setCell_other _ _ g _ (own_ne HOC1_6.out HBv2_6.out (by decide) g hg))
        have HOP1_7 : Hid ((w7).ownsRow w.heap.size 67 2 (.slice oP1 n2 pP1) n2 (flatWrite ws)) := by show World.ownsRow _ _ _ _ _ _ _; rw [hW7]; exact owns_same HOP1_6.out (fun g hg => heap_setCell_other _ _ g _ (own_ne HOP1_6.out HBv2_6.out (by decide) g hg))
        have HBv1_7 : Hid ((w7).heap[qv1]? = some (.cells #[.slice oCx n1 pCx, .slice oPx n2 pPx] 27)) := by show _ = _; rw [hW7, heap_setCell_other _ _ _ _ HNv1v2.out]; exact HBv1_6.out
        have HBv3_7 : Hid ((w7).heap[qv3]? = some (.cells #[.slice oC1 n1 pC1, .slice oP1 n2 pP1] 27)) := by show _ = _; rw [hW7, heap_setCell_other _ _ _ _ HNv2v3.out.symm]; exact HBv3_6.out
        have HBv2_7 : Hid ((w7).heap[qv2]? = some (.cells #[.slice oC1 n1 pC1, .slice none 0 0] 27)) := by show _ = _; rw [hW7]; have h := heap_set _ _ 0 _ _ _ (.slice oC1 n1 pC1) HBv2_6.out; simpa using h
        clear hb6 HOCx_6 HOPx_6 HOC1_6 HOP1_6 HBv1_6 HBv2_6 HBv3_6 hW7
        obtain ⟨w8, hW8⟩ : ∃ W, W = (w7).setCell ⟨qv2, 1, none⟩ (.slice oP1 n2 pP1) := ⟨_, rfl⟩
        rw [← hW8]
        have hb8 : Below w.heap.size w (w8) := by rw [hW8]; exact (hb7.setCell (p := ⟨qv2, 1, none⟩) HGv2.out _)
        have HM8 : Hid ((w7).heap.size ≤ w8.heap.size) := by show _ ≤ _; rw [hW8]; simp
        have HOCx_8 : Hid ((w8).ownsRow B 9 1 (.slice oCx n1 pCx) n1 (cs.map Value.string)) := by show World.ownsRow _ _ _ _ _ _ _; rw [hW8]; exact owns_same HOCx_7.out (fun g hg => heap_setCell_other _ _ g _ (own_ne HOCx_7.out HBv2_7.out (by decide) g hg))
        have HOPx_8 : Hid ((w8).ownsRow B 67 2 (.slice oPx n2 pPx) n2 (flatWrite ws)) := by show World.ownsRow _ _ _ _ _ _ _; rw [hW8]; exact owns_same HOPx_7.out (fun g hg => heap_setCell_other _ _ g _ (own_ne HOPx_7.out HBv2_7.out (by decide) g hg))
        have HOC1_8 : Hid ((w8).ownsRow w.heap.size 9 1 (.slice oC1 n1 pC1) n1 (cs.map Value.string)) := by show World.ownsRow _ _ _ _ _ _ _; rw [hW8]; exact owns_same HOC1_7.out (fun g hg => heap_setCell_other _ _ g _ (own_ne HOC1_7.out HBv2_7.out (by decide) g hg))
        have HOP1_8 : Hid ((w8).ownsRow w.heap.size 67 2 (.slice oP1 n2 pP1) n2 (flatWrite ws)) := by show World.ownsRow _ _ _ _ _ _ _; rw [hW8]; exact owns_same HOP1_7.out (fun g hg => heap_setCell_other _ _ g _ (own_ne HOP1_7.out HBv2_7.out (by decide) g hg))
        have HBv1_8 : Hid ((w8).heap[qv1]? = some (.cells #[.slice oCx n1 pCx, .slice oPx n2 pPx] 27)) := by show _ = _; rw [hW8, heap_setCell_other _ _ _ _ HNv1v2.out]; exact HBv1_7.out
        have HBv3_8 : Hid ((w8).heap[qv3]? = some (.cells #[.slice oC1 n1 pC1, .slice oP1 n2 pP1] 27)) := by show _ = _; rw [hW8, heap_setCell_other _ _ _ _ HNv2v3.out.symm]; exact HBv3_7.out
        have HBv2_8 : Hid ((w8).heap[qv2]? = some (.cells #[.slice oC1 n1 pC1, .slice oP1 n2 pP1] 27)) := by show _ = _; rw [hW8]; have h := heap_set _ _ 1 _ _ _ (.slice oP1 n2 pP1) HBv2_7.out; simpa using h
        clear hb7 HOCx_7 HOPx_7 HOC1_7 HOP1_7 HBv1_7 HBv2_7 HBv3_7 hW8
        have kv2_0 : (w8).cell? ⟨qv2, 0, none⟩ = some (.slice oC1 n1 pC1) := (cell_of HBv2_8.out 0).trans rfl
        have kv2_1 : (w8).cell? ⟨qv2, 1, none⟩ = some (.slice oP1 n2 pP1) := (cell_of HBv2_8.out 1).trans rfl
        refine bodyPost_ret (v := .tuple #[.agg #[.slice oC1 n1 pC1, .slice oP1 n2 pP1], .bool false]) (by simp [results, Try.results22, go_sem, kv2_0, kv2_1]) rfl ?_
        obtain ⟨e1, e2, e3⟩ := put_full HOK.out (x := x) (fun h => HNI.out h.2) t
        rw [e1, e2, e3]
        exact ⟨_, _, rfl, ⟨by rw [HCL.out]; exact HOC1_8.out, by rw [HPL.out]; exact HOP1_8.out⟩, hb8⟩
      | true =>
        have HIN : Hid (0 ≤ x ∧ x ≤ 19) := (show (0 ≤ x ∧ x ≤ 19) from of_decide_eq_true hui.symm)
        clear hui
        have cv3_1 : (w6).cell? ⟨qv3, 1, none⟩ = some (.slice oP1 n2 pP1) := (cell_of HBv3_6.out 1).trans rfl
        have hown := HOP1_6.out
        have h63 : n2 + 1 ≤ maxLen := by unfold maxLen; omega
        have h47 : (n2 + 1) * 24 ≤ 140737488355328 := by omega
        have HBS : ∀ o, w.heap.size ≤ (w6.alloc o).heap.size := fun o => by have := hb6.size; simp; omega
        go_wp2_with (at_builtin; refine wpList_append_own _ rfl _ _ 25 rfl w.heap.size 67 i0w (.agg #[.int .i64 0, .string ⟨#[]⟩]) 2 24 Try.underlying25 hiw hz0w hz1w hz2w rfl (by decide) _ _ _ rfl (hown.alloc _) ⟨w6.heap.size, 0, none⟩ 1 1 [.int .i64 x, .string t] rfl rfl (cell_two_new _ _ _ _) (by intro u hu; simp at hu; rcases hu with rfl | rfl <;> rfl) h63 h47 (HBS _) ?_)
        intro v1 w7 hown2 hgrow _
        have bA : Below w6.heap.size w6 (w6.alloc (.cells #[.int .i64 x, .string t] 67)) := (Below.refl _ _).alloc (Nat.le_refl _) _
        have rowGe : ∀ g, (.slice oP1 n2 pP1 : Value).ownBlock = some g → w.heap.size ≤ g := fun g hg => owns_ge hown hg
        clear cv3_1
        have hb7 : Below w.heap.size w (w7) := (hb6.trans (bA.mono hb6.size)).grown hgrow (HBS _) rowGe
        have HM7 : Hid ((w6).heap.size ≤ w7.heap.size) := Nat.le_trans bA.size hgrow.size
        have HOCx_7 : Hid ((w7).ownsRow B 9 1 (.slice oCx n1 pCx) n1 (cs.map Value.string)) := owns_same HOCx_6.out (fun g hg => (hgrow.block g (Nat.lt_of_lt_of_le (owns_lt HOCx_6.out hg) bA.size) (fun e => (own_type_ne HOCx_6.out HOP1_6.out (by decide) g hg) e.symm)).trans (bA.block g (owns_lt HOCx_6.out hg)))
        have HOPx_7 : Hid ((w7).ownsRow B 67 2 (.slice oPx n2 pPx) n2 (flatWrite ws)) := owns_same HOPx_6.out (fun g hg => (hgrow.block g (Nat.lt_of_lt_of_le (owns_lt HOPx_6.out hg) bA.size) (fun e => (fun e => by have h1 := LOP1.out g e; have h2 := HIPx.out g hg; have := HM1.out; have := HM2.out; have := HM3.out; have := HM4.out; omega) e.symm)).trans (bA.block g (owns_lt HOPx_6.out hg)))
        have HOC1_7 : Hid ((w7).ownsRow w.heap.size 9 1 (.slice oC1 n1 pC1) n1 (cs.map Value.string)) := owns_same HOC1_6.out (fun g hg => (hgrow.block g (Nat.lt_of_lt_of_le (owns_lt HOC1_6.out hg) bA.size) (fun e => (own_type_ne HOC1_6.out HOP1_6.out (by decide) g hg) e.symm)).trans (bA.block g (owns_lt HOC1_6.out hg)))
        have HBv1_7 : Hid ((w7).heap[qv1]? = some (.cells #[.slice oCx n1 pCx, .slice oPx n2 pPx] 27)) := (hgrow.block _ (Nat.lt_of_lt_of_le (Array.getElem?_eq_some_iff.1 HBv1_6.out).1 bA.size) (fun e => own_ne hown HBv1_6.out (by decide) _ e.symm rfl)).trans (blk_below HBv1_6.out bA)
        have HBv2_7 : Hid ((w7).heap[qv2]? = some (.cells #[.slice none 0 0, .slice none 0 0] 27)) := (hgrow.block _ (Nat.lt_of_lt_of_le (Array.getElem?_eq_some_iff.1 HBv2_6.out).1 bA.size) (fun e => own_ne hown HBv2_6.out (by decide) _ e.symm rfl)).trans (blk_below HBv2_6.out bA)
        have HBv3_7 : Hid ((w7).heap[qv3]? = some (.cells #[.slice oC1 n1 pC1, .slice oP1 n2 pP1] 27)) := (hgrow.block _ (Nat.lt_of_lt_of_le (Array.getElem?_eq_some_iff.1 HBv3_6.out).1 bA.size) (fun e => own_ne hown HBv3_6.out (by decide) _ e.symm rfl)).trans (blk_below HBv3_6.out bA)
        obtain ⟨oP1p, pP1p, rfl⟩ := slice_of_owns hown2
        have HOP1p_7 : Hid ((w7).ownsRow w.heap.size 67 2 (.slice oP1p (n2 + 1) pP1p) (n2 + 1) ((flatWrite ws) ++ [.int .i64 x, .string t])) := hown2
        clear hb6 HOCx_6 HOPx_6 HOC1_6 HOP1_6 HBv1_6 HBv2_6 HBv3_6 hown h63 h47 HBS hown2 hgrow bA rowGe
        have cv3_1 : (w7).cell? ⟨qv3, 1, none⟩ = some (.slice oP1 n2 pP1) := (cell_of HBv3_7.out 1).trans rfl
        have fcv3_1 : (w7).frozen? ⟨qv3, 1, none⟩ = false := frozen_of HBv3_7.out 1
        go_upto_region 7 with fail
        obtain ⟨w8, hW8⟩ : ∃ W, W = (w7).setCell ⟨qv3, 1, none⟩ (.slice oP1p (n2 + 1) pP1p) := ⟨_, rfl⟩
        rw [← hW8]
        have hb8 : Below w.heap.size w (w8) := by rw [hW8]; exact (hb7.setCell (p := ⟨qv3, 1, none⟩) HGv3.out _)
        have HM8 : Hid ((w7).heap.size ≤ w8.heap.size) := by show _ ≤ _; rw [hW8]; simp
        have HOCx_8 : Hid ((w8).ownsRow B 9 1 (.slice oCx n1 pCx) n1 (cs.map Value.string)) := by show World.ownsRow _ _ _ _ _ _ _; rw [hW8]; exact owns_same HOCx_7.out (fun g hg => heap_setCell_other _ _ g _ (own_ne HOCx_7.out HBv3_7.out (by decide) g hg))
        have HOPx_8 : Hid ((w8).ownsRow B 67 2 (.slice oPx n2 pPx) n2 (flatWrite ws)) := by show World.ownsRow _ _ _ _ _ _ _; rw [hW8]; exact owns_same HOPx_7.out (fun g hg => heap_setCell_other _ _ g _ (own_ne HOPx_7.out HBv3_7.out (by decide) g hg))
        have HOC1_8 : Hid ((w8).ownsRow w.heap.size 9 1 (.slice oC1 n1 pC1) n1 (cs.map Value.string)) := by show World.ownsRow _ _ _ _ _ _ _; rw [hW8]; exact owns_same HOC1_7.out (fun g hg => heap_setCell_other _ _ g _ (own_ne HOC1_7.out HBv3_7.out (by decide) g hg))
        have HOP1p_8 : Hid ((w8).ownsRow w.heap.size 67 2 (.slice oP1p (n2 + 1) pP1p) (n2 + 1) ((flatWrite ws) ++ [.int .i64 x, .string t])) := by show World.ownsRow _ _ _ _ _ _ _; rw [hW8]; exact owns_same HOP1p_7.out (fun g hg => heap_setCell_other _ _ g _ (own_ne HOP1p_7.out HBv3_7.out (by decide) g hg))
        have HBv1_8 : Hid ((w8).heap[qv1]? = some (.cells #[.slice oCx n1 pCx, .slice oPx n2 pPx] 27)) := by show _ = _; rw [hW8, heap_setCell_other _ _ _ _ HNv1v3.out]; exact HBv1_7.out
        have HBv2_8 : Hid ((w8).heap[qv2]? = some (.cells #[.slice none 0 0, .slice none 0 0] 27)) := by show _ = _; rw [hW8, heap_setCell_other _ _ _ _ HNv2v3.out]; exact HBv2_7.out
        have HBv3_8 : Hid ((w8).heap[qv3]? = some (.cells #[.slice oC1 n1 pC1, .slice oP1p (n2 + 1) pP1p] 27)) := by show _ = _; rw [hW8]; have h := heap_set _ _ 1 _ _ _ (.slice oP1p (n2 + 1) pP1p) HBv3_7.out; simpa using h
        clear hb7 HOCx_7 HOPx_7 HOC1_7 HOP1p_7 HBv1_7 HBv2_7 HBv3_7 hW8
        clear cv3_1 fcv3_1
        have cv2_0 : (w8).cell? ⟨qv2, 0, none⟩ = some (.slice none 0 0) := (cell_of HBv2_8.out 0).trans rfl
        have fcv2_0 : (w8).frozen? ⟨qv2, 0, none⟩ = false := frozen_of HBv2_8.out 0
        have cv2_1 : (w8).cell? ⟨qv2, 1, none⟩ = some (.slice none 0 0) := (cell_of HBv2_8.out 1).trans rfl
        have fcv2_1 : (w8).frozen? ⟨qv2, 1, none⟩ = false := frozen_of HBv2_8.out 1
        have cv3_0 : (w8).cell? ⟨qv3, 0, none⟩ = some (.slice oC1 n1 pC1) := (cell_of HBv3_8.out 0).trans rfl
        have cv3_1 : (w8).cell? ⟨qv3, 1, none⟩ = some (.slice oP1p (n2 + 1) pP1p) := (cell_of HBv3_8.out 1).trans rfl
        go_wp2_with fail
        obtain ⟨w9, hW9⟩ : ∃ W, W = (w8).setCell ⟨qv2, 0, none⟩ (.slice oC1 n1 pC1) := ⟨_, rfl⟩
        rw [← hW9]
        have hb9 : Below w.heap.size w (w9) := by rw [hW9]; exact (hb8.setCell (p := ⟨qv2, 0, none⟩) HGv2.out _)
        have HM9 : Hid ((w8).heap.size ≤ w9.heap.size) := by show _ ≤ _; rw [hW9]; simp
        have HOCx_9 : Hid ((w9).ownsRow B 9 1 (.slice oCx n1 pCx) n1 (cs.map Value.string)) := by show World.ownsRow _ _ _ _ _ _ _; rw [hW9]; exact owns_same HOCx_8.out (fun g hg => heap_setCell_other _ _ g _ (own_ne HOCx_8.out HBv2_8.out (by decide) g hg))
        have HOPx_9 : Hid ((w9).ownsRow B 67 2 (.slice oPx n2 pPx) n2 (flatWrite ws)) := by show World.ownsRow _ _ _ _ _ _ _; rw [hW9]; exact owns_same HOPx_8.out (fun g hg => heap_setCell_other _ _ g _ (own_ne HOPx_8.out HBv2_8.out (by decide) g hg))
        have HOC1_9 : Hid ((w9).ownsRow w.heap.size 9 1 (.slice oC1 n1 pC1) n1 (cs.map Value.string)) := by show World.ownsRow _ _ _ _ _ _ _; rw [hW9]; exact owns_same HOC1_8.out (fun g hg => heap_setCell_other _ _ g _ (own_ne HOC1_8.out HBv2_8.out (by decide) g hg))
        have HOP1p_9 : Hid ((w9).ownsRow w.heap.size 67 2 (.slice oP1p (n2 + 1) pP1p) (n2 + 1) ((flatWrite ws) ++ [.int .i64 x, .string t])) := by show World.ownsRow _ _ _ _ _ _ _; rw [hW9]; exact owns_same HOP1p_8.out (fun g hg => heap_setCell_other _ _ g _ (own_ne HOP1p_8.out HBv2_8.out (by decide) g hg))
        have HBv1_9 : Hid ((w9).heap[qv1]? = some (.cells #[.slice oCx n1 pCx, .slice oPx n2 pPx] 27)) := by show _ = _; rw [hW9, heap_setCell_other _ _ _ _ HNv1v2.out]; exact HBv1_8.out
        have HBv3_9 : Hid ((w9).heap[qv3]? = some (.cells #[.slice oC1 n1 pC1, .slice oP1p (n2 + 1) pP1p] 27)) := by show _ = _; rw [hW9, heap_setCell_other _ _ _ _ HNv2v3.out.symm]; exact HBv3_8.out
        have HBv2_9 : Hid ((w9).heap[qv2]? = some (.cells #[.slice oC1 n1 pC1, .slice none 0 0] 27)) := by show _ = _; rw [hW9]; have h := heap_set _ _ 0 _ _ _ (.slice oC1 n1 pC1) HBv2_8.out; simpa using h
        clear hb8 HOCx_8 HOPx_8 HOC1_8 HOP1p_8 HBv1_8 HBv2_8 HBv3_8 hW9
        obtain ⟨w10, hW10⟩ : ∃ W, W = (w9).setCell ⟨qv2, 1, none⟩ (.slice oP1p (n2 + 1) pP1p) := ⟨_, rfl⟩
        rw [← hW10]
        have hb10 : Below w.heap.size w (w10) := by rw [hW10]; exact (hb9.setCell (p := ⟨qv2, 1, none⟩) HGv2.out _)
        have HM10 : Hid ((w9).heap.size ≤ w10.heap.size) := by show _ ≤ _; rw [hW10]; simp
        have HOCx_10 : Hid ((w10).ownsRow B 9 1 (.slice oCx n1 pCx) n1 (cs.map Value.string)) := by show World.ownsRow _ _ _ _ _ _ _; rw [hW10]; exact owns_same HOCx_9.out (fun g hg => heap_setCell_other _ _ g _ (own_ne HOCx_9.out HBv2_9.out (by decide) g hg))
        have HOPx_10 : Hid ((w10).ownsRow B 67 2 (.slice oPx n2 pPx) n2 (flatWrite ws)) := by show World.ownsRow _ _ _ _ _ _ _; rw [hW10]; exact owns_same HOPx_9.out (fun g hg => heap_setCell_other _ _ g _ (own_ne HOPx_9.out HBv2_9.out (by decide) g hg))
        have HOC1_10 : Hid ((w10).ownsRow w.heap.size 9 1 (.slice oC1 n1 pC1) n1 (cs.map Value.string)) := by show World.ownsRow _ _ _ _ _ _ _; rw [hW10]; exact owns_same HOC1_9.out (fun g hg => heap_setCell_other _ _ g _ (own_ne HOC1_9.out HBv2_9.out (by decide) g hg))
        have HOP1p_10 : Hid ((w10).ownsRow w.heap.size 67 2 (.slice oP1p (n2 + 1) pP1p) (n2 + 1) ((flatWrite ws) ++ [.int .i64 x, .string t])) := by show World.ownsRow _ _ _ _ _ _ _; rw [hW10]; exact owns_same HOP1p_9.out (fun g hg => heap_setCell_other _ _ g _ (own_ne HOP1p_9.out HBv2_9.out (by decide) g hg))
        have HBv1_10 : Hid ((w10).heap[qv1]? = some (.cells #[.slice oCx n1 pCx, .slice oPx n2 pPx] 27)) := by show _ = _; rw [hW10, heap_setCell_other _ _ _ _ HNv1v2.out]; exact HBv1_9.out
        have HBv3_10 : Hid ((w10).heap[qv3]? = some (.cells #[.slice oC1 n1 pC1, .slice oP1p (n2 + 1) pP1p] 27)) := by show _ = _; rw [hW10, heap_setCell_other _ _ _ _ HNv2v3.out.symm]; exact HBv3_9.out
        have HBv2_10 : Hid ((w10).heap[qv2]? = some (.cells #[.slice oC1 n1 pC1, .slice oP1p (n2 + 1) pP1p] 27)) := by show _ = _; rw [hW10]; have h := heap_set _ _ 1 _ _ _ (.slice oP1p (n2 + 1) pP1p) HBv2_9.out; simpa using h
        clear hb9 HOCx_9 HOPx_9 HOC1_9 HOP1p_9 HBv1_9 HBv2_9 HBv3_9 hW10
        have kv2_0 : (w10).cell? ⟨qv2, 0, none⟩ = some (.slice oC1 n1 pC1) := (cell_of HBv2_10.out 0).trans rfl
        have kv2_1 : (w10).cell? ⟨qv2, 1, none⟩ = some (.slice oP1p (n2 + 1) pP1p) := (cell_of HBv2_10.out 1).trans rfl
        refine bodyPost_ret (v := .tuple #[.agg #[.slice oC1 n1 pC1, .slice oP1p (n2 + 1) pP1p], .bool true]) (by simp [results, Try.results22, go_sem, kv2_0, kv2_1]) rfl ?_
        obtain ⟨e1, e2, e3⟩ := put_yes HOK.out (by have h1 := HOK.out.2.1; have h2 := HF.out; have h3 := HPL.out; omega) HIN.out t
        rw [e1, e2, e3]
        exact ⟨_, _, rfl, ⟨by rw [HCL.out]; exact HOC1_10.out, by rw [List.length_append, HPL.out, flatWrite_append, flatWrite_one]; exact HOP1p_10.out⟩, hb10⟩

set_option maxHeartbeats 8000000 in
set_option maxRecDepth 100000 in
theorem specDiskGet_any (v1 v2 : Value) (n1 : Nat) (cs : List ByteArray) (n2 : Nat) (ws : List (Int × ByteArray)) (B : Nat) (w : World) (h : DiskO w B v1 n1 cs v2 n2 ws) (hn1 : n1 ≤ 2000000) (hn2 : n2 ≤ 2000000) (x : Int) :
    Calls Try.prog 24 #[.agg #[v1, v2], .int .i64 x] w fun e w' => TextIs (getD' cs ws x) w e w' := by
  obtain ⟨oCx, pCx, rfl⟩ := slice_of_owns h.cells
  have HOCx_0 : Hid ((w).ownsRow B 9 1 (.slice oCx n1 pCx) n1 (cs.map Value.string)) := h.cells
  have HICx : Hid (∀ g, (Value.ownBlock (.slice oCx n1 pCx)) = some g → g < w.heap.size) := fun g hg => owns_lt h.cells hg
  obtain ⟨oPx, pPx, rfl⟩ := slice_of_owns h.pend
  have HOPx_0 : Hid ((w).ownsRow B 67 2 (.slice oPx n2 pPx) n2 (flatWrite ws)) := h.pend
  have HIPx : Hid (∀ g, (Value.ownBlock (.slice oPx n2 pPx)) = some g → g < w.heap.size) := fun g hg => owns_lt h.pend hg
  have HCL : Hid (cs.length = n1) := by have := h.cells.1; rw [List.length_map] at this; show _ = _; omega
  have HPL : Hid (ws.length = n2) := write_len h.pend
  clear h
  have hb0 : Below w.heap.size w w := Below.refl _ _
  go_enter Try.func24, Try.ntmps24
  go_upto_region 1 with fail
  obtain ⟨qv1, hqv1⟩ : ∃ q, q = (w).heap.size := ⟨_, rfl⟩
  obtain ⟨w1, hW1⟩ : ∃ W, W = (w).alloc (.cells #[.slice oCx n1 pCx, .slice oPx n2 pPx] 27) := ⟨_, rfl⟩
  have hz1 : (w).heap.size = qv1 := hqv1.symm
  first | rw [← hW1, ← hqv1] | rw [← hW1]
  have hs1 : w1.heap.size = qv1 + 1 := by rw [hW1, ← hz1]; simp
  have bw : Below (w).heap.size (w) w1 := by rw [hW1]; exact (Below.refl _ _).alloc (Nat.le_refl _) _
  have hb1 : Below w.heap.size w (w1) := hb0.trans (bw.mono hb0.size)
  have HM1 : Hid ((w).heap.size ≤ (w1).heap.size) := bw.size
  have HOCx_1 : Hid ((w1).ownsRow B 9 1 (.slice oCx n1 pCx) n1 (cs.map Value.string)) := owns_below HOCx_0.out bw (fun g hg => owns_lt HOCx_0.out hg)
  have HOPx_1 : Hid ((w1).ownsRow B 67 2 (.slice oPx n2 pPx) n2 (flatWrite ws)) := owns_below HOPx_0.out bw (fun g hg => owns_lt HOPx_0.out hg)
  have HBv1_1 : Hid ((w1).heap[qv1]? = some (.cells #[.slice oCx n1 pCx, .slice oPx n2 pPx] 27)) := by show _ = _; rw [hW1, ← hz1]; exact heap_alloc_new _ _
  have HGv1 : Hid (w.heap.size ≤ qv1) := by show _ ≤ _; rw [← hz1]; exact hb0.size
  clear hb0 HOCx_0 HOPx_0 bw hW1 hz1
  clear hs1 hqv1
  have cv1_0 : (w1).cell? ⟨qv1, 0, none⟩ = some (.slice oCx n1 pCx) := (cell_of HBv1_1.out 0).trans rfl
  have cv1_1 : (w1).cell? ⟨qv1, 1, none⟩ = some (.slice oPx n2 pPx) := (cell_of HBv1_1.out 1).trans rfl
  go_wp2_with fail
  refine (specDiskOk_any _ _ n1 cs n2 ws B _ ⟨HOCx_1.out, HOPx_1.out⟩ hn1 hn2).mono ?_
  rintro e w2 ⟨uo, rfl, htuo, bw⟩
  have hb2 : Below w.heap.size w (w2) := hb1.trans (bw.mono hb1.size)
  have HM2 : Hid ((w1).heap.size ≤ (w2).heap.size) := bw.size
  have HOCx_2 : Hid ((w2).ownsRow B 9 1 (.slice oCx n1 pCx) n1 (cs.map Value.string)) := owns_below HOCx_1.out bw (fun g hg => owns_lt HOCx_1.out hg)
  have HOPx_2 : Hid ((w2).ownsRow B 67 2 (.slice oPx n2 pPx) n2 (flatWrite ws)) := owns_below HOPx_1.out bw (fun g hg => owns_lt HOPx_1.out hg)
  have HBv1_2 : Hid ((w2).heap[qv1]? = some (.cells #[.slice oCx n1 pCx, .slice oPx n2 pPx] 27)) := blk_below HBv1_1.out bw
  clear hb1 HOCx_1 HOPx_1 HBv1_1 bw
  clear cv1_0 cv1_1
  cases uo with
  | false =>
    have HNK : Hid (¬ DiskP cs ws) := fun h => nomatch htuo.2 h
    clear htuo
    go_wp2_with fail
    go_ret
    exact ⟨by rw [get_no (fun h => HNK.out h.1)]; rfl, hb2⟩
  | true =>
    have HOK : Hid (DiskP cs ws) := htuo.1 rfl
    clear htuo
    go_wp2_with fail
    refine (l1In_any x 0 19 _).mono ?_
    rintro e w3 ⟨rfl, hwe⟩
    have bw : Below (w2).heap.size (w2) w3 := by rw [hwe]; exact Below.refl _ _
    clear hwe
    obtain ⟨ui, hui⟩ : ∃ u, u = decide ((0 : Int) ≤ x ∧ x ≤ 19) := ⟨_, rfl⟩
    rw [← hui]
    have hb3 : Below w.heap.size w (w3) := hb2.trans (bw.mono hb2.size)
    have HM3 : Hid ((w2).heap.size ≤ (w3).heap.size) := bw.size
    have HOCx_3 : Hid ((w3).ownsRow B 9 1 (.slice oCx n1 pCx) n1 (cs.map Value.string)) := owns_below HOCx_2.out bw (fun g hg => owns_lt HOCx_2.out hg)
    have HOPx_3 : Hid ((w3).ownsRow B 67 2 (.slice oPx n2 pPx) n2 (flatWrite ws)) := owns_below HOPx_2.out bw (fun g hg => owns_lt HOPx_2.out hg)
    have HBv1_3 : Hid ((w3).heap[qv1]? = some (.cells #[.slice oCx n1 pCx, .slice oPx n2 pPx] 27)) := blk_below HBv1_2.out bw
    clear hb2 HOCx_2 HOPx_2 HBv1_2 bw
    cases ui with
    | false =>
      have HNI : Hid (¬ (0 ≤ x ∧ x ≤ 19)) := (show ¬ (0 ≤ x ∧ x ≤ 19) from of_decide_eq_false hui.symm)
      clear hui
      go_wp2_with fail
      go_ret
      exact ⟨by rw [get_no (fun h => HNI.out h.2)]; rfl, hb3⟩
    | true =>
      have HIN : Hid (0 ≤ x ∧ x ≤ 19) := (show (0 ≤ x ∧ x ≤ 19) from of_decide_eq_true hui.symm)
      clear hui
      obtain ⟨m, hm⟩ : ∃ m : Nat, x = (m : Int) := ⟨x.toNat, by have := HIN.out; omega⟩
      subst hm
      have hm19 : m ≤ 19 := by have := HIN.out; omega
      have HMZ : Hid (m ≤ 19) := hm19
      have hlen : n1 = 20 := by rw [← HCL.out]; exact HOK.out.1
      obtain ⟨gC, rfl⟩ := owns_some HOCx_3.out (by omega)
      obtain ⟨rc, _⟩ := owns_at HOCx_3.out m (.string (textAt cs m)) (by rw [List.getElem?_map, getElem_textAt cs m (by rw [HCL.out]; omega)]; rfl)
      obtain ⟨zt, hzt⟩ : ∃ z, z = getTo cs ws m 0 := ⟨_, rfl⟩
      have HZT : Hid (zt = getTo cs ws m 0) := hzt
      rw [show textAt cs m = zt from hzt.symm] at rc
      have hmn : (m : Int) < (n1 : Int) := by omega
      clear hzt hlen
      have cv1_0 : (w3).cell? ⟨qv1, 0, none⟩ = some (.slice (some ⟨gC, 0, none⟩) n1 pCx) := (cell_of HBv1_3.out 0).trans rfl
      go_wp2_with fail
      clear rc cv1_0
      clear hmn
      go_loopw [5, 6] (fun o i wr => ∃ (j : Nat) (z : ByteArray), j ≤ n2 ∧ i = .int .i64 (j : Int) ∧ o = .string z ∧ Hid (Below w.heap.size w (wr) ∧ (wr).heap[qv1]? = some (.cells #[.slice (some ⟨gC, 0, none⟩) n1 pCx, .slice oPx n2 pPx] 27) ∧ (wr).ownsRow B 9 1 (.slice (some ⟨gC, 0, none⟩) n1 pCx) n1 (cs.map Value.string) ∧ (wr).ownsRow B 67 2 (.slice oPx n2 pPx) n2 (flatWrite ws)) ∧ Hid (z = getTo cs ws m j)) (fun _ i _ => n2 - (intOf i).toNat)
      case atStart => exact ⟨0, zt, Nat.zero_le _, rfl, rfl, ⟨hb3, HBv1_3.out, HOCx_3.out, HOPx_3.out⟩, HZT⟩
      case round =>
        obtain ⟨j, z, hj, rfl, rfl, HW, HN⟩ := hrel
        by_cases hlt : (j : Int) < (n2 : Int)
        · have hb4 := HW.out.1
          have HBv1_4 : Hid ((wr).heap[qv1]? = some (.cells #[.slice (some ⟨gC, 0, none⟩) n1 pCx, .slice oPx n2 pPx] 27)) := HW.out.2.1
          have HOCx_4 : Hid ((wr).ownsRow B 9 1 (.slice (some ⟨gC, 0, none⟩) n1 pCx) n1 (cs.map Value.string)) := HW.out.2.2.1
          have HOPx_4 : Hid ((wr).ownsRow B 67 2 (.slice oPx n2 pPx) n2 (flatWrite ws)) := HW.out.2.2.2
          clear HW hb3 HOCx_3 HOPx_3 HBv1_3
          have hjx : j < ws.length := by rw [HPL.out]; omega
          obtain ⟨g, rfl⟩ := owns_some HOPx_4.out (by omega)
          obtain ⟨y, hy⟩ : ∃ y, y = writeAt ws j := ⟨_, rfl⟩
          have HM : Hid (y ∈ ws) := by show _ ∈ _; rw [hy]; exact writeAt_mem ws j hjx
          have HTK : Hid (ws.take (j + 1) = ws.take j ++ [y]) := by show _ = _; rw [hy]; exact take_writeAt ws j hjx
          have HYE : Hid (writeAt ws j = y) := hy.symm
          clear hy hjx
          obtain ⟨y0, y1⟩ := y
          have HELPx : Hid (∀ W : World, (W).ownsRow B 67 2 (.slice (some ⟨g, 0, none⟩) n2 pPx) n2 (flatWrite ws) → (W.cell? ⟨g, j * 2, none⟩ = some (.int .i64 y0) ∧ W.cell? ⟨g, j * 2 + 1, none⟩ = some (.string y1))) := fun W h => by
            obtain ⟨g', hg, _, r0, r1⟩ := (write_view h).2 j (by omega)
            cases hg
            rw [HYE.out] at r0 r1
            exact ⟨r0, r1⟩
          obtain ⟨r0, r1⟩ := HELPx.out _ HOPx_4.out
          have cv1_1 : (wr).cell? ⟨qv1, 1, none⟩ = some (.slice (some ⟨g, 0, none⟩) n2 pPx) := (cell_of HBv1_4.out 1).trans rfl
          by_cases hc1 : y0 = (m : Int)
          · have hc1b : ((y0 : Int) == ((m : Int) : Int)) = true := by simpa using hc1
            have hc1n : ((y0 : Int) != ((m : Int) : Int)) = false := by simpa using hc1
            have HYM : Hid (y0 = (m : Int)) := hc1
            have hc1H : Hid (y0 = (m : Int)) := hc1
            clear hc1
            have HN2 : Hid (y1 = getTo cs ws m (j + 1)) := by
              show _ = _
              rw [getTo, HYE.out, if_pos HYM.out]
            go_wp2_with fail
            go_roundw
            case rel => exact ⟨j + 1, _, by omega, by go_num, rfl, ⟨hb4, HBv1_4.out, HOCx_4.out, HOPx_4.out⟩, HN2⟩
            case measure => simp [intOf]; omega
          · have hc1b : ((y0 : Int) == ((m : Int) : Int)) = false := by simpa using hc1
            have hc1n : ((y0 : Int) != ((m : Int) : Int)) = true := by simpa using hc1
            have HYM : Hid (¬ y0 = (m : Int)) := hc1
            have hc1H : Hid (¬ (y0 = (m : Int))) := hc1
            clear hc1
            have HN2 : Hid (z = getTo cs ws m (j + 1)) := by
              show _ = _
              rw [getTo, HYE.out, if_neg HYM.out]; exact HN.out
            go_wp2_with fail
            go_roundw
            case rel => exact ⟨j + 1, _, by omega, by go_num, rfl, ⟨hb4, HBv1_4.out, HOCx_4.out, HOPx_4.out⟩, HN2⟩
            case measure => simp [intOf]; omega
        · have hb4 := HW.out.1
          have HBv1_4 : Hid ((wr).heap[qv1]? = some (.cells #[.slice (some ⟨gC, 0, none⟩) n1 pCx, .slice oPx n2 pPx] 27)) := HW.out.2.1
          have HOCx_4 : Hid ((wr).ownsRow B 9 1 (.slice (some ⟨gC, 0, none⟩) n1 pCx) n1 (cs.map Value.string)) := HW.out.2.2.1
          have HOPx_4 : Hid ((wr).ownsRow B 67 2 (.slice oPx n2 pPx) n2 (flatWrite ws)) := HW.out.2.2.2
          clear HW hb3 HOCx_3 HOPx_3 HBv1_3
          have cv1_1 : (wr).cell? ⟨qv1, 1, none⟩ = some (.slice oPx n2 pPx) := (cell_of HBv1_4.out 1).trans rfl
          go_wp2_with fail
          go_ret
          exact ⟨by rw [get_yes HOK.out m HMZ.out, HN.out, HPL.out, show j = n2 by omega]; rfl, hb4⟩

set_option maxHeartbeats 8000000 in
set_option maxRecDepth 100000 in
theorem l12Land_all (v1 v2 : Value) (n1 : Nat) (cs : List ByteArray) (n2 : Nat) (ws : List (Int × ByteArray)) (B : Nat) (w : World) (h : DiskO w B v1 n1 cs v2 n2 ws) (hn1 : n1 ≤ 2000000) (hn2 : n2 ≤ 2000000) (hok : DiskP cs ws) :
    Calls Try.prog 43 #[.agg #[v1, v2], .slice none 0 0, .bool true] w fun e w' => DiskIs (landTo cs ws (fun _ => true) ws.length) [] w e w' := by
  obtain ⟨i0s, his, hz0s, hz1s, hz2s⟩ := info_parts info9
  have HOK : Hid (DiskP cs ws) := hok
  clear hok
  obtain ⟨oCx, pCx, rfl⟩ := slice_of_owns h.cells
  have HOCx_0 : Hid ((w).ownsRow B 9 1 (.slice oCx n1 pCx) n1 (cs.map Value.string)) := h.cells
  have HICx : Hid (∀ g, (Value.ownBlock (.slice oCx n1 pCx)) = some g → g < w.heap.size) := fun g hg => owns_lt h.cells hg
  obtain ⟨oPx, pPx, rfl⟩ := slice_of_owns h.pend
  have HOPx_0 : Hid ((w).ownsRow B 67 2 (.slice oPx n2 pPx) n2 (flatWrite ws)) := h.pend
  have HIPx : Hid (∀ g, (Value.ownBlock (.slice oPx n2 pPx)) = some g → g < w.heap.size) := fun g hg => owns_lt h.pend hg
  have HCL : Hid (cs.length = n1) := by have := h.cells.1; rw [List.length_map] at this; show _ = _; omega
  have HPL : Hid (ws.length = n2) := write_len h.pend
  clear h
  have hb0 : Below w.heap.size w w := Below.refl _ _
  go_enter Try.func43, Try.ntmps43
  go_upto_region 1 with fail
  obtain ⟨qv1, hqv1⟩ : ∃ q, q = (w).heap.size := ⟨_, rfl⟩
  obtain ⟨w1, hW1⟩ : ∃ W, W = (w).alloc (.cells #[.slice oCx n1 pCx, .slice oPx n2 pPx] 27) := ⟨_, rfl⟩
  have hz1 : (w).heap.size = qv1 := hqv1.symm
  first | rw [← hW1, ← hqv1] | rw [← hW1]
  have hs1 : w1.heap.size = qv1 + 1 := by rw [hW1, ← hz1]; simp
  have bw : Below (w).heap.size (w) w1 := by rw [hW1]; exact (Below.refl _ _).alloc (Nat.le_refl _) _
  have hb1 : Below w.heap.size w (w1) := hb0.trans (bw.mono hb0.size)
  have HM1 : Hid ((w).heap.size ≤ (w1).heap.size) := bw.size
  have HOCx_1 : Hid ((w1).ownsRow B 9 1 (.slice oCx n1 pCx) n1 (cs.map Value.string)) := owns_below HOCx_0.out bw (fun g hg => owns_lt HOCx_0.out hg)
  have HOPx_1 : Hid ((w1).ownsRow B 67 2 (.slice oPx n2 pPx) n2 (flatWrite ws)) := owns_below HOPx_0.out bw (fun g hg => owns_lt HOPx_0.out hg)
  have HBv1_1 : Hid ((w1).heap[qv1]? = some (.cells #[.slice oCx n1 pCx, .slice oPx n2 pPx] 27)) := by show _ = _; rw [hW1, ← hz1]; exact heap_alloc_new _ _
  have HGv1 : Hid (w.heap.size ≤ qv1) := by show _ ≤ _; rw [← hz1]; exact hb0.size
  clear hb0 HOCx_0 HOPx_0 bw hW1 hz1
  obtain ⟨qv2, hqv2⟩ : ∃ q, q = qv1 + 1 := ⟨_, rfl⟩
  obtain ⟨w2, hW2⟩ : ∃ W, W = (w1).alloc (.cells #[.slice none 0 0, .slice none 0 0] 27) := ⟨_, rfl⟩
  have hz2 : (w1).heap.size = qv2 := by rw [hqv2]; exact hs1
  first | rw [← hW2, ← hqv2] | rw [← hW2]
  have hs2 : w2.heap.size = qv2 + 1 := by rw [hW2, ← hz2]; simp
  have bw : Below (w1).heap.size (w1) w2 := by rw [hW2]; exact (Below.refl _ _).alloc (Nat.le_refl _) _
  have hb2 : Below w.heap.size w (w2) := hb1.trans (bw.mono hb1.size)
  have HM2 : Hid ((w1).heap.size ≤ (w2).heap.size) := bw.size
  have HOCx_2 : Hid ((w2).ownsRow B 9 1 (.slice oCx n1 pCx) n1 (cs.map Value.string)) := owns_below HOCx_1.out bw (fun g hg => owns_lt HOCx_1.out hg)
  have HOPx_2 : Hid ((w2).ownsRow B 67 2 (.slice oPx n2 pPx) n2 (flatWrite ws)) := owns_below HOPx_1.out bw (fun g hg => owns_lt HOPx_1.out hg)
  have HBv1_2 : Hid ((w2).heap[qv1]? = some (.cells #[.slice oCx n1 pCx, .slice oPx n2 pPx] 27)) := blk_below HBv1_1.out bw
  have HNv1v2 : Hid (qv1 ≠ qv2) := fun e => by have h1 := (Array.getElem?_eq_some_iff.1 HBv1_1.out).1; omega
  have HBv2_2 : Hid ((w2).heap[qv2]? = some (.cells #[.slice none 0 0, .slice none 0 0] 27)) := by show _ = _; rw [hW2, ← hz2]; exact heap_alloc_new _ _
  have HGv2 : Hid (w.heap.size ≤ qv2) := by show _ ≤ _; rw [← hz2]; exact hb1.size
  clear hb1 HOCx_1 HOPx_1 HBv1_1 bw hW2 hz2
  clear hs2 hqv2 hs1 hqv1
  have cv1_0 : (w2).cell? ⟨qv1, 0, none⟩ = some (.slice oCx n1 pCx) := (cell_of HBv1_2.out 0).trans rfl
  have Acv1_0 : ∀ o, ((w2).alloc o).cell? ⟨qv1, 0, none⟩ = some (.slice oCx n1 pCx) := fun o => (cell_of (blk_below HBv1_2.out ((Below.refl _ _).alloc (Nat.le_refl _) o)) 0).trans rfl
  have Afcv1_0 : ∀ o, ((w2).alloc o).frozen? ⟨qv1, 0, none⟩ = false := fun o => frozen_of (blk_below HBv1_2.out ((Below.refl _ _).alloc (Nat.le_refl _) o)) 0
  have bA : Below w2.heap.size w2 (w2.alloc (.cells #[] 9)) := (Below.refl _ _).alloc (Nat.le_refl _) _
  have hown0 : (w2.alloc (.cells #[] 9)).ownsRow w.heap.size 9 1 (.slice (some ⟨w2.heap.size, 0, none⟩) 0 0) 0 [] := ⟨rfl, .inr ⟨_, 0, #[], rfl, hb2.size, heap_alloc_new _ _, Nat.le_refl _, Nat.zero_le _, rfl, rfl⟩⟩
  have h63 : 0 + n1 ≤ maxLen := by unfold maxLen; omega
  have h47 : (0 + n1) * 16 ≤ 140737488355328 := by omega
  have hbs : w.heap.size ≤ (w2.alloc (.cells #[] 9)).heap.size := Nat.le_trans hb2.size bA.size
  go_wp2_with (at_builtin; refine wpList_append_src (by rfl) _ _ _ (by rfl) w.heap.size 9 i0s (.string ⟨#[]⟩) 1 16 Try.underlying24 his hz0s hz1s hz2s rfl (by decide) _ _ _ (by rfl) hown0 _ _ _ (by rfl) (Src.texts (owns_below HOCx_2.out bA (fun g hg => owns_lt HOCx_2.out hg))) h63 h47 hbs ?_)
  intro v1 w3 hown1 hgrow
  have hown2 : w3.ownsRow w.heap.size 9 1 v1 n1 (cs.map Value.string) := by first | exact hown1 | (rw [Nat.zero_add, List.nil_append] at hown1; exact hown1) | simpa using hown1
  clear hown1
  clear cv1_0 Acv1_0 Afcv1_0
  have hb3 : Below w.heap.size w (w3) := (hb2.trans (bA.mono hb2.size)).grown hgrow hbs (fun g hg => owns_ge hown0 hg)
  have HM3 : Hid ((w2).heap.size ≤ w3.heap.size) := Nat.le_trans bA.size hgrow.size
  have HOCx_3 : Hid ((w3).ownsRow B 9 1 (.slice oCx n1 pCx) n1 (cs.map Value.string)) := owns_same HOCx_2.out (fun g hg => (hgrow.block g (Nat.lt_of_lt_of_le (owns_lt HOCx_2.out hg) bA.size) (fun e => by have h1 := owns_lt HOCx_2.out hg; simp [Value.ownBlock] at e; omega)).trans (bA.block g (owns_lt HOCx_2.out hg)))
  have HOPx_3 : Hid ((w3).ownsRow B 67 2 (.slice oPx n2 pPx) n2 (flatWrite ws)) := owns_same HOPx_2.out (fun g hg => (hgrow.block g (Nat.lt_of_lt_of_le (owns_lt HOPx_2.out hg) bA.size) (fun e => by have h1 := owns_lt HOPx_2.out hg; simp [Value.ownBlock] at e; omega)).trans (bA.block g (owns_lt HOPx_2.out hg)))
  have HBv1_3 : Hid ((w3).heap[qv1]? = some (.cells #[.slice oCx n1 pCx, .slice oPx n2 pPx] 27)) := (hgrow.block _ (Nat.lt_of_lt_of_le (Array.getElem?_eq_some_iff.1 HBv1_2.out).1 bA.size) (fun e => by have h1 := (Array.getElem?_eq_some_iff.1 HBv1_2.out).1; simp [Value.ownBlock] at e; omega)).trans (blk_below HBv1_2.out bA)
  have HBv2_3 : Hid ((w3).heap[qv2]? = some (.cells #[.slice none 0 0, .slice none 0 0] 27)) := (hgrow.block _ (Nat.lt_of_lt_of_le (Array.getElem?_eq_some_iff.1 HBv2_2.out).1 bA.size) (fun e => by have h1 := (Array.getElem?_eq_some_iff.1 HBv2_2.out).1; simp [Value.ownBlock] at e; omega)).trans (blk_below HBv2_2.out bA)
  obtain ⟨oE1p, pE1p, rfl⟩ := slice_of_owns hown2
  have HOE1p_3 : Hid ((w3).ownsRow w.heap.size 9 1 (.slice oE1p n1 pE1p) n1 (cs.map Value.string)) := hown2
  have LOE1p : Hid (∀ g, (Value.ownBlock (.slice oE1p n1 pE1p)) = some g → w.heap.size ≤ g) := fun g hg => owns_ge hown2 hg
  have HIE1p : Hid (∀ g, (Value.ownBlock (.slice oE1p n1 pE1p)) = some g → g < w3.heap.size) := fun g hg => owns_lt hown2 hg
  clear hb2 HOCx_2 HOPx_2 HBv1_2 HBv2_2 hown2 hgrow h63 h47 hbs hown0 bA
  go_upto_region 2 with fail
  obtain ⟨qv4, hqv4⟩ : ∃ q, q = (w3).heap.size := ⟨_, rfl⟩
  obtain ⟨w4, hW4⟩ : ∃ W, W = (w3).alloc (.cells #[.slice oE1p n1 pE1p, .slice none 0 0] 27) := ⟨_, rfl⟩
  have hz4 : (w3).heap.size = qv4 := hqv4.symm
  first | rw [← hW4, ← hqv4] | rw [← hW4]
  have hs4 : w4.heap.size = qv4 + 1 := by rw [hW4, ← hz4]; simp
  have bw : Below (w3).heap.size (w3) w4 := by rw [hW4]; exact (Below.refl _ _).alloc (Nat.le_refl _) _
  have hb4 : Below w.heap.size w (w4) := hb3.trans (bw.mono hb3.size)
  have HM4 : Hid ((w3).heap.size ≤ (w4).heap.size) := bw.size
  have HOCx_4 : Hid ((w4).ownsRow B 9 1 (.slice oCx n1 pCx) n1 (cs.map Value.string)) := owns_below HOCx_3.out bw (fun g hg => owns_lt HOCx_3.out hg)
  have HOPx_4 : Hid ((w4).ownsRow B 67 2 (.slice oPx n2 pPx) n2 (flatWrite ws)) := owns_below HOPx_3.out bw (fun g hg => owns_lt HOPx_3.out hg)
  have HOE1p_4 : Hid ((w4).ownsRow w.heap.size 9 1 (.slice oE1p n1 pE1p) n1 (cs.map Value.string)) := owns_below HOE1p_3.out bw (fun g hg => owns_lt HOE1p_3.out hg)
  have HBv1_4 : Hid ((w4).heap[qv1]? = some (.cells #[.slice oCx n1 pCx, .slice oPx n2 pPx] 27)) := blk_below HBv1_3.out bw
  have HBv2_4 : Hid ((w4).heap[qv2]? = some (.cells #[.slice none 0 0, .slice none 0 0] 27)) := blk_below HBv2_3.out bw
  have HNv1v4 : Hid (qv1 ≠ qv4) := fun e => by have h1 := (Array.getElem?_eq_some_iff.1 HBv1_3.out).1; omega
  have HNv2v4 : Hid (qv2 ≠ qv4) := fun e => by have h1 := (Array.getElem?_eq_some_iff.1 HBv2_3.out).1; omega
  have HBv4_4 : Hid ((w4).heap[qv4]? = some (.cells #[.slice oE1p n1 pE1p, .slice none 0 0] 27)) := by show _ = _; rw [hW4, ← hz4]; exact heap_alloc_new _ _
  have HGv4 : Hid (w.heap.size ≤ qv4) := by show _ ≤ _; rw [← hz4]; exact hb3.size
  clear hb3 HOCx_3 HOPx_3 HOE1p_3 HBv1_3 HBv2_3 bw hW4 hz4
  clear hs4 hqv4
  go_wp2_with fail
  go_loopw [8] (fun i wr => ∃ j : Nat, j ≤ n2 ∧ i = .int .i64 (j : Int) ∧ Hid (Below w.heap.size w (wr) ∧ (wr).heap[qv1]? = some (.cells #[.slice oCx n1 pCx, .slice oPx n2 pPx] 27) ∧ (wr).heap[qv2]? = some (.cells #[.slice none 0 0, .slice none 0 0] 27) ∧ (wr).heap[qv4]? = some (.cells #[.slice oE1p n1 pE1p, .slice none 0 0] 27) ∧ (wr).ownsRow B 9 1 (.slice oCx n1 pCx) n1 (cs.map Value.string) ∧ (wr).ownsRow B 67 2 (.slice oPx n2 pPx) n2 (flatWrite ws) ∧ (wr).ownsRow w.heap.size 9 1 (.slice oE1p n1 pE1p) n1 ((landTo cs ws (fun _ => true) j).map Value.string))) (fun i _ => n2 - (intOf i).toNat)
  case atStart => exact ⟨0, Nat.zero_le _, rfl, ⟨hb4, HBv1_4.out, HBv2_4.out, HBv4_4.out, HOCx_4.out, HOPx_4.out, HOE1p_4.out⟩⟩
  case round =>
    obtain ⟨j, hj, rfl, HW⟩ := hrel
    by_cases hlt : (j : Int) < (n2 : Int)
    · have hb5 := HW.out.1
      have HBv1_5 : Hid ((wr).heap[qv1]? = some (.cells #[.slice oCx n1 pCx, .slice oPx n2 pPx] 27)) := HW.out.2.1
      have HBv2_5 : Hid ((wr).heap[qv2]? = some (.cells #[.slice none 0 0, .slice none 0 0] 27)) := HW.out.2.2.1
      have HBv4_5 : Hid ((wr).heap[qv4]? = some (.cells #[.slice oE1p n1 pE1p, .slice none 0 0] 27)) := HW.out.2.2.2.1
      have HOCx_5 : Hid ((wr).ownsRow B 9 1 (.slice oCx n1 pCx) n1 (cs.map Value.string)) := HW.out.2.2.2.2.1
      have HOPx_5 : Hid ((wr).ownsRow B 67 2 (.slice oPx n2 pPx) n2 (flatWrite ws)) := HW.out.2.2.2.2.2.1
      have HOE1p_5 : Hid ((wr).ownsRow w.heap.size 9 1 (.slice oE1p n1 pE1p) n1 ((landTo cs ws (fun _ => true) j).map Value.string)) := HW.out.2.2.2.2.2.2
      clear HW hb4 HOCx_4 HOPx_4 HOE1p_4 HBv1_4 HBv2_4 HBv4_4
      have hjx : j < ws.length := by rw [HPL.out]; omega
      obtain ⟨g, rfl⟩ := owns_some HOPx_5.out (by omega)
      obtain ⟨y, hy⟩ : ∃ y, y = writeAt ws j := ⟨_, rfl⟩
      have HM : Hid (y ∈ ws) := by show _ ∈ _; rw [hy]; exact writeAt_mem ws j hjx
      have HTK : Hid (ws.take (j + 1) = ws.take j ++ [y]) := by show _ = _; rw [hy]; exact take_writeAt ws j hjx
      have HYE : Hid (writeAt ws j = y) := hy.symm
      clear hy hjx
      obtain ⟨y0, y1⟩ := y
      have HELPx : Hid (∀ W : World, (W).ownsRow B 67 2 (.slice (some ⟨g, 0, none⟩) n2 pPx) n2 (flatWrite ws) → (W.cell? ⟨g, j * 2, none⟩ = some (.int .i64 y0) ∧ W.cell? ⟨g, j * 2 + 1, none⟩ = some (.string y1))) := fun W h => by
        obtain ⟨g', hg, _, r0, r1⟩ := (write_view h).2 j (by omega)
        cases hg
        rw [HYE.out] at r0 r1
        exact ⟨r0, r1⟩
      obtain ⟨r0, r1⟩ := HELPx.out _ HOPx_5.out
      obtain ⟨m, hm⟩ : ∃ m : Nat, y0 = (m : Int) := ⟨y0.toNat, by have := HOK.out.2.2 _ HM.out; omega⟩
      subst hm
      have hm19 : (m : Int) < (n1 : Int) := by have h1 := HOK.out.2.2 _ HM.out; have h2 := HOK.out.1; rw [HCL.out] at h2; omega
      obtain ⟨gE, rfl⟩ := owns_some HOE1p_5.out (by omega)
      have HATE1p : Hid (((landTo cs ws (fun _ => true) j).map Value.string)[m]? = some (.string (textAt (landTo cs ws (fun _ => true) j) m))) := by show _ = _; rw [List.getElem?_map, getElem_textAt _ m (by rw [landTo_len, HCL.out]; omega)]; rfl
      have cv1_1 : (wr).cell? ⟨qv1, 1, none⟩ = some (.slice (some ⟨g, 0, none⟩) n2 pPx) := (cell_of HBv1_5.out 1).trans rfl
      go_upto_region 6 with fail
      clear cv1_1
      refine wp_region_held_drew (S := fun W => W.heap[qv4]? = some (.cells #[.slice (some ⟨gE, 0, none⟩) n1 pE1p, .slice none 0 0] 27) ∧ W.heap[qv1]? = some (.cells #[.slice oCx n1 pCx, .slice (some ⟨g, 0, none⟩) n2 pPx] 27) ∧ (W.cell? ⟨g, j * 2, none⟩ = some (.int .i64 (m : Int)) ∧ W.cell? ⟨g, j * 2 + 1, none⟩ = some (.string y1))) (by kernel_rfl) ⟨HBv4_5.out, HBv1_5.out, HELPx.out _ HOPx_5.out⟩ (fun _ => ?_)
      obtain ⟨w6, hX⟩ : ∃ X, X = wr.drew := ⟨_, rfl⟩
      have bw : Below wr.heap.size wr w6 := by rw [hX]; exact (Below.refl _ _).drew
      rw [← hX]
      have hb6 : Below w.heap.size w (w6) := hb5.trans (bw.mono hb5.size)
      have HM6 : Hid ((wr).heap.size ≤ (w6).heap.size) := bw.size
      have HOCx_6 : Hid ((w6).ownsRow B 9 1 (.slice oCx n1 pCx) n1 (cs.map Value.string)) := owns_below HOCx_5.out bw (fun g hg => owns_lt HOCx_5.out hg)
      have HOPx_6 : Hid ((w6).ownsRow B 67 2 (.slice (some ⟨g, 0, none⟩) n2 pPx) n2 (flatWrite ws)) := owns_below HOPx_5.out bw (fun g hg => owns_lt HOPx_5.out hg)
      have HOE1p_6 : Hid ((w6).ownsRow w.heap.size 9 1 (.slice (some ⟨gE, 0, none⟩) n1 pE1p) n1 ((landTo cs ws (fun _ => true) j).map Value.string)) := owns_below HOE1p_5.out bw (fun g hg => owns_lt HOE1p_5.out hg)
      have HBv1_6 : Hid ((w6).heap[qv1]? = some (.cells #[.slice oCx n1 pCx, .slice (some ⟨g, 0, none⟩) n2 pPx] 27)) := blk_below HBv1_5.out bw
      have HBv2_6 : Hid ((w6).heap[qv2]? = some (.cells #[.slice none 0 0, .slice none 0 0] 27)) := blk_below HBv2_5.out bw
      have HBv4_6 : Hid ((w6).heap[qv4]? = some (.cells #[.slice (some ⟨gE, 0, none⟩) n1 pE1p, .slice none 0 0] 27)) := blk_below HBv4_5.out bw
      have hS6 : w6.heap[qv4]? = some (.cells #[.slice (some ⟨gE, 0, none⟩) n1 pE1p, .slice none 0 0] 27) ∧ w6.heap[qv1]? = some (.cells #[.slice oCx n1 pCx, .slice (some ⟨g, 0, none⟩) n2 pPx] 27) ∧ (w6.cell? ⟨g, j * 2, none⟩ = some (.int .i64 (m : Int)) ∧ w6.cell? ⟨g, j * 2 + 1, none⟩ = some (.string y1)) := ⟨HBv4_6.out, HBv1_6.out, HELPx.out _ HOPx_6.out⟩
      clear hb5 HOCx_5 HOPx_5 HOE1p_5 HBv1_5 HBv2_5 HBv4_5 bw hX
      refine wpAnyH_takeD (i := 0) (v := .pointer (some ⟨qv4, 0, none⟩)) (some 34) rfl rfl (by kernel_rfl) (by kernel_rfl) (by kernel_rfl) (fun _ _ _ h => h) (Or.inl ⟨by rfl, by intro W _; go_simp⟩) hS6 ?_
      simp only [Act.put, List.setIfInBounds_toArray, List.set_cons_zero, List.set_cons_succ]
      refine wpAnyH_takeD (i := 1) (v := .slice (some ⟨gE, 0, none⟩) n1 pE1p) (some 35) rfl rfl (by kernel_rfl) (by kernel_rfl) (by kernel_rfl) (fun _ _ _ h => h) (Or.inl ⟨by rfl, by intro W hW; obtain ⟨hhv4, hhv1, hhE_Px⟩ := hW; have y0 := (cell_of hhv4 0).trans rfl; go_simp⟩) hS6 ?_
      simp only [Act.put, List.setIfInBounds_toArray, List.set_cons_zero, List.set_cons_succ]
      refine wpAnyH_takeD (i := 2) (v := .pointer (some ⟨qv1, 1, none⟩)) (some 36) rfl rfl (by kernel_rfl) (by kernel_rfl) (by kernel_rfl) (fun _ _ _ h => h) (Or.inl ⟨by rfl, by intro W _; go_simp⟩) hS6 ?_
      simp only [Act.put, List.setIfInBounds_toArray, List.set_cons_zero, List.set_cons_succ]
      refine wpAnyH_takeD (i := 3) (v := .slice (some ⟨g, 0, none⟩) n2 pPx) (some 37) rfl rfl (by kernel_rfl) (by kernel_rfl) (by kernel_rfl) (fun _ _ _ h => h) (Or.inl ⟨by rfl, by intro W hW; obtain ⟨hhv4, hhv1, hhE_Px⟩ := hW; have y1 := (cell_of hhv1 1).trans rfl; go_simp⟩) hS6 ?_
      simp only [Act.put, List.setIfInBounds_toArray, List.set_cons_zero, List.set_cons_succ]
      refine wpAnyH_takeD (i := 4) (v := .int .i64 (j : Int)) (some 38) rfl rfl (by kernel_rfl) (by kernel_rfl) (by kernel_rfl) (fun _ _ _ h => h) (Or.inl ⟨by rfl, by intro W _; go_simp⟩) hS6 ?_
      simp only [Act.put, List.setIfInBounds_toArray, List.set_cons_zero, List.set_cons_succ]
      refine wpAnyH_takeD (i := 5) (v := .pointer (some ⟨g, j * 2, none⟩)) (some 39) rfl rfl (by kernel_rfl) (by kernel_rfl) (by kernel_rfl) (fun _ _ _ h => h) (Or.inl ⟨by rfl, by intro W _; go_simp⟩) hS6 ?_
      simp only [Act.put, List.setIfInBounds_toArray, List.set_cons_zero, List.set_cons_succ]
      refine wpAnyH_takeD (i := 6) (v := .pointer (some ⟨g, j * 2, none⟩)) (some 40) rfl rfl (by kernel_rfl) (by kernel_rfl) (by kernel_rfl) (fun _ _ _ h => h) (Or.inl ⟨by rfl, by intro W _; go_simp⟩) hS6 ?_
      simp only [Act.put, List.setIfInBounds_toArray, List.set_cons_zero, List.set_cons_succ]
      refine wpAnyH_takeD (i := 7) (v := .int .i64 (m : Int)) (some 41) rfl rfl (by kernel_rfl) (by kernel_rfl) (by kernel_rfl) (fun _ _ _ h => h) (Or.inl ⟨by rfl, by intro W hW; obtain ⟨hhv4, hhv1, hhE_Px⟩ := hW; have y0 := hhE_Px.1; go_simp⟩) hS6 ?_
      simp only [Act.put, List.setIfInBounds_toArray, List.set_cons_zero, List.set_cons_succ]
      refine wpAnyH_takeD (i := 8) (v := .pointer (some ⟨qv1, 1, none⟩)) (some 42) rfl rfl (by kernel_rfl) (by kernel_rfl) (by kernel_rfl) (fun _ _ _ h => h) (Or.inl ⟨by rfl, by intro W _; go_simp⟩) hS6 ?_
      simp only [Act.put, List.setIfInBounds_toArray, List.set_cons_zero, List.set_cons_succ]
      refine wpAnyH_takeD (i := 9) (v := .slice (some ⟨g, 0, none⟩) n2 pPx) (some 43) rfl rfl (by kernel_rfl) (by kernel_rfl) (by kernel_rfl) (fun _ _ _ h => h) (Or.inl ⟨by rfl, by intro W hW; obtain ⟨hhv4, hhv1, hhE_Px⟩ := hW; have y1 := (cell_of hhv1 1).trans rfl; go_simp⟩) hS6 ?_
      simp only [Act.put, List.setIfInBounds_toArray, List.set_cons_zero, List.set_cons_succ]
      refine wpAnyH_takeD (i := 10) (v := .int .i64 (j : Int)) (some 44) rfl rfl (by kernel_rfl) (by kernel_rfl) (by kernel_rfl) (fun _ _ _ h => h) (Or.inl ⟨by rfl, by intro W _; go_simp⟩) hS6 ?_
      simp only [Act.put, List.setIfInBounds_toArray, List.set_cons_zero, List.set_cons_succ]
      refine wpAnyH_takeD (i := 11) (v := .pointer (some ⟨g, j * 2, none⟩)) (some 45) rfl rfl (by kernel_rfl) (by kernel_rfl) (by kernel_rfl) (fun _ _ _ h => h) (Or.inl ⟨by rfl, by intro W _; go_simp⟩) hS6 ?_
      simp only [Act.put, List.setIfInBounds_toArray, List.set_cons_zero, List.set_cons_succ]
      refine wpAnyH_takeD (i := 12) (v := .pointer (some ⟨g, j * 2 + 1, none⟩)) (some 46) rfl rfl (by kernel_rfl) (by kernel_rfl) (by kernel_rfl) (fun _ _ _ h => h) (Or.inl ⟨by rfl, by intro W _; go_simp⟩) hS6 ?_
      simp only [Act.put, List.setIfInBounds_toArray, List.set_cons_zero, List.set_cons_succ]
      refine wpAnyH_takeD (i := 13) (v := .string y1) (some 47) rfl rfl (by kernel_rfl) (by kernel_rfl) (by kernel_rfl) (fun _ _ _ h => h) (Or.inl ⟨by rfl, by intro W hW; obtain ⟨hhv4, hhv1, hhE_Px⟩ := hW; have y1 := hhE_Px.2; go_simp⟩) hS6 ?_
      simp only [Act.put, List.setIfInBounds_toArray, List.set_cons_zero, List.set_cons_succ]
      refine wpAnyH_takeD (i := 14) (v := .pointer (some ⟨gE, m, none⟩)) (some 48) rfl rfl (by kernel_rfl) (by kernel_rfl) (by kernel_rfl) (fun _ _ _ h => h) (Or.inl ⟨by rfl, by intro W _; go_simp⟩) hS6 ?_
      simp only [Act.put, List.setIfInBounds_toArray, List.set_cons_zero, List.set_cons_succ]
      refine wpAnyH_ready (rs := [15]) (by kernel_rfl) (by simp) ?_
      refine AllReadyH.cons rfl (fun K hK => ?_) AllReadyH.nil
      obtain ⟨ceR, feR⟩ := owns_at HOE1p_6.out m _ HATE1p.out
      obtain ⟨w7, hY⟩ : ∃ Y, Y = w6.setCell ⟨gE, m, none⟩ (.string y1) := ⟨_, rfl⟩
      have HY : Hid (w6.setCell ⟨gE, m, none⟩ (.string y1) = w7) := hY.symm
      have hb7 : Below w.heap.size w (w7) := by rw [hY]; exact hb6.setCell (p := ⟨gE, m, none⟩) (owns_ge HOE1p_6.out rfl) _
      have HM7 : Hid ((w6).heap.size ≤ w7.heap.size) := by show _ ≤ _; rw [hY]; simp
      have HOCx_7 : Hid ((w7).ownsRow B 9 1 (.slice oCx n1 pCx) n1 (cs.map Value.string)) := by show World.ownsRow _ _ _ _ _ _ _; rw [hY]; exact owns_same HOCx_6.out (fun g hg => heap_setCell_other _ _ g _ (fun e => (fun e => by have h1 := LOE1p.out g e; have h2 := HICx.out g hg; have := HM1.out; have := HM2.out; have := HM3.out; omega) (show (Value.ownBlock (.slice (some ⟨gE, 0, none⟩) n1 pE1p)) = some g by rw [e]; rfl)))
      have HOPx_7 : Hid ((w7).ownsRow B 67 2 (.slice (some ⟨g, 0, none⟩) n2 pPx) n2 (flatWrite ws)) := by show World.ownsRow _ _ _ _ _ _ _; rw [hY]; exact owns_same HOPx_6.out (fun g hg => heap_setCell_other _ _ g _ (fun e => (own_type_ne HOPx_6.out HOE1p_6.out (by decide) g hg) (show (Value.ownBlock (.slice (some ⟨gE, 0, none⟩) n1 pE1p)) = some g by rw [e]; rfl)))
      have HBv1_7 : Hid ((w7).heap[qv1]? = some (.cells #[.slice oCx n1 pCx, .slice (some ⟨g, 0, none⟩) n2 pPx] 27)) := by show _ = _; rw [hY]; exact (heap_setCell_other _ _ qv1 _ (fun e => own_ne HOE1p_6.out HBv1_6.out (by decide) gE rfl e.symm)).trans HBv1_6.out
      have HBv2_7 : Hid ((w7).heap[qv2]? = some (.cells #[.slice none 0 0, .slice none 0 0] 27)) := by show _ = _; rw [hY]; exact (heap_setCell_other _ _ qv2 _ (fun e => own_ne HOE1p_6.out HBv2_6.out (by decide) gE rfl e.symm)).trans HBv2_6.out
      have HBv4_7 : Hid ((w7).heap[qv4]? = some (.cells #[.slice (some ⟨gE, 0, none⟩) n1 pE1p, .slice none 0 0] 27)) := by show _ = _; rw [hY]; exact (heap_setCell_other _ _ qv4 _ (fun e => own_ne HOE1p_6.out HBv4_6.out (by decide) gE rfl e.symm)).trans HBv4_6.out
      have HOE1p_7 : Hid ((w7).ownsRow w.heap.size 9 1 (.slice (some ⟨gE, 0, none⟩) n1 pE1p) n1 (((landTo cs ws (fun _ => true) j).set m y1).map Value.string)) := by show World.ownsRow _ _ _ _ _ _ _; rw [hY, List.map_set]; exact owns_put HOE1p_6.out _ _
      clear hY hb6 HOCx_6 HOPx_6 HOE1p_6 HBv1_6 HBv2_6 HBv4_6
      go_simp
      rw [HY.out]
      have hS7 : w7.heap[qv4]? = some (.cells #[.slice (some ⟨gE, 0, none⟩) n1 pE1p, .slice none 0 0] 27) ∧ w7.heap[qv1]? = some (.cells #[.slice oCx n1 pCx, .slice (some ⟨g, 0, none⟩) n2 pPx] 27) ∧ (w7.cell? ⟨g, j * 2, none⟩ = some (.int .i64 (m : Int)) ∧ w7.cell? ⟨g, j * 2 + 1, none⟩ = some (.string y1)) := ⟨HBv4_7.out, HBv1_7.out, HELPx.out _ HOPx_7.out⟩
      refine hK.out _ _ hS7 (fun _ => ?_)
      clear hK K HY hS6 ceR feR
      clear hS7
      refine wpAnyH_done (by kernel_rfl) ?_ _
      have HLT : Hid (landTo cs ws (fun _ => true) (j + 1) = ((landTo cs ws (fun _ => true) j).set m y1)) := by
        show _ = _
        rw [landTo, if_pos rfl, HYE.out]; rfl
      have HOQ : Hid ((w7).ownsRow w.heap.size 9 1 (.slice (some ⟨gE, 0, none⟩) n1 pE1p) n1 ((landTo cs ws (fun _ => true) (j + 1)).map Value.string)) := by show World.ownsRow _ _ _ _ _ _ _; rw [HLT.out]; exact HOE1p_7.out
      go_wp2_with fail
      go_roundw
      case rel => exact ⟨j + 1, by omega, by go_num, ⟨hb7, HBv1_7.out, HBv2_7.out, HBv4_7.out, HOCx_7.out, HOPx_7.out, HOQ.out⟩⟩
      case measure => simp [intOf]; omega
    · have hb5 := HW.out.1
      have HBv1_5 : Hid ((wr).heap[qv1]? = some (.cells #[.slice oCx n1 pCx, .slice oPx n2 pPx] 27)) := HW.out.2.1
      have HBv2_5 : Hid ((wr).heap[qv2]? = some (.cells #[.slice none 0 0, .slice none 0 0] 27)) := HW.out.2.2.1
      have HBv4_5 : Hid ((wr).heap[qv4]? = some (.cells #[.slice oE1p n1 pE1p, .slice none 0 0] 27)) := HW.out.2.2.2.1
      have HOCx_5 : Hid ((wr).ownsRow B 9 1 (.slice oCx n1 pCx) n1 (cs.map Value.string)) := HW.out.2.2.2.2.1
      have HOPx_5 : Hid ((wr).ownsRow B 67 2 (.slice oPx n2 pPx) n2 (flatWrite ws)) := HW.out.2.2.2.2.2.1
      have HOE1p_5 : Hid ((wr).ownsRow w.heap.size 9 1 (.slice oE1p n1 pE1p) n1 ((landTo cs ws (fun _ => true) j).map Value.string)) := HW.out.2.2.2.2.2.2
      clear HW hb4 HOCx_4 HOPx_4 HOE1p_4 HBv1_4 HBv2_4 HBv4_4
      have hjn : j = n2 := by omega
      have HJN : Hid (j = n2) := hjn
      clear hjn
      have cv1_1 : (wr).cell? ⟨qv1, 1, none⟩ = some (.slice oPx n2 pPx) := (cell_of HBv1_5.out 1).trans rfl
      have cv2_0 : (wr).cell? ⟨qv2, 0, none⟩ = some (.slice none 0 0) := (cell_of HBv2_5.out 0).trans rfl
      have fcv2_0 : (wr).frozen? ⟨qv2, 0, none⟩ = false := frozen_of HBv2_5.out 0
      have cv2_1 : (wr).cell? ⟨qv2, 1, none⟩ = some (.slice none 0 0) := (cell_of HBv2_5.out 1).trans rfl
      have fcv2_1 : (wr).frozen? ⟨qv2, 1, none⟩ = false := frozen_of HBv2_5.out 1
      have cv4_0 : (wr).cell? ⟨qv4, 0, none⟩ = some (.slice oE1p n1 pE1p) := (cell_of HBv4_5.out 0).trans rfl
      have cv4_1 : (wr).cell? ⟨qv4, 1, none⟩ = some (.slice none 0 0) := (cell_of HBv4_5.out 1).trans rfl
      go_wp2_with fail
      obtain ⟨w6, hW6⟩ : ∃ W, W = (wr).setCell ⟨qv2, 0, none⟩ (.slice oE1p n1 pE1p) := ⟨_, rfl⟩
      rw [← hW6]
      have hb6 : Below w.heap.size w (w6) := by rw [hW6]; exact (hb5.setCell (p := ⟨qv2, 0, none⟩) HGv2.out _)
      have HM6 : Hid ((wr).heap.size ≤ w6.heap.size) := by show _ ≤ _; rw [hW6]; simp
      have HOCx_6 : Hid ((w6).ownsRow B 9 1 (.slice oCx n1 pCx) n1 (cs.map Value.string)) := by show World.ownsRow _ _ _ _ _ _ _; rw [hW6]; exact owns_same HOCx_5.out (fun g hg => heap_setCell_other _ _ g _ (own_ne HOCx_5.out HBv2_5.out (by decide) g hg))
      have HOPx_6 : Hid ((w6).ownsRow B 67 2 (.slice oPx n2 pPx) n2 (flatWrite ws)) := by show World.ownsRow _ _ _ _ _ _ _; rw [hW6]; exact owns_same HOPx_5.out (fun g hg => heap_setCell_other _ _ g _ (own_ne HOPx_5.out HBv2_5.out (by decide) g hg))
      have HOE1p_6 : Hid ((w6).ownsRow w.heap.size 9 1 (.slice oE1p n1 pE1p) n1 ((landTo cs ws (fun _ => true) j).map Value.string)) := by show World.ownsRow _ _ _ _ _ _ _; rw [hW6]; exact owns_same HOE1p_5.out (fun g hg => heap_setCell_other _ _ g _ (own_ne HOE1p_5.out HBv2_5.out (by decide) g hg))
      have HBv1_6 : Hid ((w6).heap[qv1]? = some (.cells #[.slice oCx n1 pCx, .slice oPx n2 pPx] 27)) := by show _ = _; rw [hW6, heap_setCell_other _ _ _ _ HNv1v2.out]; exact HBv1_5.out
      have HBv4_6 : Hid ((w6).heap[qv4]? = some (.cells #[.slice oE1p n1 pE1p, .slice none 0 0] 27)) := by show _ = _; rw [hW6, heap_setCell_other _ _ _ _ HNv2v4.out.symm]; exact HBv4_5.out
      have HBv2_6 : Hid ((w6).heap[qv2]? = some (.cells #[.slice oE1p n1 pE1p, .slice none 0 0] 27)) := by show _ = _; rw [hW6]; have h := heap_set _ _ 0 _ _ _ (.slice oE1p n1 pE1p) HBv2_5.out; simpa using h
      clear hb5 HOCx_5 HOPx_5 HOE1p_5 HBv1_5 HBv2_5 HBv4_5 hW6
      obtain ⟨w7, hW7⟩ : ∃ W, W = (w6).setCell ⟨qv2, 1, none⟩ (.slice none 0 0) := ⟨_, rfl⟩
      rw [← hW7]
      have hb7 : Below w.heap.size w (w7) := by rw [hW7]; exact (hb6.setCell (p := ⟨qv2, 1, none⟩) HGv2.out _)
      have HM7 : Hid ((w6).heap.size ≤ w7.heap.size) := by show _ ≤ _; rw [hW7]; simp
      have HOCx_7 : Hid ((w7).ownsRow B 9 1 (.slice oCx n1 pCx) n1 (cs.map Value.string)) := by show World.ownsRow _ _ _ _ _ _ _; rw [hW7]; exact owns_same HOCx_6.out (fun g hg => heap_setCell_other _ _ g _ (own_ne HOCx_6.out HBv2_6.out (by decide) g hg))
      have HOPx_7 : Hid ((w7).ownsRow B 67 2 (.slice oPx n2 pPx) n2 (flatWrite ws)) := by show World.ownsRow _ _ _ _ _ _ _; rw [hW7]; exact owns_same HOPx_6.out (fun g hg => heap_setCell_other _ _ g _ (own_ne HOPx_6.out HBv2_6.out (by decide) g hg))
      have HOE1p_7 : Hid ((w7).ownsRow w.heap.size 9 1 (.slice oE1p n1 pE1p) n1 ((landTo cs ws (fun _ => true) j).map Value.string)) := by show World.ownsRow _ _ _ _ _ _ _; rw [hW7]; exact owns_same HOE1p_6.out (fun g hg => heap_setCell_other _ _ g _ (own_ne HOE1p_6.out HBv2_6.out (by decide) g hg))
      have HBv1_7 : Hid ((w7).heap[qv1]? = some (.cells #[.slice oCx n1 pCx, .slice oPx n2 pPx] 27)) := by show _ = _; rw [hW7, heap_setCell_other _ _ _ _ HNv1v2.out]; exact HBv1_6.out
      have HBv4_7 : Hid ((w7).heap[qv4]? = some (.cells #[.slice oE1p n1 pE1p, .slice none 0 0] 27)) := by show _ = _; rw [hW7, heap_setCell_other _ _ _ _ HNv2v4.out.symm]; exact HBv4_6.out
      have HBv2_7 : Hid ((w7).heap[qv2]? = some (.cells #[.slice oE1p n1 pE1p, .slice none 0 0] 27)) := by show _ = _; rw [hW7]; have h := heap_set _ _ 1 _ _ _ (.slice none 0 0) HBv2_6.out; simpa using h
      clear hb6 HOCx_6 HOPx_6 HOE1p_6 HBv1_6 HBv2_6 HBv4_6 hW7
      have kv2_0 : (w7).cell? ⟨qv2, 0, none⟩ = some (.slice oE1p n1 pE1p) := (cell_of HBv2_7.out 0).trans rfl
      have kv2_1 : (w7).cell? ⟨qv2, 1, none⟩ = some (.slice none 0 0) := (cell_of HBv2_7.out 1).trans rfl
      refine bodyPost_ret (v := .agg #[.slice oE1p n1 pE1p, .slice none 0 0]) (by simp [results, Try.results43, go_sem, kv2_0, kv2_1]) rfl ?_
      exact ⟨_, _, rfl, ⟨by rw [landTo_len, HCL.out, HPL.out, ← HJN.out]; exact HOE1p_7.out, World.ownsRow_nil _ _ _ _⟩, hb7⟩

set_option maxHeartbeats 8000000 in
set_option maxRecDepth 100000 in
theorem specFlush_any (v1 v2 : Value) (n1 : Nat) (cs : List ByteArray) (n2 : Nat) (ws : List (Int × ByteArray)) (B : Nat) (w : World) (h : DiskO w B v1 n1 cs v2 n2 ws) (hn1 : n1 ≤ 2000000) (hn2 : n2 ≤ 2000000) :
    Calls Try.prog 26 #[.agg #[v1, v2]] w fun e w' => DiskIs (landC cs ws (fun _ => true)) [] w e w' := by
  obtain ⟨oCx, pCx, rfl⟩ := slice_of_owns h.cells
  have HOCx_0 : Hid ((w).ownsRow B 9 1 (.slice oCx n1 pCx) n1 (cs.map Value.string)) := h.cells
  have HICx : Hid (∀ g, (Value.ownBlock (.slice oCx n1 pCx)) = some g → g < w.heap.size) := fun g hg => owns_lt h.cells hg
  obtain ⟨oPx, pPx, rfl⟩ := slice_of_owns h.pend
  have HOPx_0 : Hid ((w).ownsRow B 67 2 (.slice oPx n2 pPx) n2 (flatWrite ws)) := h.pend
  have HIPx : Hid (∀ g, (Value.ownBlock (.slice oPx n2 pPx)) = some g → g < w.heap.size) := fun g hg => owns_lt h.pend hg
  clear h
  have hb0 : Below w.heap.size w w := Below.refl _ _
  go_enter Try.func26, Try.ntmps26
  go_upto_region 1 with fail
  obtain ⟨qv1, hqv1⟩ : ∃ q, q = (w).heap.size := ⟨_, rfl⟩
  obtain ⟨w1, hW1⟩ : ∃ W, W = (w).alloc (.cells #[.slice oCx n1 pCx, .slice oPx n2 pPx] 27) := ⟨_, rfl⟩
  have hz1 : (w).heap.size = qv1 := hqv1.symm
  first | rw [← hW1, ← hqv1] | rw [← hW1]
  have hs1 : w1.heap.size = qv1 + 1 := by rw [hW1, ← hz1]; simp
  have bw : Below (w).heap.size (w) w1 := by rw [hW1]; exact (Below.refl _ _).alloc (Nat.le_refl _) _
  have hb1 : Below w.heap.size w (w1) := hb0.trans (bw.mono hb0.size)
  have HM1 : Hid ((w).heap.size ≤ (w1).heap.size) := bw.size
  have HOCx_1 : Hid ((w1).ownsRow B 9 1 (.slice oCx n1 pCx) n1 (cs.map Value.string)) := owns_below HOCx_0.out bw (fun g hg => owns_lt HOCx_0.out hg)
  have HOPx_1 : Hid ((w1).ownsRow B 67 2 (.slice oPx n2 pPx) n2 (flatWrite ws)) := owns_below HOPx_0.out bw (fun g hg => owns_lt HOPx_0.out hg)
  have HBv1_1 : Hid ((w1).heap[qv1]? = some (.cells #[.slice oCx n1 pCx, .slice oPx n2 pPx] 27)) := by show _ = _; rw [hW1, ← hz1]; exact heap_alloc_new _ _
  have HGv1 : Hid (w.heap.size ≤ qv1) := by show _ ≤ _; rw [← hz1]; exact hb0.size
  clear hb0 HOCx_0 HOPx_0 bw hW1 hz1
  obtain ⟨qv2, hqv2⟩ : ∃ q, q = qv1 + 1 := ⟨_, rfl⟩
  obtain ⟨w2, hW2⟩ : ∃ W, W = (w1).alloc (.cells #[.slice none 0 0, .slice none 0 0] 27) := ⟨_, rfl⟩
  have hz2 : (w1).heap.size = qv2 := by rw [hqv2]; exact hs1
  first | rw [← hW2, ← hqv2] | rw [← hW2]
  have hs2 : w2.heap.size = qv2 + 1 := by rw [hW2, ← hz2]; simp
  have bw : Below (w1).heap.size (w1) w2 := by rw [hW2]; exact (Below.refl _ _).alloc (Nat.le_refl _) _
  have hb2 : Below w.heap.size w (w2) := hb1.trans (bw.mono hb1.size)
  have HM2 : Hid ((w1).heap.size ≤ (w2).heap.size) := bw.size
  have HOCx_2 : Hid ((w2).ownsRow B 9 1 (.slice oCx n1 pCx) n1 (cs.map Value.string)) := owns_below HOCx_1.out bw (fun g hg => owns_lt HOCx_1.out hg)
  have HOPx_2 : Hid ((w2).ownsRow B 67 2 (.slice oPx n2 pPx) n2 (flatWrite ws)) := owns_below HOPx_1.out bw (fun g hg => owns_lt HOPx_1.out hg)
  have HBv1_2 : Hid ((w2).heap[qv1]? = some (.cells #[.slice oCx n1 pCx, .slice oPx n2 pPx] 27)) := blk_below HBv1_1.out bw
  have HNv1v2 : Hid (qv1 ≠ qv2) := fun e => by have h1 := (Array.getElem?_eq_some_iff.1 HBv1_1.out).1; omega
  have HBv2_2 : Hid ((w2).heap[qv2]? = some (.cells #[.slice none 0 0, .slice none 0 0] 27)) := by show _ = _; rw [hW2, ← hz2]; exact heap_alloc_new _ _
  have HGv2 : Hid (w.heap.size ≤ qv2) := by show _ ≤ _; rw [← hz2]; exact hb1.size
  clear hb1 HOCx_1 HOPx_1 HBv1_1 bw hW2 hz2
  clear hs2 hqv2 hs1 hqv1
  have cv1_0 : (w2).cell? ⟨qv1, 0, none⟩ = some (.slice oCx n1 pCx) := (cell_of HBv1_2.out 0).trans rfl
  have cv1_1 : (w2).cell? ⟨qv1, 1, none⟩ = some (.slice oPx n2 pPx) := (cell_of HBv1_2.out 1).trans rfl
  go_wp2_with fail
  refine (specDiskOk_any _ _ n1 cs n2 ws B _ ⟨HOCx_2.out, HOPx_2.out⟩ hn1 hn2).mono ?_
  rintro e w3 ⟨uo, rfl, htuo, bw⟩
  have hb3 : Below w.heap.size w (w3) := hb2.trans (bw.mono hb2.size)
  have HM3 : Hid ((w2).heap.size ≤ (w3).heap.size) := bw.size
  have HOCx_3 : Hid ((w3).ownsRow B 9 1 (.slice oCx n1 pCx) n1 (cs.map Value.string)) := owns_below HOCx_2.out bw (fun g hg => owns_lt HOCx_2.out hg)
  have HOPx_3 : Hid ((w3).ownsRow B 67 2 (.slice oPx n2 pPx) n2 (flatWrite ws)) := owns_below HOPx_2.out bw (fun g hg => owns_lt HOPx_2.out hg)
  have HBv1_3 : Hid ((w3).heap[qv1]? = some (.cells #[.slice oCx n1 pCx, .slice oPx n2 pPx] 27)) := blk_below HBv1_2.out bw
  have HBv2_3 : Hid ((w3).heap[qv2]? = some (.cells #[.slice none 0 0, .slice none 0 0] 27)) := blk_below HBv2_2.out bw
  clear hb2 HOCx_2 HOPx_2 HBv1_2 HBv2_2 bw
  clear cv1_0 cv1_1
  cases uo with
  | false =>
    have HNK : Hid (¬ DiskP cs ws) := fun h => nomatch htuo.2 h
    clear htuo
    have cv2_0 : (w3).cell? ⟨qv2, 0, none⟩ = some (.slice none 0 0) := (cell_of HBv2_3.out 0).trans rfl
    have fcv2_0 : (w3).frozen? ⟨qv2, 0, none⟩ = false := frozen_of HBv2_3.out 0
    have cv2_1 : (w3).cell? ⟨qv2, 1, none⟩ = some (.slice none 0 0) := (cell_of HBv2_3.out 1).trans rfl
    have fcv2_1 : (w3).frozen? ⟨qv2, 1, none⟩ = false := frozen_of HBv2_3.out 1
    go_wp2_with fail
    obtain ⟨w4, hW4⟩ : ∃ W, W = (w3).setCell ⟨qv2, 0, none⟩ (.slice none 0 0) := ⟨_, rfl⟩
    rw [← hW4]
    have hb4 : Below w.heap.size w (w4) := by rw [hW4]; exact (hb3.setCell (p := ⟨qv2, 0, none⟩) HGv2.out _)
    have HM4 : Hid ((w3).heap.size ≤ w4.heap.size) := by show _ ≤ _; rw [hW4]; simp
    have HOCx_4 : Hid ((w4).ownsRow B 9 1 (.slice oCx n1 pCx) n1 (cs.map Value.string)) := by show World.ownsRow _ _ _ _ _ _ _; rw [hW4]; exact owns_same HOCx_3.out (fun g hg => heap_setCell_other _ _ g _ (own_ne HOCx_3.out HBv2_3.out (by decide) g hg))
    have HOPx_4 : Hid ((w4).ownsRow B 67 2 (.slice oPx n2 pPx) n2 (flatWrite ws)) := by show World.ownsRow _ _ _ _ _ _ _; rw [hW4]; exact owns_same HOPx_3.out (fun g hg => heap_setCell_other _ _ g _ (own_ne HOPx_3.out HBv2_3.out (by decide) g hg))
    have HBv1_4 : Hid ((w4).heap[qv1]? = some (.cells #[.slice oCx n1 pCx, .slice oPx n2 pPx] 27)) := by show _ = _; rw [hW4, heap_setCell_other _ _ _ _ HNv1v2.out]; exact HBv1_3.out
    have HBv2_4 : Hid ((w4).heap[qv2]? = some (.cells #[.slice none 0 0, .slice none 0 0] 27)) := by show _ = _; rw [hW4]; have h := heap_set _ _ 0 _ _ _ (.slice none 0 0) HBv2_3.out; simpa using h
    clear hb3 HOCx_3 HOPx_3 HBv1_3 HBv2_3 hW4
    obtain ⟨w5, hW5⟩ : ∃ W, W = (w4).setCell ⟨qv2, 1, none⟩ (.slice none 0 0) := ⟨_, rfl⟩
    rw [← hW5]
    have hb5 : Below w.heap.size w (w5) := by rw [hW5]; exact (hb4.setCell (p := ⟨qv2, 1, none⟩) HGv2.out _)
    have HM5 : Hid ((w4).heap.size ≤ w5.heap.size) := by show _ ≤ _; rw [hW5]; simp
    have HOCx_5 : Hid ((w5).ownsRow B 9 1 (.slice oCx n1 pCx) n1 (cs.map Value.string)) := by show World.ownsRow _ _ _ _ _ _ _; rw [hW5]; exact owns_same HOCx_4.out (fun g hg => heap_setCell_other _ _ g _ (own_ne HOCx_4.out HBv2_4.out (by decide) g hg))
    have HOPx_5 : Hid ((w5).ownsRow B 67 2 (.slice oPx n2 pPx) n2 (flatWrite ws)) := by show World.ownsRow _ _ _ _ _ _ _; rw [hW5]; exact owns_same HOPx_4.out (fun g hg => heap_setCell_other _ _ g _ (own_ne HOPx_4.out HBv2_4.out (by decide) g hg))
    have HBv1_5 : Hid ((w5).heap[qv1]? = some (.cells #[.slice oCx n1 pCx, .slice oPx n2 pPx] 27)) := by show _ = _; rw [hW5, heap_setCell_other _ _ _ _ HNv1v2.out]; exact HBv1_4.out
    have HBv2_5 : Hid ((w5).heap[qv2]? = some (.cells #[.slice none 0 0, .slice none 0 0] 27)) := by show _ = _; rw [hW5]; have h := heap_set _ _ 1 _ _ _ (.slice none 0 0) HBv2_4.out; simpa using h
    clear hb4 HOCx_4 HOPx_4 HBv1_4 HBv2_4 hW5
    have kv2_0 : (w5).cell? ⟨qv2, 0, none⟩ = some (.slice none 0 0) := (cell_of HBv2_5.out 0).trans rfl
    have kv2_1 : (w5).cell? ⟨qv2, 1, none⟩ = some (.slice none 0 0) := (cell_of HBv2_5.out 1).trans rfl
    refine bodyPost_ret (v := .agg #[.slice none 0 0, .slice none 0 0]) (by simp [results, Try.results26, go_sem, kv2_0, kv2_1]) rfl ?_
    rw [landC_no HNK.out]
    exact ⟨_, _, rfl, diskO_nil _ _, hb5⟩
  | true =>
    have HOK : Hid (DiskP cs ws) := htuo.1 rfl
    clear htuo
    have cv1_0 : (w3).cell? ⟨qv1, 0, none⟩ = some (.slice oCx n1 pCx) := (cell_of HBv1_3.out 0).trans rfl
    have cv1_1 : (w3).cell? ⟨qv1, 1, none⟩ = some (.slice oPx n2 pPx) := (cell_of HBv1_3.out 1).trans rfl
    go_wp2_with fail
    refine (l12Land_all _ _ n1 cs n2 ws B _ ⟨HOCx_3.out, HOPx_3.out⟩ hn1 hn2 HOK.out).mono ?_
    rintro e w4 ⟨vv1, vv2, rfl, ⟨ownC1, ownP1⟩, bw⟩
    obtain ⟨oC1, pC1, rfl⟩ := slice_of_owns ownC1
    replace ownP1 := (show World.ownsRow _ _ _ _ vv2 0 _ from ownP1)
    obtain ⟨oP1, pP1, rfl⟩ := slice_of_owns ownP1
    have hb4 : Below w.heap.size w (w4) := hb3.trans (bw.mono hb3.size)
    have HM4 : Hid ((w3).heap.size ≤ (w4).heap.size) := bw.size
    have HOCx_4 : Hid ((w4).ownsRow B 9 1 (.slice oCx n1 pCx) n1 (cs.map Value.string)) := owns_below HOCx_3.out bw (fun g hg => owns_lt HOCx_3.out hg)
    have HOPx_4 : Hid ((w4).ownsRow B 67 2 (.slice oPx n2 pPx) n2 (flatWrite ws)) := owns_below HOPx_3.out bw (fun g hg => owns_lt HOPx_3.out hg)
    have HBv1_4 : Hid ((w4).heap[qv1]? = some (.cells #[.slice oCx n1 pCx, .slice oPx n2 pPx] 27)) := blk_below HBv1_3.out bw
    have HBv2_4 : Hid ((w4).heap[qv2]? = some (.cells #[.slice none 0 0, .slice none 0 0] 27)) := blk_below HBv2_3.out bw
    have HOC1_4 : Hid ((w4).ownsRow w.heap.size 9 1 (.slice oC1 (landTo cs ws (fun _ => true) ws.length).length pC1) (landTo cs ws (fun _ => true) ws.length).length ((landTo cs ws (fun _ => true) ws.length).map Value.string)) := owns_wide ownC1 hb3.size
    have LOC1 : Hid (∀ g, (Value.ownBlock (.slice oC1 (landTo cs ws (fun _ => true) ws.length).length pC1)) = some g → (w3).heap.size ≤ g) := fun g hg => owns_ge ownC1 hg
    have HIC1 : Hid (∀ g, (Value.ownBlock (.slice oC1 (landTo cs ws (fun _ => true) ws.length).length pC1)) = some g → g < (w4).heap.size) := fun g hg => owns_lt ownC1 hg
    clear ownC1
    have HOP1_4 : Hid ((w4).ownsRow w.heap.size 67 2 (.slice oP1 0 pP1) 0 (flatWrite [])) := owns_wide ownP1 hb3.size
    have LOP1 : Hid (∀ g, (Value.ownBlock (.slice oP1 0 pP1)) = some g → (w3).heap.size ≤ g) := fun g hg => owns_ge ownP1 hg
    have HIP1 : Hid (∀ g, (Value.ownBlock (.slice oP1 0 pP1)) = some g → g < (w4).heap.size) := fun g hg => owns_lt ownP1 hg
    clear ownP1
    clear hb3 HOCx_3 HOPx_3 HBv1_3 HBv2_3 bw
    clear cv1_0 cv1_1
    have cv2_0 : (w4).cell? ⟨qv2, 0, none⟩ = some (.slice none 0 0) := (cell_of HBv2_4.out 0).trans rfl
    have fcv2_0 : (w4).frozen? ⟨qv2, 0, none⟩ = false := frozen_of HBv2_4.out 0
    have cv2_1 : (w4).cell? ⟨qv2, 1, none⟩ = some (.slice none 0 0) := (cell_of HBv2_4.out 1).trans rfl
    have fcv2_1 : (w4).frozen? ⟨qv2, 1, none⟩ = false := frozen_of HBv2_4.out 1
    go_wp2_with fail
    obtain ⟨w5, hW5⟩ : ∃ W, W = (w4).setCell ⟨qv2, 0, none⟩ (.slice oC1 (landTo cs ws (fun _ => true) ws.length).length pC1) := ⟨_, rfl⟩
    rw [← hW5]
    have hb5 : Below w.heap.size w (w5) := by rw [hW5]; exact (hb4.setCell (p := ⟨qv2, 0, none⟩) HGv2.out _)
    have HM5 : Hid ((w4).heap.size ≤ w5.heap.size) := by show _ ≤ _; rw [hW5]; simp
    have HOCx_5 : Hid ((w5).ownsRow B 9 1 (.slice oCx n1 pCx) n1 (cs.map Value.string)) := by show World.ownsRow _ _ _ _ _ _ _; rw [hW5]; exact owns_same HOCx_4.out (fun g hg => heap_setCell_other _ _ g _ (own_ne HOCx_4.out HBv2_4.out (by decide) g hg))
    have HOPx_5 : Hid ((w5).ownsRow B 67 2 (.slice oPx n2 pPx) n2 (flatWrite ws)) := by show World.ownsRow _ _ _ _ _ _ _; rw [hW5]; exact owns_same HOPx_4.out (fun g hg => heap_setCell_other _ _ g _ (own_ne HOPx_4.out HBv2_4.out (by decide) g hg))
    have HOC1_5 : Hid ((w5).ownsRow w.heap.size 9 1 (.slice oC1 (landTo cs ws (fun _ => true) ws.length).length pC1) (landTo cs ws (fun _ => true) ws.length).length ((landTo cs ws (fun _ => true) ws.length).map Value.string)) := by show World.ownsRow _ _ _ _ _ _ _; rw [hW5]; exact owns_same HOC1_4.out (fun g hg => heap_setCell_other _ _ g _ (own_ne HOC1_4.out HBv2_4.out (by decide) g hg))
    have HOP1_5 : Hid ((w5).ownsRow w.heap.size 67 2 (.slice oP1 0 pP1) 0 (flatWrite [])) := by show World.ownsRow _ _ _ _ _ _ _; rw [hW5]; exact owns_same HOP1_4.out (fun g hg => heap_setCell_other _ _ g _ (own_ne HOP1_4.out HBv2_4.out (by decide) g hg))
    have HBv1_5 : Hid ((w5).heap[qv1]? = some (.cells #[.slice oCx n1 pCx, .slice oPx n2 pPx] 27)) := by show _ = _; rw [hW5, heap_setCell_other _ _ _ _ HNv1v2.out]; exact HBv1_4.out
    have HBv2_5 : Hid ((w5).heap[qv2]? = some (.cells #[.slice oC1 (landTo cs ws (fun _ => true) ws.length).length pC1, .slice none 0 0] 27)) := by show _ = _; rw [hW5]; have h := heap_set _ _ 0 _ _ _ (.slice oC1 (landTo cs ws (fun _ => true) ws.length).length pC1) HBv2_4.out; simpa using h
    clear hb4 HOCx_4 HOPx_4 HOC1_4 HOP1_4 HBv1_4 HBv2_4 hW5
    obtain ⟨w6, hW6⟩ : ∃ W, W = (w5).setCell ⟨qv2, 1, none⟩ (.slice oP1 0 pP1) := ⟨_, rfl⟩
    rw [← hW6]
    have hb6 : Below w.heap.size w (w6) := by rw [hW6]; exact (hb5.setCell (p := ⟨qv2, 1, none⟩) HGv2.out _)
    have HM6 : Hid ((w5).heap.size ≤ w6.heap.size) := by show _ ≤ _; rw [hW6]; simp
    have HOCx_6 : Hid ((w6).ownsRow B 9 1 (.slice oCx n1 pCx) n1 (cs.map Value.string)) := by show World.ownsRow _ _ _ _ _ _ _; rw [hW6]; exact owns_same HOCx_5.out (fun g hg => heap_setCell_other _ _ g _ (own_ne HOCx_5.out HBv2_5.out (by decide) g hg))
    have HOPx_6 : Hid ((w6).ownsRow B 67 2 (.slice oPx n2 pPx) n2 (flatWrite ws)) := by show World.ownsRow _ _ _ _ _ _ _; rw [hW6]; exact owns_same HOPx_5.out (fun g hg => heap_setCell_other _ _ g _ (own_ne HOPx_5.out HBv2_5.out (by decide) g hg))
    have HOC1_6 : Hid ((w6).ownsRow w.heap.size 9 1 (.slice oC1 (landTo cs ws (fun _ => true) ws.length).length pC1) (landTo cs ws (fun _ => true) ws.length).length ((landTo cs ws (fun _ => true) ws.length).map Value.string)) := by show World.ownsRow _ _ _ _ _ _ _; rw [hW6]; exact owns_same HOC1_5.out (fun g hg => heap_setCell_other _ _ g _ (own_ne HOC1_5.out HBv2_5.out (by decide) g hg))
    have HOP1_6 : Hid ((w6).ownsRow w.heap.size 67 2 (.slice oP1 0 pP1) 0 (flatWrite [])) := by show World.ownsRow _ _ _ _ _ _ _; rw [hW6]; exact owns_same HOP1_5.out (fun g hg => heap_setCell_other _ _ g _ (own_ne HOP1_5.out HBv2_5.out (by decide) g hg))
    have HBv1_6 : Hid ((w6).heap[qv1]? = some (.cells #[.slice oCx n1 pCx, .slice oPx n2 pPx] 27)) := by show _ = _; rw [hW6, heap_setCell_other _ _ _ _ HNv1v2.out]; exact HBv1_5.out
    have HBv2_6 : Hid ((w6).heap[qv2]? = some (.cells #[.slice oC1 (landTo cs ws (fun _ => true) ws.length).length pC1, .slice oP1 0 pP1] 27)) := by show _ = _; rw [hW6]; have h := heap_set _ _ 1 _ _ _ (.slice oP1 0 pP1) HBv2_5.out; simpa using h
    clear hb5 HOCx_5 HOPx_5 HOC1_5 HOP1_5 HBv1_5 HBv2_5 hW6
    have kv2_0 : (w6).cell? ⟨qv2, 0, none⟩ = some (.slice oC1 (landTo cs ws (fun _ => true) ws.length).length pC1) := (cell_of HBv2_6.out 0).trans rfl
    have kv2_1 : (w6).cell? ⟨qv2, 1, none⟩ = some (.slice oP1 0 pP1) := (cell_of HBv2_6.out 1).trans rfl
    refine bodyPost_ret (v := .agg #[.slice oC1 (landTo cs ws (fun _ => true) ws.length).length pC1, .slice oP1 0 pP1]) (by simp [results, Try.results26, go_sem, kv2_0, kv2_1]) rfl ?_
    rw [landC_yes HOK.out]
    exact ⟨_, _, rfl, ⟨HOC1_6.out, HOP1_6.out⟩, hb6⟩

set_option maxHeartbeats 8000000 in
set_option maxRecDepth 100000 in
theorem specDiskPut_no (o1 : Option Addr) (n1 c1 : Nat) (hno : ¬ n1 = 20) (v2 : Value) (n2 : Nat) (ws : List (Int × ByteArray)) (B : Nat) (w : World) (h : w.ownsRow B 67 2 v2 n2 (flatWrite ws)) (hn2 : n2 ≤ 2000000) (x : Int) (t : ByteArray) :
    Calls Try.prog 22 #[.agg #[.slice o1 n1 c1, v2], .int .i64 x, .string t] w fun e w' => DiskIsB [] [] false w e w' := by
  have HNO : Hid (¬ n1 = 20) := hno
  clear hno
  obtain ⟨oPx, pPx, rfl⟩ := slice_of_owns h
  have HOPx_0 : Hid ((w).ownsRow B 67 2 (.slice oPx n2 pPx) n2 (flatWrite ws)) := h
  have HIPx : Hid (∀ g, (Value.ownBlock (.slice oPx n2 pPx)) = some g → g < w.heap.size) := fun g hg => owns_lt h hg
  clear h
  have hb0 : Below w.heap.size w w := Below.refl _ _
  go_enter Try.func22, Try.ntmps22
  go_upto_region 1 with fail
  obtain ⟨qv1, hqv1⟩ : ∃ q, q = (w).heap.size := ⟨_, rfl⟩
  obtain ⟨w1, hW1⟩ : ∃ W, W = (w).alloc (.cells #[.slice o1 n1 c1, .slice oPx n2 pPx] 27) := ⟨_, rfl⟩
  have hz1 : (w).heap.size = qv1 := hqv1.symm
  first | rw [← hW1, ← hqv1] | rw [← hW1]
  have hs1 : w1.heap.size = qv1 + 1 := by rw [hW1, ← hz1]; simp
  have bw : Below (w).heap.size (w) w1 := by rw [hW1]; exact (Below.refl _ _).alloc (Nat.le_refl _) _
  have hb1 : Below w.heap.size w (w1) := hb0.trans (bw.mono hb0.size)
  have HM1 : Hid ((w).heap.size ≤ (w1).heap.size) := bw.size
  have HOPx_1 : Hid ((w1).ownsRow B 67 2 (.slice oPx n2 pPx) n2 (flatWrite ws)) := owns_below HOPx_0.out bw (fun g hg => owns_lt HOPx_0.out hg)
  have HBv1_1 : Hid ((w1).heap[qv1]? = some (.cells #[.slice o1 n1 c1, .slice oPx n2 pPx] 27)) := by show _ = _; rw [hW1, ← hz1]; exact heap_alloc_new _ _
  have HGv1 : Hid (w.heap.size ≤ qv1) := by show _ ≤ _; rw [← hz1]; exact hb0.size
  clear hb0 HOPx_0 bw hW1 hz1
  obtain ⟨qv2, hqv2⟩ : ∃ q, q = qv1 + 1 := ⟨_, rfl⟩
  obtain ⟨w2, hW2⟩ : ∃ W, W = (w1).alloc (.cells #[.slice none 0 0, .slice none 0 0] 27) := ⟨_, rfl⟩
  have hz2 : (w1).heap.size = qv2 := by rw [hqv2]; exact hs1
  first | rw [← hW2, ← hqv2] | rw [← hW2]
  have hs2 : w2.heap.size = qv2 + 1 := by rw [hW2, ← hz2]; simp
  have bw : Below (w1).heap.size (w1) w2 := by rw [hW2]; exact (Below.refl _ _).alloc (Nat.le_refl _) _
  have hb2 : Below w.heap.size w (w2) := hb1.trans (bw.mono hb1.size)
  have HM2 : Hid ((w1).heap.size ≤ (w2).heap.size) := bw.size
  have HOPx_2 : Hid ((w2).ownsRow B 67 2 (.slice oPx n2 pPx) n2 (flatWrite ws)) := owns_below HOPx_1.out bw (fun g hg => owns_lt HOPx_1.out hg)
  have HBv1_2 : Hid ((w2).heap[qv1]? = some (.cells #[.slice o1 n1 c1, .slice oPx n2 pPx] 27)) := blk_below HBv1_1.out bw
  have HNv1v2 : Hid (qv1 ≠ qv2) := fun e => by have h1 := (Array.getElem?_eq_some_iff.1 HBv1_1.out).1; omega
  have HBv2_2 : Hid ((w2).heap[qv2]? = some (.cells #[.slice none 0 0, .slice none 0 0] 27)) := by show _ = _; rw [hW2, ← hz2]; exact heap_alloc_new _ _
  have HGv2 : Hid (w.heap.size ≤ qv2) := by show _ ≤ _; rw [← hz2]; exact hb1.size
  clear hb1 HOPx_1 HBv1_1 bw hW2 hz2
  clear hs2 hqv2 hs1 hqv1
  have cv1_0 : (w2).cell? ⟨qv1, 0, none⟩ = some (.slice o1 n1 c1) := (cell_of HBv1_2.out 0).trans rfl
  have cv1_1 : (w2).cell? ⟨qv1, 1, none⟩ = some (.slice oPx n2 pPx) := (cell_of HBv1_2.out 1).trans rfl
  go_wp2_with fail
  refine (specDiskOk_len o1 n1 c1 _ n2 ws B _ HOPx_2.out hn2).mono ?_
  rintro e w3 ⟨uo, rfl, htuo, bw⟩
  obtain rfl : false = uo := by cases uo with
    | false => rfl
    | true => exact absurd (htuo.1 rfl).1 HNO.out
  clear htuo
  have hb3 : Below w.heap.size w (w3) := hb2.trans (bw.mono hb2.size)
  have HM3 : Hid ((w2).heap.size ≤ (w3).heap.size) := bw.size
  have HOPx_3 : Hid ((w3).ownsRow B 67 2 (.slice oPx n2 pPx) n2 (flatWrite ws)) := owns_below HOPx_2.out bw (fun g hg => owns_lt HOPx_2.out hg)
  have HBv1_3 : Hid ((w3).heap[qv1]? = some (.cells #[.slice o1 n1 c1, .slice oPx n2 pPx] 27)) := blk_below HBv1_2.out bw
  have HBv2_3 : Hid ((w3).heap[qv2]? = some (.cells #[.slice none 0 0, .slice none 0 0] 27)) := blk_below HBv2_2.out bw
  clear hb2 HOPx_2 HBv1_2 HBv2_2 bw
  clear cv1_0 cv1_1
  have cv2_0 : (w3).cell? ⟨qv2, 0, none⟩ = some (.slice none 0 0) := (cell_of HBv2_3.out 0).trans rfl
  have fcv2_0 : (w3).frozen? ⟨qv2, 0, none⟩ = false := frozen_of HBv2_3.out 0
  have cv2_1 : (w3).cell? ⟨qv2, 1, none⟩ = some (.slice none 0 0) := (cell_of HBv2_3.out 1).trans rfl
  have fcv2_1 : (w3).frozen? ⟨qv2, 1, none⟩ = false := frozen_of HBv2_3.out 1
  go_wp2_with fail
  obtain ⟨w4, hW4⟩ : ∃ W, W = (w3).setCell ⟨qv2, 0, none⟩ (.slice none 0 0) := ⟨_, rfl⟩
  rw [← hW4]
  have hb4 : Below w.heap.size w (w4) := by rw [hW4]; exact (hb3.setCell (p := ⟨qv2, 0, none⟩) HGv2.out _)
  have HM4 : Hid ((w3).heap.size ≤ w4.heap.size) := by show _ ≤ _; rw [hW4]; simp
  have HOPx_4 : Hid ((w4).ownsRow B 67 2 (.slice oPx n2 pPx) n2 (flatWrite ws)) := by show World.ownsRow _ _ _ _ _ _ _; rw [hW4]; exact owns_same HOPx_3.out (fun g hg => heap_setCell_other _ _ g _ (own_ne HOPx_3.out HBv2_3.out (by decide) g hg))
  have HBv1_4 : Hid ((w4).heap[qv1]? = some (.cells #[.slice o1 n1 c1, .slice oPx n2 pPx] 27)) := by show _ = _; rw [hW4, heap_setCell_other _ _ _ _ HNv1v2.out]; exact HBv1_3.out
  have HBv2_4 : Hid ((w4).heap[qv2]? = some (.cells #[.slice none 0 0, .slice none 0 0] 27)) := by show _ = _; rw [hW4]; have h := heap_set _ _ 0 _ _ _ (.slice none 0 0) HBv2_3.out; simpa using h
  clear hb3 HOPx_3 HBv1_3 HBv2_3 hW4
  obtain ⟨w5, hW5⟩ : ∃ W, W = (w4).setCell ⟨qv2, 1, none⟩ (.slice none 0 0) := ⟨_, rfl⟩
  rw [← hW5]
  have hb5 : Below w.heap.size w (w5) := by rw [hW5]; exact (hb4.setCell (p := ⟨qv2, 1, none⟩) HGv2.out _)
  have HM5 : Hid ((w4).heap.size ≤ w5.heap.size) := by show _ ≤ _; rw [hW5]; simp
  have HOPx_5 : Hid ((w5).ownsRow B 67 2 (.slice oPx n2 pPx) n2 (flatWrite ws)) := by show World.ownsRow _ _ _ _ _ _ _; rw [hW5]; exact owns_same HOPx_4.out (fun g hg => heap_setCell_other _ _ g _ (own_ne HOPx_4.out HBv2_4.out (by decide) g hg))
  have HBv1_5 : Hid ((w5).heap[qv1]? = some (.cells #[.slice o1 n1 c1, .slice oPx n2 pPx] 27)) := by show _ = _; rw [hW5, heap_setCell_other _ _ _ _ HNv1v2.out]; exact HBv1_4.out
  have HBv2_5 : Hid ((w5).heap[qv2]? = some (.cells #[.slice none 0 0, .slice none 0 0] 27)) := by show _ = _; rw [hW5]; have h := heap_set _ _ 1 _ _ _ (.slice none 0 0) HBv2_4.out; simpa using h
  clear hb4 HOPx_4 HBv1_4 HBv2_4 hW5
  have kv2_0 : (w5).cell? ⟨qv2, 0, none⟩ = some (.slice none 0 0) := (cell_of HBv2_5.out 0).trans rfl
  have kv2_1 : (w5).cell? ⟨qv2, 1, none⟩ = some (.slice none 0 0) := (cell_of HBv2_5.out 1).trans rfl
  refine bodyPost_ret (v := .tuple #[.agg #[.slice none 0 0, .slice none 0 0], .bool false]) (by simp [results, Try.results22, go_sem, kv2_0, kv2_1]) rfl ?_
  exact ⟨_, _, rfl, diskO_nil _ _, hb5⟩

set_option maxHeartbeats 8000000 in
set_option maxRecDepth 100000 in
theorem specDiskGet_no (o1 : Option Addr) (n1 c1 : Nat) (hno : ¬ n1 = 20) (v2 : Value) (n2 : Nat) (ws : List (Int × ByteArray)) (B : Nat) (w : World) (h : w.ownsRow B 67 2 v2 n2 (flatWrite ws)) (hn2 : n2 ≤ 2000000) (x : Int) :
    Calls Try.prog 24 #[.agg #[.slice o1 n1 c1, v2], .int .i64 x] w fun e w' => TextIs ⟨#[]⟩ w e w' := by
  have HNO : Hid (¬ n1 = 20) := hno
  clear hno
  obtain ⟨oPx, pPx, rfl⟩ := slice_of_owns h
  have HOPx_0 : Hid ((w).ownsRow B 67 2 (.slice oPx n2 pPx) n2 (flatWrite ws)) := h
  have HIPx : Hid (∀ g, (Value.ownBlock (.slice oPx n2 pPx)) = some g → g < w.heap.size) := fun g hg => owns_lt h hg
  clear h
  have hb0 : Below w.heap.size w w := Below.refl _ _
  go_enter Try.func24, Try.ntmps24
  go_upto_region 1 with fail
  obtain ⟨qv1, hqv1⟩ : ∃ q, q = (w).heap.size := ⟨_, rfl⟩
  obtain ⟨w1, hW1⟩ : ∃ W, W = (w).alloc (.cells #[.slice o1 n1 c1, .slice oPx n2 pPx] 27) := ⟨_, rfl⟩
  have hz1 : (w).heap.size = qv1 := hqv1.symm
  first | rw [← hW1, ← hqv1] | rw [← hW1]
  have hs1 : w1.heap.size = qv1 + 1 := by rw [hW1, ← hz1]; simp
  have bw : Below (w).heap.size (w) w1 := by rw [hW1]; exact (Below.refl _ _).alloc (Nat.le_refl _) _
  have hb1 : Below w.heap.size w (w1) := hb0.trans (bw.mono hb0.size)
  have HM1 : Hid ((w).heap.size ≤ (w1).heap.size) := bw.size
  have HOPx_1 : Hid ((w1).ownsRow B 67 2 (.slice oPx n2 pPx) n2 (flatWrite ws)) := owns_below HOPx_0.out bw (fun g hg => owns_lt HOPx_0.out hg)
  have HBv1_1 : Hid ((w1).heap[qv1]? = some (.cells #[.slice o1 n1 c1, .slice oPx n2 pPx] 27)) := by show _ = _; rw [hW1, ← hz1]; exact heap_alloc_new _ _
  have HGv1 : Hid (w.heap.size ≤ qv1) := by show _ ≤ _; rw [← hz1]; exact hb0.size
  clear hb0 HOPx_0 bw hW1 hz1
  clear hs1 hqv1
  have cv1_0 : (w1).cell? ⟨qv1, 0, none⟩ = some (.slice o1 n1 c1) := (cell_of HBv1_1.out 0).trans rfl
  have cv1_1 : (w1).cell? ⟨qv1, 1, none⟩ = some (.slice oPx n2 pPx) := (cell_of HBv1_1.out 1).trans rfl
  go_wp2_with fail
  refine (specDiskOk_len o1 n1 c1 _ n2 ws B _ HOPx_1.out hn2).mono ?_
  rintro e w2 ⟨uo, rfl, htuo, bw⟩
  obtain rfl : false = uo := by cases uo with
    | false => rfl
    | true => exact absurd (htuo.1 rfl).1 HNO.out
  clear htuo
  have hb2 : Below w.heap.size w (w2) := hb1.trans (bw.mono hb1.size)
  have HM2 : Hid ((w1).heap.size ≤ (w2).heap.size) := bw.size
  have HOPx_2 : Hid ((w2).ownsRow B 67 2 (.slice oPx n2 pPx) n2 (flatWrite ws)) := owns_below HOPx_1.out bw (fun g hg => owns_lt HOPx_1.out hg)
  have HBv1_2 : Hid ((w2).heap[qv1]? = some (.cells #[.slice o1 n1 c1, .slice oPx n2 pPx] 27)) := blk_below HBv1_1.out bw
  clear hb1 HOPx_1 HBv1_1 bw
  clear cv1_0 cv1_1
  go_wp2_with fail
  go_ret
  exact ⟨rfl, hb2⟩

set_option maxHeartbeats 8000000 in
set_option maxRecDepth 100000 in
theorem specFlush_no (o1 : Option Addr) (n1 c1 : Nat) (hno : ¬ n1 = 20) (v2 : Value) (n2 : Nat) (ws : List (Int × ByteArray)) (B : Nat) (w : World) (h : w.ownsRow B 67 2 v2 n2 (flatWrite ws)) (hn2 : n2 ≤ 2000000) :
    Calls Try.prog 26 #[.agg #[.slice o1 n1 c1, v2]] w fun e w' => DiskIs [] [] w e w' := by
  have HNO : Hid (¬ n1 = 20) := hno
  clear hno
  obtain ⟨oPx, pPx, rfl⟩ := slice_of_owns h
  have HOPx_0 : Hid ((w).ownsRow B 67 2 (.slice oPx n2 pPx) n2 (flatWrite ws)) := h
  have HIPx : Hid (∀ g, (Value.ownBlock (.slice oPx n2 pPx)) = some g → g < w.heap.size) := fun g hg => owns_lt h hg
  clear h
  have hb0 : Below w.heap.size w w := Below.refl _ _
  go_enter Try.func26, Try.ntmps26
  go_upto_region 1 with fail
  obtain ⟨qv1, hqv1⟩ : ∃ q, q = (w).heap.size := ⟨_, rfl⟩
  obtain ⟨w1, hW1⟩ : ∃ W, W = (w).alloc (.cells #[.slice o1 n1 c1, .slice oPx n2 pPx] 27) := ⟨_, rfl⟩
  have hz1 : (w).heap.size = qv1 := hqv1.symm
  first | rw [← hW1, ← hqv1] | rw [← hW1]
  have hs1 : w1.heap.size = qv1 + 1 := by rw [hW1, ← hz1]; simp
  have bw : Below (w).heap.size (w) w1 := by rw [hW1]; exact (Below.refl _ _).alloc (Nat.le_refl _) _
  have hb1 : Below w.heap.size w (w1) := hb0.trans (bw.mono hb0.size)
  have HM1 : Hid ((w).heap.size ≤ (w1).heap.size) := bw.size
  have HOPx_1 : Hid ((w1).ownsRow B 67 2 (.slice oPx n2 pPx) n2 (flatWrite ws)) := owns_below HOPx_0.out bw (fun g hg => owns_lt HOPx_0.out hg)
  have HBv1_1 : Hid ((w1).heap[qv1]? = some (.cells #[.slice o1 n1 c1, .slice oPx n2 pPx] 27)) := by show _ = _; rw [hW1, ← hz1]; exact heap_alloc_new _ _
  have HGv1 : Hid (w.heap.size ≤ qv1) := by show _ ≤ _; rw [← hz1]; exact hb0.size
  clear hb0 HOPx_0 bw hW1 hz1
  obtain ⟨qv2, hqv2⟩ : ∃ q, q = qv1 + 1 := ⟨_, rfl⟩
  obtain ⟨w2, hW2⟩ : ∃ W, W = (w1).alloc (.cells #[.slice none 0 0, .slice none 0 0] 27) := ⟨_, rfl⟩
  have hz2 : (w1).heap.size = qv2 := by rw [hqv2]; exact hs1
  first | rw [← hW2, ← hqv2] | rw [← hW2]
  have hs2 : w2.heap.size = qv2 + 1 := by rw [hW2, ← hz2]; simp
  have bw : Below (w1).heap.size (w1) w2 := by rw [hW2]; exact (Below.refl _ _).alloc (Nat.le_refl _) _
  have hb2 : Below w.heap.size w (w2) := hb1.trans (bw.mono hb1.size)
  have HM2 : Hid ((w1).heap.size ≤ (w2).heap.size) := bw.size
  have HOPx_2 : Hid ((w2).ownsRow B 67 2 (.slice oPx n2 pPx) n2 (flatWrite ws)) := owns_below HOPx_1.out bw (fun g hg => owns_lt HOPx_1.out hg)
  have HBv1_2 : Hid ((w2).heap[qv1]? = some (.cells #[.slice o1 n1 c1, .slice oPx n2 pPx] 27)) := blk_below HBv1_1.out bw
  have HNv1v2 : Hid (qv1 ≠ qv2) := fun e => by have h1 := (Array.getElem?_eq_some_iff.1 HBv1_1.out).1; omega
  have HBv2_2 : Hid ((w2).heap[qv2]? = some (.cells #[.slice none 0 0, .slice none 0 0] 27)) := by show _ = _; rw [hW2, ← hz2]; exact heap_alloc_new _ _
  have HGv2 : Hid (w.heap.size ≤ qv2) := by show _ ≤ _; rw [← hz2]; exact hb1.size
  clear hb1 HOPx_1 HBv1_1 bw hW2 hz2
  clear hs2 hqv2 hs1 hqv1
  have cv1_0 : (w2).cell? ⟨qv1, 0, none⟩ = some (.slice o1 n1 c1) := (cell_of HBv1_2.out 0).trans rfl
  have cv1_1 : (w2).cell? ⟨qv1, 1, none⟩ = some (.slice oPx n2 pPx) := (cell_of HBv1_2.out 1).trans rfl
  go_wp2_with fail
  refine (specDiskOk_len o1 n1 c1 _ n2 ws B _ HOPx_2.out hn2).mono ?_
  rintro e w3 ⟨uo, rfl, htuo, bw⟩
  obtain rfl : false = uo := by cases uo with
    | false => rfl
    | true => exact absurd (htuo.1 rfl).1 HNO.out
  clear htuo
  have hb3 : Below w.heap.size w (w3) := hb2.trans (bw.mono hb2.size)
  have HM3 : Hid ((w2).heap.size ≤ (w3).heap.size) := bw.size
  have HOPx_3 : Hid ((w3).ownsRow B 67 2 (.slice oPx n2 pPx) n2 (flatWrite ws)) := owns_below HOPx_2.out bw (fun g hg => owns_lt HOPx_2.out hg)
  have HBv1_3 : Hid ((w3).heap[qv1]? = some (.cells #[.slice o1 n1 c1, .slice oPx n2 pPx] 27)) := blk_below HBv1_2.out bw
  have HBv2_3 : Hid ((w3).heap[qv2]? = some (.cells #[.slice none 0 0, .slice none 0 0] 27)) := blk_below HBv2_2.out bw
  clear hb2 HOPx_2 HBv1_2 HBv2_2 bw
  clear cv1_0 cv1_1
  have cv2_0 : (w3).cell? ⟨qv2, 0, none⟩ = some (.slice none 0 0) := (cell_of HBv2_3.out 0).trans rfl
  have fcv2_0 : (w3).frozen? ⟨qv2, 0, none⟩ = false := frozen_of HBv2_3.out 0
  have cv2_1 : (w3).cell? ⟨qv2, 1, none⟩ = some (.slice none 0 0) := (cell_of HBv2_3.out 1).trans rfl
  have fcv2_1 : (w3).frozen? ⟨qv2, 1, none⟩ = false := frozen_of HBv2_3.out 1
  go_wp2_with fail
  obtain ⟨w4, hW4⟩ : ∃ W, W = (w3).setCell ⟨qv2, 0, none⟩ (.slice none 0 0) := ⟨_, rfl⟩
  rw [← hW4]
  have hb4 : Below w.heap.size w (w4) := by rw [hW4]; exact (hb3.setCell (p := ⟨qv2, 0, none⟩) HGv2.out _)
  have HM4 : Hid ((w3).heap.size ≤ w4.heap.size) := by show _ ≤ _; rw [hW4]; simp
  have HOPx_4 : Hid ((w4).ownsRow B 67 2 (.slice oPx n2 pPx) n2 (flatWrite ws)) := by show World.ownsRow _ _ _ _ _ _ _; rw [hW4]; exact owns_same HOPx_3.out (fun g hg => heap_setCell_other _ _ g _ (own_ne HOPx_3.out HBv2_3.out (by decide) g hg))
  have HBv1_4 : Hid ((w4).heap[qv1]? = some (.cells #[.slice o1 n1 c1, .slice oPx n2 pPx] 27)) := by show _ = _; rw [hW4, heap_setCell_other _ _ _ _ HNv1v2.out]; exact HBv1_3.out
  have HBv2_4 : Hid ((w4).heap[qv2]? = some (.cells #[.slice none 0 0, .slice none 0 0] 27)) := by show _ = _; rw [hW4]; have h := heap_set _ _ 0 _ _ _ (.slice none 0 0) HBv2_3.out; simpa using h
  clear hb3 HOPx_3 HBv1_3 HBv2_3 hW4
  obtain ⟨w5, hW5⟩ : ∃ W, W = (w4).setCell ⟨qv2, 1, none⟩ (.slice none 0 0) := ⟨_, rfl⟩
  rw [← hW5]
  have hb5 : Below w.heap.size w (w5) := by rw [hW5]; exact (hb4.setCell (p := ⟨qv2, 1, none⟩) HGv2.out _)
  have HM5 : Hid ((w4).heap.size ≤ w5.heap.size) := by show _ ≤ _; rw [hW5]; simp
  have HOPx_5 : Hid ((w5).ownsRow B 67 2 (.slice oPx n2 pPx) n2 (flatWrite ws)) := by show World.ownsRow _ _ _ _ _ _ _; rw [hW5]; exact owns_same HOPx_4.out (fun g hg => heap_setCell_other _ _ g _ (own_ne HOPx_4.out HBv2_4.out (by decide) g hg))
  have HBv1_5 : Hid ((w5).heap[qv1]? = some (.cells #[.slice o1 n1 c1, .slice oPx n2 pPx] 27)) := by show _ = _; rw [hW5, heap_setCell_other _ _ _ _ HNv1v2.out]; exact HBv1_4.out
  have HBv2_5 : Hid ((w5).heap[qv2]? = some (.cells #[.slice none 0 0, .slice none 0 0] 27)) := by show _ = _; rw [hW5]; have h := heap_set _ _ 1 _ _ _ (.slice none 0 0) HBv2_4.out; simpa using h
  clear hb4 HOPx_4 HBv1_4 HBv2_4 hW5
  have kv2_0 : (w5).cell? ⟨qv2, 0, none⟩ = some (.slice none 0 0) := (cell_of HBv2_5.out 0).trans rfl
  have kv2_1 : (w5).cell? ⟨qv2, 1, none⟩ = some (.slice none 0 0) := (cell_of HBv2_5.out 1).trans rfl
  refine bodyPost_ret (v := .agg #[.slice none 0 0, .slice none 0 0]) (by simp [results, Try.results26, go_sem, kv2_0, kv2_1]) rfl ?_
  exact ⟨_, _, rfl, diskO_nil _ _, hb5⟩

end Go.Proofs.Ytckjbgpdbehmaaa

namespace Go.Proofs.Ytckjbgpdbehmaaa
open Go.RowKit
open Go.Lib hiding intOf

/-- A right disk of short texts. -/
def RightD (cs : List ByteArray) (ws : List (Int × ByteArray)) : Prop := DiskP cs ws ∧ (∀ x ∈ cs, x.size ≤ 64) ∧ ∀ x ∈ ws, (x.2).size ≤ 64
theorem right_new : RightD newC [] := by
  refine ⟨⟨rfl, by decide, fun x hx => by simp at hx⟩, fun x hx => ?_, fun x hx => by simp at hx⟩
  rw [List.eq_of_mem_replicate hx]
  decide
theorem right_put {cs : List ByteArray} {ws : List (Int × ByteArray)} (h : RightD cs ws) (x : Int) {t : ByteArray} (ht : t.size ≤ 64) : RightD (putC cs ws) (putW cs ws x t) := by
  have e := (diskB_iff cs ws).2 h.1
  have e1 : putC cs ws = cs := by unfold putC; rw [if_pos e]
  rw [e1]
  unfold putW
  split
  · rename_i hb
    have hb2 := hb
    unfold putB at hb2
    rw [Bool.and_eq_true, Bool.and_eq_true, decide_eq_true_iff, cellB_iff] at hb2
    refine ⟨put_right h.1 hb2.2.1 (x, t) hb2.2.2.1 hb2.2.2.2, h.2.1, fun y hy => ?_⟩
    rcases List.mem_append.1 hy with hy | hy
    · exact h.2.2 y hy
    · rw [List.mem_singleton.1 hy]; exact ht
  · first | exact h | (rw [if_pos e]; exact h)
theorem right_land {cs : List ByteArray} {ws : List (Int × ByteArray)} (h : RightD cs ws) (f : Nat → Bool) : RightD (landC cs ws f) [] := by
  rw [landC_yes h.1]
  refine ⟨landed_right h.1 f _, ?_, fun x hx => by simp at hx⟩
  have key : ∀ k, k ≤ ws.length → ∀ x ∈ landTo cs ws f k, x.size ≤ 64 := by
    intro k
    induction k with
    | zero => intro _; exact h.2.1
    | succ k ih =>
      intro hk x hx
      rw [landTo] at hx
      split at hx
      · rcases List.mem_or_eq_of_mem_set hx with hx | hx
        · exact ih (by omega) x hx
        · rw [hx]; exact h.2.2 _ (writeAt_mem ws k (by omega))
      · exact ih (by omega) x hx
  exact key _ (Nat.le_refl _)
/-- A call answers a right disk of its own. -/
def RightIs (w : World) (e : Ending) (w' : World) : Prop :=
  ∃ v1 v2 cs ws, e = .returned (.agg #[v1, v2]) ∧ DiskO w' w.heap.size v1 cs.length cs v2 ws.length ws ∧ RightD cs ws ∧ Below w.heap.size w w'
def RightIsB (w : World) (e : Ending) (w' : World) : Prop :=
  ∃ v1 v2 cs ws ob, e = .returned (.tuple #[.agg #[v1, v2], .bool ob]) ∧ DiskO w' w.heap.size v1 cs.length cs v2 ws.length ws ∧ RightD cs ws ∧ Below w.heap.size w w'
theorem specNew_right (w : World) : Calls Try.prog 31 #[] w fun e w' => RightIs w e w' :=
  (specDiskNew_any w).mono fun _ _ ⟨v1, v2, h1, h2, h3⟩ => ⟨v1, v2, _, _, h1, h2, right_new, h3⟩
theorem specPut_right (v1 v2 : Value) (cs : List ByteArray) (ws : List (Int × ByteArray)) (B : Nat) (w : World) (h : DiskO w B v1 cs.length cs v2 ws.length ws) (hr : RightD cs ws) (x : Int) (t : ByteArray) (ht : t.size ≤ 64) :
    Calls Try.prog 22 #[.agg #[v1, v2], .int .i64 x, .string t] w fun e w' => RightIsB w e w' :=
  (specDiskPut_any v1 v2 cs.length cs ws.length ws B w h (by have := hr.1.1; omega) (by have := hr.1.2.1; omega) x t).mono fun _ _ ⟨v1, v2, h1, h2, h3⟩ => ⟨v1, v2, _, _, _, h1, h2, right_put hr x ht, h3⟩
theorem specFlush_right (v1 v2 : Value) (cs : List ByteArray) (ws : List (Int × ByteArray)) (B : Nat) (w : World) (h : DiskO w B v1 cs.length cs v2 ws.length ws) (hr : RightD cs ws) :
    Calls Try.prog 26 #[.agg #[v1, v2]] w fun e w' => RightIs w e w' :=
  (specFlush_any v1 v2 cs.length cs ws.length ws B w h (by have := hr.1.1; omega) (by have := hr.1.2.1; omega)).mono fun _ _ ⟨v1, v2, h1, h2, h3⟩ => ⟨v1, v2, _, _, h1, h2, right_land hr _, h3⟩

end Go.Proofs.Ytckjbgpdbehmaaa

namespace Go.Proofs.Ytckjbgpdbehmaaa
open Go.RowKit
open Go.Lib hiding intOf

/-- A disk as it is drawn: it has twenty cells; or another number of them, which are only measured. -/
def AnyD (W : World) (B : Nat) (v1 v2 : Value) (cs : List ByteArray) (ws : List (Int × ByteArray)) : Prop :=
  W.ownsRow B 67 2 v2 ws.length (flatWrite ws) ∧ ws.length ≤ 17 ∧ (∀ x ∈ ws, (x.2).size ≤ 1048576) ∧
    ((cs.length = 20 ∧ W.ownsRow B 9 1 v1 20 (cs.map Value.string) ∧ ∀ i, i < 20 → (textAt cs i).size ≤ 1048576) ∨ (cs = [] ∧ ∃ oo nn cc, ¬ nn = 20 ∧ v1 = .slice oo nn cc))
theorem AnyD.below {W W' : World} {B : Nat} {v1 v2 : Value} {cs : List ByteArray} {ws : List (Int × ByteArray)} (h : AnyD W B v1 v2 cs ws) (hb : Below W.heap.size W W') : AnyD W' B v1 v2 cs ws := by
  obtain ⟨h1, h2, h3, h4⟩ := h
  refine ⟨owns_below h1 hb (fun g hg => owns_lt h1 hg), h2, h3, ?_⟩
  rcases h4 with ⟨h5, h6, h7⟩ | h5
  · exact .inl ⟨h5, owns_below h6 hb (fun g hg => owns_lt h6 hg), h7⟩
  · exact .inr h5
theorem AnyD.wide {W : World} {B B' : Nat} {v1 v2 : Value} {cs : List ByteArray} {ws : List (Int × ByteArray)} (h : AnyD W B v1 v2 cs ws) (hB : B' ≤ B) : AnyD W B' v1 v2 cs ws := by
  obtain ⟨h1, h2, h3, h4⟩ := h
  refine ⟨owns_wide h1 hB, h2, h3, ?_⟩
  rcases h4 with ⟨h5, h6, h7⟩ | h5
  · exact .inl ⟨h5, owns_wide h6 hB, h7⟩
  · exact .inr h5
theorem AnyD.set {W : World} {B q : Nat} {v1 v2 x0 x1 y0 y1 : Value} {cs : List ByteArray} {ws : List (Int × ByteArray)} (h : AnyD W B v1 v2 cs ws) (hC : W.heap[q]? = some (.cells #[x0, x1] 27)) : AnyD ((W.setCell ⟨q, 0, none⟩ y0).setCell ⟨q, 1, none⟩ y1) B v1 v2 cs ws := by
  obtain ⟨h1, h2, h3, h4⟩ := h
  refine ⟨owns_same h1 (fun g hg => by
      have hne : g ≠ q := own_ne h1 hC (by decide) g hg
      rw [heap_setCell_other _ _ g _ hne, heap_setCell_other _ _ g _ hne]), h2, h3, ?_⟩
  rcases h4 with ⟨h5, h6, h7⟩ | h5
  · exact .inl ⟨h5, owns_same h6 (fun g hg => by
      have hne : g ≠ q := own_ne h6 hC (by decide) g hg
      rw [heap_setCell_other _ _ g _ hne, heap_setCell_other _ _ g _ hne]), h7⟩
  · exact .inr h5
theorem AnyD.forms {W : World} {B : Nat} {v1 v2 : Value} {cs : List ByteArray} {ws : List (Int × ByteArray)} (h : AnyD W B v1 v2 cs ws) : ∃ o1 n1 c1 o2 c2, v1 = .slice o1 n1 c1 ∧ v2 = .slice o2 ws.length c2 := by
  obtain ⟨h1, _, _, h4⟩ := h
  obtain ⟨o2, c2, e2⟩ := slice_of_owns h1
  rcases h4 with ⟨_, h6, _⟩ | ⟨_, oo, nn, cc, _, e⟩
  · obtain ⟨o1, c1, e1⟩ := slice_of_owns h6
    exact ⟨o1, 20, c1, o2, c2, e1, e2⟩
  · exact ⟨oo, nn, cc, o2, c2, e, e2⟩
theorem AnyD.right {cs : List ByteArray} {ws : List (Int × ByteArray)} (hc : cs = []) : ¬ DiskP cs ws := fun h => by
  have := h.1
  rw [hc] at this
  cases this
theorem implDiskOk_d (v1 v2 : Value) (cs : List ByteArray) (ws : List (Int × ByteArray)) (B : Nat) (w : World) (h : AnyD w B v1 v2 cs ws) :
    Calls Try.prog 16 #[.agg #[v1, v2]] w fun e w' => BoolIs (DiskP cs ws) w e w' := by
  obtain ⟨h1, h2, _, ⟨h5, h6, _⟩ | ⟨rfl, oo, nn, cc, hn, rfl⟩⟩ := h
  · exact implDiskOk_any v1 v2 20 cs ws.length ws B w ⟨h6, h1⟩ (by omega) (by omega)
  · refine (implDiskOk_len oo nn cc v2 ws.length ws B w h1 (by omega)).mono ?_
    rintro e w' ⟨b, rfl, hb, bw⟩
    exact ⟨b, rfl, ⟨fun e => absurd (hb.1 e).1 hn, fun hd => absurd hd (AnyD.right rfl)⟩, bw⟩
theorem implFlush_d (v1 v2 : Value) (cs : List ByteArray) (ws : List (Int × ByteArray)) (B : Nat) (w : World) (h : AnyD w B v1 v2 cs ws) :
    Calls Try.prog 18 #[.agg #[v1, v2]] w fun e w' => DiskIs (landC cs ws (fun _ => true)) [] w e w' := by
  obtain ⟨h1, h2, h3, ⟨h5, h6, h7⟩ | ⟨rfl, oo, nn, cc, hn, rfl⟩⟩ := h
  · exact implFlush_any v1 v2 20 cs ws.length ws B w ⟨h6, h1⟩ (by omega) (by omega) h7 h3
  · rw [landC_no (AnyD.right rfl)]; exact implFlush_no oo nn cc hn v2 ws.length ws B w h1 (by omega)
theorem implDiskGet_d (v1 v2 : Value) (cs : List ByteArray) (ws : List (Int × ByteArray)) (B : Nat) (w : World) (h : AnyD w B v1 v2 cs ws) (x : Int) :
    Calls Try.prog 19 #[.agg #[v1, v2], .int .i64 x] w fun e w' => TextIs (getD' cs ws x) w e w' := by
  obtain ⟨h1, h2, h3, ⟨h5, h6, h7⟩ | ⟨rfl, oo, nn, cc, hn, rfl⟩⟩ := h
  · exact implDiskGet_any v1 v2 20 cs ws.length ws B w ⟨h6, h1⟩ (by omega) (by omega) h7 h3 x
  · rw [get_no (fun h => AnyD.right rfl h.1)]; exact implDiskGet_no oo nn cc hn v2 ws.length ws B w h1 (by omega) x
theorem implDiskPut_d (v1 v2 : Value) (cs : List ByteArray) (ws : List (Int × ByteArray)) (B : Nat) (w : World) (h : AnyD w B v1 v2 cs ws) (x : Int) (t : ByteArray) (ht : t.size ≤ 1048576) :
    Calls Try.prog 21 #[.agg #[v1, v2], .int .i64 x, .string t] w fun e w' => DiskIsB (putC cs ws) (putW cs ws x t) (putB cs ws x) w e w' := by
  obtain ⟨h1, h2, h3, ⟨h5, h6, h7⟩ | ⟨rfl, oo, nn, cc, hn, rfl⟩⟩ := h
  · exact implDiskPut_any v1 v2 20 cs ws.length ws B w ⟨h6, h1⟩ (by omega) (by omega) h7 h3 x t ht
  · rw [put_c_no (AnyD.right rfl), put_b_not x (AnyD.right rfl), put_w_not x t (AnyD.right rfl)]; exact implDiskPut_no oo nn cc hn v2 ws.length ws B w h1 (by omega) x t
theorem specFlush_d (v1 v2 : Value) (cs : List ByteArray) (ws : List (Int × ByteArray)) (B : Nat) (w : World) (h : AnyD w B v1 v2 cs ws) :
    Calls Try.prog 26 #[.agg #[v1, v2]] w fun e w' => DiskIs (landC cs ws (fun _ => true)) [] w e w' := by
  obtain ⟨h1, h2, _, ⟨h5, h6, _⟩ | ⟨rfl, oo, nn, cc, hn, rfl⟩⟩ := h
  · exact specFlush_any v1 v2 20 cs ws.length ws B w ⟨h6, h1⟩ (by omega) (by omega)
  · rw [landC_no (AnyD.right rfl)]; exact specFlush_no oo nn cc hn v2 ws.length ws B w h1 (by omega)
theorem specDiskGet_d (v1 v2 : Value) (cs : List ByteArray) (ws : List (Int × ByteArray)) (B : Nat) (w : World) (h : AnyD w B v1 v2 cs ws) (x : Int) :
    Calls Try.prog 24 #[.agg #[v1, v2], .int .i64 x] w fun e w' => TextIs (getD' cs ws x) w e w' := by
  obtain ⟨h1, h2, _, ⟨h5, h6, _⟩ | ⟨rfl, oo, nn, cc, hn, rfl⟩⟩ := h
  · exact specDiskGet_any v1 v2 20 cs ws.length ws B w ⟨h6, h1⟩ (by omega) (by omega) x
  · rw [get_no (fun h => AnyD.right rfl h.1)]; exact specDiskGet_no oo nn cc hn v2 ws.length ws B w h1 (by omega) x
theorem specDiskPut_d (v1 v2 : Value) (cs : List ByteArray) (ws : List (Int × ByteArray)) (B : Nat) (w : World) (h : AnyD w B v1 v2 cs ws) (x : Int) (t : ByteArray) :
    Calls Try.prog 22 #[.agg #[v1, v2], .int .i64 x, .string t] w fun e w' => DiskIsB (putC cs ws) (putW cs ws x t) (putB cs ws x) w e w' := by
  obtain ⟨h1, h2, _, ⟨h5, h6, _⟩ | ⟨rfl, oo, nn, cc, hn, rfl⟩⟩ := h
  · exact specDiskPut_any v1 v2 20 cs ws.length ws B w ⟨h6, h1⟩ (by omega) (by omega) x t
  · rw [put_c_no (AnyD.right rfl), put_b_not x (AnyD.right rfl), put_w_not x t (AnyD.right rfl)]; exact specDiskPut_no oo nn cc hn v2 ws.length ws B w h1 (by omega) x t
/-- What a call answered as a disk of twenty cells is one as it is drawn. -/
theorem anyD_of {W : World} {B : Nat} {v1 v2 : Value} {cs : List ByteArray} {ws : List (Int × ByteArray)} (h : DiskO W B v1 cs.length cs v2 ws.length ws) (hp : DiskP cs ws) (h1 : ∀ i, i < 20 → (textAt cs i).size ≤ 1048576) (h2 : ∀ x ∈ ws, (x.2).size ≤ 1048576) : AnyD W B v1 v2 cs ws :=
  ⟨h.pend, Nat.le_trans hp.2.1 (by decide), h2, .inl ⟨hp.1, by rw [← hp.1]; exact h.cells, h1⟩⟩

end Go.Proofs.Ytckjbgpdbehmaaa
