/- Lists of requests in memory: what they are, and how they are carried. -/
import Derived.Test.YtfgapdididdcaaaStreamLen
import Derived.Test.YtfgapdididdcaaaMsgReq
import Derived.Test.YtfgapdididdcaaaFieldOpen
namespace Go.Proofs.Ytfgapdididdcaaa
open Go.RowKit
open Go.Lib hiding intOf

/-- A request, as it is told. -/
structure RqD where
  m : Int
  p : ByteArray
  fs : List (ByteArray × ByteArray)
  b : ByteArray
/-- Its text. -/
def RqD.text (r : RqD) : List UInt8 := bs (reqT r.m r.p r.fs r.b)
def RqD.ok (r : RqD) : Prop := ReqP r.m r.p r.fs r.b
theorem rq_uniq {r r' : RqD} (h : r.ok) (h' : r'.ok) (e : r.text = r'.text) : r = r' := by
  have h1 : IsReq (reqT r.m r.p r.fs r.b) r.m r.p r.fs r.b := ⟨h, rfl⟩
  have h2 : IsReq (reqT r.m r.p r.fs r.b) r'.m r'.p r'.fs r'.b := ⟨h', (bs_inj e).symm⟩
  obtain ⟨e1, e2, e3, e4⟩ := h1.uniq h2
  cases r
  cases r'
  simp_all
theorem rqs_uniq : ∀ (a b : List RqD), (∀ r ∈ a, r.ok) → (∀ r ∈ b, r.ok) → a.map RqD.text = b.map RqD.text → a = b := by
  intro a
  induction a with
  | nil => intro b _ _ e; cases b with
    | nil => rfl
    | cons x y => simp at e
  | cons r a ih =>
    intro b ha hb e
    cases b with
    | nil => simp at e
    | cons x y =>
      simp only [List.map_cons, List.cons.injEq] at e
      rw [rq_uniq (ha r (by simp)) (hb x (by simp)) e.1, ih y (fun z hz => ha z (by simp [hz])) (fun z hz => hb z (by simp [hz])) e.2]
/-- The four cells of a request whose fields lie there. -/
def rqC (x : RqD × Value) : List Value := [.int .i64 x.1.m, .string x.1.p, x.2, .string x.1.b]
def flatR : List (RqD × Value) → List Value
  | [] => []
  | x :: t => rqC x ++ flatR t
theorem flatR_len : ∀ rv : List (RqD × Value), (flatR rv).length = rv.length * 4
  | [] => rfl
  | x :: t => by
    rw [flatR, List.length_append, flatR_len t, List.length_cons]
    simp [rqC]
    omega
theorem flatR_snoc (x : RqD × Value) : ∀ rv : List (RqD × Value), flatR (rv ++ [x]) = flatR rv ++ rqC x
  | [] => by simp [flatR]
  | y :: t => by rw [List.cons_append, flatR, flatR_snoc x t, flatR, List.append_assoc]
theorem flatR_at (j : Nat) (hj : j < 4) : ∀ (rv : List (RqD × Value)) (i : Nat) (hi : i < rv.length), (flatR rv)[i * 4 + j]? = (rqC (rv[i]'hi))[j]?
  | [], i, hi => by simp at hi
  | x :: t, 0, _ => by
    rw [flatR, List.getElem?_append_left (by simp [rqC]; omega)]
    simp
  | x :: t, i + 1, hi => by
    rw [flatR, List.getElem?_append_right (by simp [rqC]; omega)]
    have := flatR_at j hj t i (by simpa using hi)
    simp only [List.getElem_cons_succ]
    rw [← this]
    congr 1
    simp [rqC]
    omega
theorem flatR_set (y : RqD × Value) : ∀ (rv : List (RqD × Value)) (i : Nat), i < rv.length → flatR (rv.set i y) = ((((flatR rv).set (i * 4) (.int .i64 y.1.m)).set (i * 4 + 1) (.string y.1.p)).set (i * 4 + 2) y.2).set (i * 4 + 3) (.string y.1.b)
  | [], i, hi => by simp at hi
  | x :: t, 0, _ => by simp [flatR, rqC]
  | x :: t, i + 1, hi => by
    have ih := flatR_set y t i (by simpa using hi)
    have e : ∀ (l : List Value) (o : Nat) (u : Value), (rqC x ++ l).set (4 + o) u = rqC x ++ l.set o u := fun l o u => by
      rw [Nat.add_comm]
      rfl
    rw [List.set_cons_succ, flatR, ih, flatR, show (i + 1) * 4 = 4 + i * 4 by omega, show 4 + i * 4 + 1 = 4 + (i * 4 + 1) by omega, show 4 + i * 4 + 2 = 4 + (i * 4 + 2) by omega, show 4 + i * 4 + 3 = 4 + (i * 4 + 3) by omega, e, e, e, e]

theorem owns_setC {w : World} {base : Nat} {t : TypeId} {size g n cap : Nat} {xs : List Value} (h : w.ownsRow base t size (.slice (some ⟨g, 0, none⟩) n cap) n xs) (o : Nat) (u : Value) : (w.setCell ⟨g, o, none⟩ u).ownsRow base t size (.slice (some ⟨g, 0, none⟩) n cap) n (xs.set o u) := by
  obtain ⟨hl, hv⟩ := h
  refine ⟨by simpa using hl, ?_⟩
  rcases hv with ⟨e, _⟩ | ⟨g', cap', cur, e, h1, h2, h3, h4, h5, h6⟩
  · cases e
  · cases e
    refine .inr ⟨g, cap, _, rfl, h1, heap_set w g o cur t (0, 0) u h2, h3, h4, by simpa using h5, ?_⟩
    rw [Array.toList_setIfInBounds, List.take_set, h6]
theorem owns_cellC {w : World} {base : Nat} {t : TypeId} {size g n cap : Nat} {xs : List Value} (h : w.ownsRow base t size (.slice (some ⟨g, 0, none⟩) n cap) n xs) (o : Nat) (u : Value) (ho : xs[o]? = some u) : w.cell? ⟨g, o, none⟩ = some u ∧ w.frozen? ⟨g, o, none⟩ = false := by
  obtain ⟨hl, hv⟩ := h
  rcases hv with ⟨e, _⟩ | ⟨g', cap', cur, e, h1, h2, h3, h4, h5, h6⟩
  · cases e
  · cases e
    refine ⟨?_, by simp [World.frozen?, h2]⟩
    rw [← h6, List.getElem?_take] at ho
    split at ho
    · simpa [World.cell?, h2] using ho
    · cases ho
theorem own_noR {w : World} {base : Nat} {t : TypeId} {size : Nat} {v : Value} {n : Nat} {xs : List Value} {j : Nat} {cs : Array Value} {T : TypeId} {fr : Nat × Nat} (h : w.ownsRow base t size v n xs) (hT : T ≠ t) (hj : w.heap[j]? = some (.cells cs T fr)) : v.ownBlock ≠ some j := by
  intro e
  rcases h.2 with ⟨rfl, _⟩ | ⟨g, cap, cur, rfl, _, h1, _⟩
  · cases e
  · cases e
    rw [h1] at hj
    cases hj
    exact hT rfl
theorem own_ltR {w : World} {base : Nat} {t : TypeId} {size : Nat} {v : Value} {n : Nat} {xs : List Value} {j : Nat} (h : w.ownsRow base t size v n xs) (hj : v.ownBlock = some j) : base ≤ j ∧ j < w.heap.size := by
  rcases h.2 with ⟨rfl, _⟩ | ⟨g, cap, cur, rfl, h0, h1, _⟩
  · cases hj
  · cases hj
    exact ⟨h0, (Array.getElem?_eq_some_iff.1 h1).1⟩
theorem own_blockR {w : World} {base : Nat} {t : TypeId} {size : Nat} {v : Value} {n : Nat} {xs : List Value} {j : Nat} (h : w.ownsRow base t size v n xs) (hj : v.ownBlock = some j) : ∃ cur, w.heap[j]? = some (.cells cur t (0, 0)) := by
  rcases h.2 with ⟨rfl, _⟩ | ⟨g, cap, cur, rfl, h0, h1, _⟩
  · cases hj
  · cases hj
    exact ⟨cur, h1⟩
theorem own_two {w : World} {b1 b2 : Nat} {t1 t2 : TypeId} {s1 s2 : Nat} {v1 v2 : Value} {n1 n2 : Nat} {x1 x2 : List Value} {j : Nat} (h1 : w.ownsRow b1 t1 s1 v1 n1 x1) (h2 : w.ownsRow b2 t2 s2 v2 n2 x2) (hT : t1 ≠ t2) (hj : v1.ownBlock = some j) : v2.ownBlock ≠ some j := by
  obtain ⟨cur, hc⟩ := own_blockR h1 hj
  exact own_noR h2 hT hc

end Go.Proofs.Ytfgapdididdcaaa
