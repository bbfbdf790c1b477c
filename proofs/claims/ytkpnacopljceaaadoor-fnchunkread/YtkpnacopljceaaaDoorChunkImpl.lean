/- 'codeOf', the deferred closure, and 'ChunkRead' of the program: contracts over the translation. -/
import Derived.Test.YtkpnacopljceaaaDoorChunkRdJ
import Derived.Test.YtkpnacopljceaaaDoorChunkTextI
import Derived.Test.YtkpnacopljceaaaDoorRecovers
namespace Go.Proofs.YtkpnacopljceaaaDoor
open Go.RowKit
open Go.Lib hiding intOf

theorem assert_ref (v : Value) (w : World) : (Instr.typeAssert (.iface 70 v) 20 70 true).run Tryd.prog w = .ok (.tuple #[v, .bool true]) w := by
  rfl
set_option maxHeartbeats 400000 in
theorem codeOf_any (c : Int) (w : World) :
    Calls Tryd.prog 30 #[.iface 70 (.int .i64 c)] w fun e w' => e = .returned (.int .i64 c) ∧ w' = w := by
  have ha := fun v w => assert_ref v w
  go_enter Tryd.func30, Tryd.ntmps30
  go_wp2_with fail
  go_ret
  exact ⟨rfl, rfl⟩

set_option maxHeartbeats 1000000 in
theorem catch_idle (p q r : Addr) (w : World) :
    CallsD Tryd.prog 29 #[.pointer (some p), .pointer (some q), .pointer (some r)] .returning w fun e u' w' => e = .returned (.tuple #[]) ∧ u' = .returning ∧ Below w.heap.size w w' := by
  refine callsD_of_wpS Tryd.func29 rfl fun c₀ cs hu => ?_
  simp only [Tryd.ntmps29, List.size_toArray, List.length_cons, List.length_nil, Nat.reduceAdd, Nat.reduceSub, Array.replicate_succ,
     Array.replicate_zero, List.push_toArray, List.append_toArray, List.nil_append, List.cons_append]
  refine wpS_recovers (v := .nilIface) (cs' := c₀ :: cs) (by rfl) (by simp [go_sem]) (.inr ⟨by simp [recoverD, hu], rfl, rfl⟩) ?_
  go_wp2
  refine ⟨rfl, .returning, ?_, .tuple #[], results_none rfl _ _ _, rfl, rfl, ?_⟩
  · rw [← hu]
  · exact Below.refl _ w

set_option maxHeartbeats 1000000 in
theorem catch_fault (H : Nat) (c : Int) (w : World) (x : ByteArray) (y z : Int) (h1 : w.cell? ⟨H, 0, none⟩ = some (.string x)) (h2 : w.cell? ⟨H + 1, 0, none⟩ = some (.int .i64 y)) (h3 : w.cell? ⟨H + 2, 0, none⟩ = some (.int .i64 z)) (z1 : w.frozen? ⟨H, 0, none⟩ = false) (z2 : w.frozen? ⟨H + 1, 0, none⟩ = false) (z3 : w.frozen? ⟨H + 2, 0, none⟩ = false) :
    CallsD Tryd.prog 29 #[.pointer (some ⟨H, 0, none⟩), .pointer (some ⟨H + 1, 0, none⟩), .pointer (some ⟨H + 2, 0, none⟩)] (.panicking [{ v := .iface 70 (.int .i64 c), recovered := false }]) w fun e u' w' => e = .returned (.tuple #[]) ∧ u' = (.panicking [{ v := .iface 70 (.int .i64 c), recovered := true }]) ∧ Below H w w' ∧ w'.cell? ⟨H, 0, none⟩ = some (.string ⟨#[]⟩) ∧ w'.cell? ⟨H + 1, 0, none⟩ = some (.int .i64 0) ∧ w'.cell? ⟨H + 2, 0, none⟩ = some (.int .i64 c) := by
  refine callsD_of_wpS Tryd.func29 rfl fun c₀ cs hu => ?_
  simp only [Tryd.ntmps29, List.size_toArray, List.length_cons, List.length_nil, Nat.reduceAdd, Nat.reduceSub, Array.replicate_succ,
     Array.replicate_zero, List.push_toArray, List.append_toArray, List.nil_append, List.cons_append]
  refine wpS_recovers (v := .iface 70 (.int .i64 c)) (cs' := { c₀ with mode := .panicking [{ v := .iface 70 (.int .i64 c), recovered := true }] } :: cs) (by rfl) (by simp [go_sem]) (.inl (by simp [recoverD, hu])) ?_
  go_wp2_with fail
  refine (codeOf_any c _).mono ?_
  rintro e w1 ⟨rfl, hw1⟩
  have hw1 := hw1.symm
  subst hw1
  go_wp2_with fail
  refine ⟨rfl, _, rfl, .tuple #[], results_none rfl _ _ _, rfl, rfl, ?_, ?_, ?_, ?_⟩
  · exact ((((Below.refl H w).setCell (Nat.le_refl _) _).setCell (by show H ≤ H + 1; omega) _).setCell (by show H ≤ H + 2; omega) _)
  · simp [go_sem, h1]
  · simp [go_sem, h2]
  · simp [go_sem, h3]

theorem CRs.text {w : World} {B b : Nat} {left body : ByteArray} {v : Value} (h : CRs w B b left body v) : (convert 22 9 v).run Tryd.prog w = .ok (.string body) w := by
  rcases h.own.2 with ⟨rfl, h0⟩ | ⟨g, cap, cur, rfl, _, h1, h2, h3, h4, h5⟩
  · have e : body = ByteArray.empty := by
      apply ByteArray.ext
      apply Array.eq_empty_of_size_eq_zero
      exact h0
    rw [e]
    exact run_convert_bytes_nil (P := Tryd.prog) w 22 5 Tryd.underlying22 Tryd.underlying5 0 0 9 Tryd.underlying9
  · have := run_convert_bytes_arg (P := Tryd.prog) w 22 5 Tryd.underlying22 Tryd.underlying5 g 0 body.size cap ((bs body).map fun x => (x.toNat : Int)) (by rw [List.length_map, bs_len]) (fun i hi => by
      have h6 : (cur.toList.take (body.size * 1))[i]? = (strCells body)[i]? := by rw [h5]
      rw [List.getElem?_take, if_pos (by omega)] at h6
      have h7 : (strCells body)[i]? = some (.int .u8 (((bs body).map fun x => (x.toNat : Int)).getD i 0)) := by
        have hl : i < (bs body).length := by rw [bs_len]; exact hi
        simp only [strCells]
        show ((bs body).map _)[i]? = _
        rw [List.getElem?_map, List.getD_eq_getElem?_getD, List.getElem?_map, List.getElem?_eq_getElem hl]
        rfl
      rw [h7] at h6
      simpa [World.cell?, h1] using h6) 9 Tryd.underlying9
    rw [this]
    congr 2
    apply bs_inj
    show (strOfNums _).data.toList = _
    rw [strOfNums_data, List.map_map]
    have e : ∀ l : List UInt8, l.map ((fun z : Int => UInt8.ofNat z.toNat) ∘ fun x : UInt8 => (x.toNat : Int)) = l := by
      intro l
      rw [show ((fun z : Int => UInt8.ofNat z.toNat) ∘ fun x : UInt8 => (x.toNat : Int)) = id by funext x; simp]
      simp
    exact e _
set_option maxHeartbeats 4000000 in
set_option maxRecDepth 100000 in
/-- ChunkRead of the program tells what is told of the text. -/
theorem implChunkRead_any (s : ByteArray) (w : World) (hs : s.size ≤ 2000000) (hd : DbOk w) :
    Calls Tryd.prog 12 #[.string s] w fun e w' => ReadIs s w e w' := by
  have hmf : ∀ (fn : Fn) (first cap : Array Value) (w : World), (Instr.makeFunc fn first cap).run Tryd.prog w = .ok (.func fn first cap) w := fun _ _ _ _ => rfl
  have hW0 : Below w.heap.size w ((((w.alloc (Obj.cells #[Value.string { data := #[] }] 9)).alloc (Obj.cells #[Value.int IntKind.i64 0] 3)).alloc (Obj.cells #[Value.int IntKind.i64 0] 3)).alloc (Obj.cells #[Value.string s, Value.slice none 0 0] 55)) := ((((Below.refl _ w).alloc (Nat.le_refl _) _).alloc (by simp) _).alloc (by simp; omega) _).alloc (by simp; omega) _
  have HP : Hid (Calls Tryd.prog 31 #[.pointer (some ⟨w.heap.size + 1 + 1 + 1, 0, none⟩)] ((((w.alloc (Obj.cells #[Value.string { data := #[] }] 9)).alloc (Obj.cells #[Value.int IntKind.i64 0] 3)).alloc (Obj.cells #[Value.int IntKind.i64 0] 3)).alloc (Obj.cells #[Value.string s, Value.slice none 0 0] 55)) fun e w' => PartsIs (w.heap.size + 1 + 1 + 1) (w.heap.size + 1 + 1 + 1) s ((((w.alloc (Obj.cells #[Value.string { data := #[] }] 9)).alloc (Obj.cells #[Value.int IntKind.i64 0] 3)).alloc (Obj.cells #[Value.int IntKind.i64 0] 3)).alloc (Obj.cells #[Value.string s, Value.slice none 0 0] 55)) e w') := by
    have hb := heap_alloc_new (((w.alloc (Obj.cells #[Value.string { data := #[] }] 9)).alloc (Obj.cells #[Value.int IntKind.i64 0] 3)).alloc (Obj.cells #[Value.int IntKind.i64 0] 3)) (Obj.cells #[Value.string s, Value.slice none 0 0] 55)
    have he : (((w.alloc (Obj.cells #[Value.string { data := #[] }] 9)).alloc (Obj.cells #[Value.int IntKind.i64 0] 3)).alloc (Obj.cells #[Value.int IntKind.i64 0] 3)).heap.size = w.heap.size + 1 + 1 + 1 := by simp
    rw [he] at hb
    refine cparts_any _ _ s (.slice none 0 0) _ ⟨hb, ⟨rfl, .inl ⟨rfl, rfl⟩⟩, Nat.le_refl _⟩ hs (hd.later hW0) (by have := hd.lt; omega)
  have HA : Hid (∀ w1, Below (w.heap.size + 1 + 1 + 1) ((((w.alloc (Obj.cells #[Value.string { data := #[] }] 9)).alloc (Obj.cells #[Value.int IntKind.i64 0] 3)).alloc (Obj.cells #[Value.int IntKind.i64 0] 3)).alloc (Obj.cells #[Value.string s, Value.slice none 0 0] 55)) w1 →
      w1.cell? ⟨w.heap.size, 0, none⟩ = some (.string ⟨#[]⟩) ∧ w1.cell? ⟨w.heap.size + 1, 0, none⟩ = some (.int .i64 0) ∧ w1.cell? ⟨w.heap.size + 1 + 1, 0, none⟩ = some (.int .i64 0) ∧ w1.frozen? ⟨w.heap.size, 0, none⟩ = false ∧ w1.frozen? ⟨w.heap.size + 1, 0, none⟩ = false ∧ w1.frozen? ⟨w.heap.size + 1 + 1, 0, none⟩ = false ∧ w.heap.size + 3 < w1.heap.size ∧ Below w.heap.size w w1) := by
    intro w1 hb
    have hsz := hb.size
    simp at hsz
    refine ⟨(hb.cell (by show w.heap.size < _; omega)).trans (by simp [go_sem]), (hb.cell (by show w.heap.size + 1 < _; omega)).trans (by simp [go_sem]), (hb.cell (by show w.heap.size + 1 + 1 < _; omega)).trans (by simp [go_sem]), (hb.frozen (by show w.heap.size < _; omega)).trans (by simp [go_sem]), (hb.frozen (by show w.heap.size + 1 < _; omega)).trans (by simp [go_sem]), (hb.frozen (by show w.heap.size + 1 + 1 < _; omega)).trans (by simp [go_sem]), by omega, ?_⟩
    exact hW0.trans (hb.mono (by omega))
  clear hd hW0
  go_enter_defers Tryd.func12, Tryd.ntmps12
  go_wp2_with (fail)
  refine HP.out.mono ?_
  rintro e w1 ⟨hb, ⟨c, hr, hrd⟩ | ⟨rfl, left, body, v, hcr, hbs, hls, hrd⟩⟩
  · obtain ⟨c1, c2, c3, f1, f2, f3, hs, hbw⟩ := HA.out w1 hb
    have HR : Hid (Rd (bs s) [] 0 (bs ⟨#[]⟩, 0, c)) := hrd
    have HB : Hid (Below w.heap.size w w1) := hbw
    clear hb hrd hbw HA
    unfold RefIs at hr
    subst hr
    show bodyPostD _ _ _ _ _ _
    refine leaves_cons (f := 29) (args := #[.pointer (some ⟨w.heap.size, 0, none⟩), .pointer (some ⟨w.heap.size + 1, 0, none⟩), .pointer (some ⟨w.heap.size + 2, 0, none⟩)]) (by simp) (by simp [go_sem]) ?_
    refine (catch_fault w.heap.size c w1 ⟨#[]⟩ 0 0 c1 c2 c3 f1 f2 f3).mono ?_
    rintro e u' w2 ⟨rfl, rfl, hb2, d1, d2, d3⟩
    simp [Leaves, settle, results, Tryd.results12, go_sem, d1, d2, d3]
    exact ⟨_, 0, c, rfl, HR.out, HB.out.trans hb2⟩
  · obtain ⟨c1, c2, c3, f1, f2, f3, hsz, hbw⟩ := HA.out w1 hb
    have HR : Hid (Rd (bs s) [] 0 (bs body, s.size - left.size, 0)) := hrd
    have HB : Hid (Below w.heap.size w w1) := hbw
    have r0 := hcr.rd.cell
    have r1 := hcr.rd.body
    have t0 := hcr.text
    have t1 := hcr.drew.text
    have q1 : (left.size : Int) ≤ (s.size : Int) := by omega
    clear hb hrd hbw HA hcr HP
    go_wp2
    go_region
    go_wp2
    refine leaves_cons (f := 29) (args := #[.pointer (some ⟨w.heap.size, 0, none⟩), .pointer (some ⟨w.heap.size + 1, 0, none⟩), .pointer (some ⟨w.heap.size + 1 + 1, 0, none⟩)]) (by simp) (by simp [go_sem]) ?_
    refine (catch_idle _ _ _ _).mono ?_
    rintro e u' w2 ⟨rfl, rfl, hb2⟩
    have d1 : w2.cell? ⟨w.heap.size, 0, none⟩ = some (.string body) := (hb2.cell (by simp; omega)).trans (by go_simp)
    have d2 : w2.cell? ⟨w.heap.size + 1, 0, none⟩ = some (.int .i64 ((s.size : Int) - (left.size : Int))) := (hb2.cell (by simp; omega)).trans (by go_simp)
    have d3 : w2.cell? ⟨w.heap.size + 1 + 1, 0, none⟩ = some (.int .i64 0) := (hb2.cell (by simp; omega)).trans (by go_simp)
    have hbz : Below w.heap.size w w2 := by
      refine Below.trans ?_ (hb2.mono (by simp; omega))
      exact (((HB.out.setCell (Nat.le_refl _) _).setCell (by show w.heap.size ≤ w.heap.size + 1; omega) _).setCell (by show w.heap.size ≤ w.heap.size + 1 + 1; omega) _).drew
    clear hb2
    simp [Leaves, settle, results, Tryd.results12, go_sem, d1, d2, d3]
    exact ⟨body, s.size - left.size, 0, by rw [show ((s.size - left.size : Nat) : Int) = (s.size : Int) - (left.size : Int) by omega], HR.out, hbz⟩

end Go.Proofs.YtkpnacopljceaaaDoor
