/-
  How large arguments are that are rules or slices of rules.
  Conditions: those that each theorem names.
-/
import Derived.Test.YtcmnnidjamdmeaaDoorAZ
namespace Go.Proofs.YtcmnnidjamdmeaaDoor.Acl
open Go.ChangeShapes Go.WideShapes Go.ChangeAt Go.RowKit Go.Deep

theorem strBytes7 : Tryd.prog.bytesOf 9 = 16 := by kernel_rfl
theorem ruBytes7 : Tryd.prog.bytesOf 25 = 64 := by kernel_rfl
theorem weights_part7 {H : Type} {t : TypeId} {d : DataW H} {l : List (DataW H)} (hd : d ∈ l) (h : (DataW.weightsAll Tryd.prog t l).all (· ≤ reachBytes) = true) : (d.weights Tryd.prog t).all (· ≤ reachBytes) = true := by
  induction l with
  | nil => cases hd
  | cons x r ih =>
    simp only [DataW.weightsAll, List.all_append, Bool.and_eq_true] at h
    rcases List.mem_cons.1 hd with rfl | e
    · exact h.1
    · exact ih e h.2
theorem weights_each {H : Type} {t : TypeId} {d : DataW H} {ts : List TypeId} {ds : List (DataW H)} (h : (DataW.weightsEach Tryd.prog ts ds).all (· ≤ reachBytes) = true) (j : Nat) (ht : ts[j]? = some t) (hd : ds[j]? = some d) : (d.weights Tryd.prog t).all (· ≤ reachBytes) = true := by
  rw [List.all_eq_true] at h ⊢
  exact fun n hn => h n (DataW.weights_mem_each ht hd n hn)
section
variable {H : Type} {enc : TypeId × Value → H} {W : World} {fuel : Nat}

theorem arg_strsW {cs : List Value} {x : DataW H × List MemPlace} (h : DataW.trod enc Tryd.prog W 0 (fun _ => true) true fuel 23 cs = some x) :
    ∃ (A : Option Addr) (ls : List (List UInt8)) (n c : Nat), ls.length = n ∧ cs = [.slice A n c] ∧ SrcS W (fun _ => True) A ls ∧ ((x.1.weights Tryd.prog 23).all (· ≤ reachBytes) = true → n * 16 ≤ 140737488351232) := by
  rcases open_strings Tryd.underlying23 Tryd.underlying9 (by kernel_rfl) h with ⟨hcs, hx⟩ | ⟨a, len, cap, ss, hcs, _, hl, hm, hz, hx, hcell, hwz⟩
  · exact ⟨none, [], 0, 0, rfl, hcs, fun h => absurd h (by simp), fun _ => by omega⟩
  · simp only [if_true] at hz
    subst hx
    have hlen : ((ss.take len).map bl).length = len := by simp; omega
    refine ⟨some a, (ss.take len).map bl, len, cap, hlen, hcs, fun h0 => ?_, fun hw => ?_⟩
    · have hb := block_lt_of_cell (hcell 0 (by omega))
      have hab : a.block < W.heap.size := by
        have e : (a.add 0).block = a.block := by unfold Addr.add; split <;> rfl
        rwa [e] at hb
      refine ⟨a, rfl, trivial, hab, fun i l hl' => ?_⟩
      rw [List.getElem?_map, Option.map_eq_some_iff] at hl'
      obtain ⟨s, hs, rfl⟩ := hl'
      rw [List.getElem?_take] at hs
      split at hs
      · have hi : i < ss.length := (List.getElem?_eq_some_iff.1 hs).1
        rw [hcell i hi, List.getD_eq_getElem?_getD, hs]
        unfold strV
        rw [mk_bl]
        rfl
      · cases hs
    · simp only [DataW.weights, Tryd.underlying23, List.all_cons, List.all_append, Bool.and_eq_true, decide_eq_true_eq, strBytes7, ChangeShapes.strs, List.length_map, List.length_take, List.length_drop, show reachBytes = 140737488351232 from rfl] at hw
      obtain ⟨h1, _⟩ := hw
      omega
set_option maxRecDepth 100000 in
theorem arg_ruW {cs : List Value} {x : DataW H × List MemPlace} (h : DataW.trod enc Tryd.prog W 0 (fun _ => true) true fuel 25 cs = some x) (c0 c1 c2 c3 c4 : Value) (hc : cs = [c0, c1, c2, c3, c4]) :
    ∃ r : RuE, [c0, c1, c2, c3, c4] = r.cells ∧ ((x.1.weights Tryd.prog 25).all (· ≤ reachBytes) = true → r.Ok W ∧ r.h.size ≤ 140737488351232) := by
  subst hc
  obtain ⟨y0, y1, y2, y3, y4, m, hx, _, h0, h1, h2, h3, h4⟩ := trod_struct5 Tryd.underlying25 h
  have eb : Tryd.prog.cellsOf 4 = 1 := by kernel_rfl
  have ei : Tryd.prog.cellsOf 3 = 1 := by kernel_rfl
  have es : Tryd.prog.cellsOf 9 = 1 := by kernel_rfl
  have el : Tryd.prog.cellsOf 23 = 1 := by kernel_rfl
  simp only [eb, ei, es, el, List.drop_zero, List.drop_succ_cons, List.take_succ_cons, List.take_zero] at h0 h1 h2 h3 h4
  obtain ⟨al, k0, _d0⟩ := DataW.trod_bool Tryd.underlying4 h0
  obtain ⟨ho, k1, d1, _⟩ := DataW.trod_string Tryd.underlying9 h1
  obtain ⟨lo, k2, d2, _⟩ := DataW.trod_int Tryd.underlying3 h2
  obtain ⟨hi, k3, d3, _⟩ := DataW.trod_int Tryd.underlying3 h3
  obtain ⟨A, ls, n, c, hn, k4, hs, hw4⟩ := arg_strsW h4
  simp only [List.cons.injEq, and_true] at k0 k1 k2 k3 k4
  subst k0 k1 k2 k3 k4
  have z1 : ho.data.toList.length = ho.size := by simp
  have hx1 : x.1 = .agg [y0.1, y1.1, y2.1, y3.1, y4.1] := by rw [hx]
  refine ⟨⟨al, ho, lo, hi, A, n, c, ls⟩, rfl, fun hw => ?_⟩
  rw [hx1] at hw
  simp only [DataW.weights, Tryd.underlying25, List.map_cons, List.map_nil, DataW.weightsEach, List.all_append, Bool.and_eq_true] at hw
  obtain ⟨v0, v1, v2, v3, v4, _⟩ := hw
  have a4 := hw4 v4
  rw [d1] at v1
  simp only [DataW.weights, List.all_cons, List.all_nil, Bool.and_true, decide_eq_true_eq, show reachBytes = 140737488351232 from rfl] at v1
  exact ⟨⟨hn, by show n ≤ _; omega, hs⟩, by show ho.size ≤ _; omega⟩
/-- A rule, opened. -/
theorem arg_ruleW {r : Reach} {b0 : Nat} {v : Value} {d : DataW H} {p : List MemPlace} (hv : Value.okWide Tryd.prog W r b0 25 v) (h : DataW.Trod enc Tryd.prog W 0 (fun _ => true) true 25 v d p) :
    ∃ r : RuE, v = .agg #[.bool r.al, .string r.h, .int .i64 r.lo, .int .i64 r.hi, .slice r.A r.n r.c] ∧ ((d.weights Tryd.prog 25).all (· ≤ reachBytes) = true → r.Ok W ∧ r.h.size ≤ 140737488351232) := by
  obtain ⟨cs, rfl, hsz⟩ := okWide_struct Tryd.underlying25 hv
  obtain ⟨c0, c1, c2, c3, c4, rfl⟩ : ∃ c0 c1 c2 c3 c4, cs = #[c0, c1, c2, c3, c4] := by
    have hs := hsz.trans (show _ = 5 by kernel_rfl)
    obtain ⟨l⟩ := cs
    match l, hs with
    | [c0, c1, c2, c3, c4], _ => exact ⟨c0, c1, c2, c3, c4, rfl⟩
  obtain ⟨fu, hf⟩ := h
  obtain ⟨r, hc, hr⟩ := arg_ruW hf c0 c1 c2 c3 c4 rfl
  simp only [RuE.cells, List.cons.injEq, and_true] at hc
  obtain ⟨rfl, rfl, rfl, rfl, rfl⟩ := hc
  exact ⟨r, rfl, hr⟩
theorem arg_rulesW {cs : List Value} {x : DataW H × List MemPlace} (h : DataW.trod enc Tryd.prog W 0 (fun _ => true) true fuel 22 cs = some x) :
    ∃ (A : Option Addr) (L : List RuE) (n c : Nat), L.length = n ∧ cs = [.slice A n c] ∧ n ≤ c ∧ SrcU W (fun _ => True) A L ∧ ((x.1.weights Tryd.prog 22).all (· ≤ reachBytes) = true → n * 64 ≤ 140737488351232 ∧ ∀ r ∈ L, r.Ok W) := by
  have e5 : Tryd.prog.cellsOf 25 = 5 := by kernel_rfl
  rcases open_slice Tryd.underlying22 h with ⟨hcs, hx⟩ | ⟨a, len, cap, m, fu, D, Pl, hcs, _, hl, _, hm, hx, hat⟩
  · exact ⟨none, [], 0, 0, rfl, hcs, Nat.le_refl _, fun h => absurd h (by simp), fun _ => ⟨by omega, fun _ h => (by cases h)⟩⟩
  · rw [if_pos rfl] at hm
    rw [e5] at hat
    obtain ⟨E, hE⟩ := choose_lt (α := RuE) (n := len) (p := fun i r => (∀ j v, r.cells[j]? = some v → W.cell? (a.add (i * 5 + j)) = some v) ∧ (((D i).weights Tryd.prog 25).all (· ≤ reachBytes) = true → r.Ok W ∧ r.h.size ≤ 140737488351232)) (fun i hi => by
      obtain ⟨cs', h1, h2⟩ := hat i (by omega)
      obtain ⟨_, hlen, hget⟩ := World.cells?_some h1
      match cs', hlen with
      | [c0, c1, c2, c3, c4], _ =>
        obtain ⟨r, hc, hr⟩ := arg_ruW h2 c0 c1 c2 c3 c4 rfl
        refine ⟨r, fun j v hv => ?_, hr⟩
        have hj : j < 5 := (List.getElem?_eq_some_iff.1 hv).1
        have hg := hget j hj
        rw [add_add_at, hc] at hg
        rw [hg]
        exact hv)
    have hL : ((List.range len).map E).length = len := by simp
    refine ⟨some a, (List.range len).map E, len, cap, hL, hcs, hl, fun h0 => ?_, fun hw => ?_⟩
    · rw [hL] at h0
      have hc0 := (hE 0 h0).1 0 _ rfl
      have hab : a.block < W.heap.size := by
        have e : (a.add (0 * 5 + 0)).block = a.block := by unfold Addr.add; split <;> rfl
        have := block_lt_of_cell hc0
        rwa [e] at this
      refine ⟨a, rfl, trivial, hab, fun i r hr => ?_⟩
      rw [List.getElem?_map, Option.map_eq_some_iff] at hr
      obtain ⟨j, hj, rfl⟩ := hr
      obtain ⟨hi, rfl⟩ := List.getElem?_eq_some_iff.1 hj
      rw [List.getElem_range]
      exact (hE i (by simpa using hi)).1
    · rw [hx] at hw
      simp only [DataW.weights, Tryd.underlying22, List.all_cons, List.all_append, Bool.and_eq_true, decide_eq_true_eq, ruBytes7, List.length_map, List.length_range, show reachBytes = 140737488351232 from rfl] at hw
      obtain ⟨h1, h2, _⟩ := hw
      refine ⟨by omega, fun r hr => ?_⟩
      obtain ⟨i, hi, rfl⟩ := List.mem_map.1 hr
      have hp := weights_part7 (t := 25) (List.mem_map.2 ⟨i, hi, rfl⟩) h2
      exact ((hE i (by simpa using hi)).2 hp).1
end
end Go.Proofs.YtcmnnidjamdmeaaDoor.Acl
