/-
  What arguments that are tenants, configurations, a field read, and how much they hold.
  Conditions: those that each theorem names.
-/
import Derived.Test.YtopanahgeeolbaaGreatDoorZL
import Derived.Test.YtopanahgeeolbaaGreatDoorAG
import Derived.Test.YtopanahgeeolbaaGreatDoorNE
import Derived.SizedLaws
import Derived.SliceStrings
import Derived.Lib.SmallJoins
import Derived.Deep.Slices
import Derived.Deep.Strs
import Derived.Test.YtopanahgeeolbaaGreatDoorXL
namespace Go.Proofs.YtopanahgeeolbaaGreatDoor.Acl
open Go.ChangeShapes Go.WideShapes Go.ChangeAt Go.RowKit Go.Deep

section
variable {H : Type} {enc : TypeId × Value → H} {W : World} {fuel : Nat}

theorem bulk_strs : ∀ ss : List ByteArray, (∀ s ∈ ss, (bl s).length ≤ Rows.uptoBulkAll (H := H) (ChangeShapes.strs ss)) ∧ ss.length ≤ Rows.uptoBulkAll (H := H) (ChangeShapes.strs ss)
  | [] => ⟨fun _ h => (by cases h), Nat.le_refl _⟩
  | a :: l => by
    obtain ⟨h1, h2⟩ := bulk_strs l
    have e : Rows.uptoBulkAll (H := H) (ChangeShapes.strs (a :: l)) = ((bl a).length + 1) + Rows.uptoBulkAll (H := H) (ChangeShapes.strs l) := rfl
    refine ⟨fun s hs => ?_, by rw [e, List.length_cons]; omega⟩
    rw [e]
    rcases List.mem_cons.1 hs with rfl | hs
    · omega
    · have := h1 s hs; omega
theorem arg_strsB {cs : List Value} {x : DataW H × List MemPlace} (h : DataW.trod enc Tryz.prog W 0 (fun _ => true) true fuel 49 cs = some x) :
    ∃ (A : Option Addr) (ls : List (List UInt8)) (n c : Nat), ls.length = n ∧ cs = [.slice A n c] ∧ SrcS W (fun _ => True) A ls ∧ n ≤ Rows.uptoBulk x.1 ∧ ∀ l ∈ ls, l.length ≤ Rows.uptoBulk x.1 := by
  rcases open_strings Tryz.underlying49 Tryz.underlying9 (by kernel_rfl) h with ⟨hcs, hx⟩ | ⟨a, len, cap, ss, hcs, _, hl, hm, hz, hx, hcell, hwz⟩
  · exact ⟨none, [], 0, 0, rfl, hcs, fun h => absurd h (by simp), Nat.zero_le _, fun _ h => by cases h⟩
  · simp only [if_true] at hz
    subst hx
    have hlen : ((ss.take len).map bl).length = len := by simp; omega
    obtain ⟨k1, k2⟩ := bulk_strs (H := H) (ss.take len)
    refine ⟨some a, (ss.take len).map bl, len, cap, hlen, hcs, fun h0 => ?_, ?_, fun l hl' => ?_⟩
    · have hb := block_lt_of_cell (hcell 0 (by omega))
      have hab : a.block < W.heap.size := by
        have e : (a.add 0).block = a.block := by unfold Addr.add; split <;> rfl
        rwa [e] at hb
      refine ⟨a, rfl, trivial, hab, fun i l hl' => ?_⟩
      rw [List.getElem?_map, Option.map_eq_some_iff] at hl'
      obtain ⟨s, hs, rfl⟩ := hl'
      rw [List.getElem?_take] at hs
      split at hs
      · have hi : i < ss.length := (List.getElem?_eq_some_iff.1 hs).1
        rw [hcell i hi, List.getD_eq_getElem?_getD, hs]
        unfold strV
        rw [mk_bl]
        rfl
      · cases hs
    · show _ ≤ Rows.uptoBulkAll _ + Rows.uptoBulkAll _ + 1
      rw [List.length_take] at k2
      have : len ≤ Rows.uptoBulkAll (H := H) (ChangeShapes.strs (ss.take len)) := by omega
      omega
    · obtain ⟨s, hs, rfl⟩ := List.mem_map.1 hl'
      have := k1 s hs
      show _ ≤ Rows.uptoBulkAll _ + Rows.uptoBulkAll _ + 1
      omega
theorem trod_struct5 {P : Program} {w : World} {base : Nat} {spare : Nat → Bool} {held : Bool} {t : TypeId} {f0 f1 f2 f3 f4 : Field} {fuel : Nat} {cs : List Value} {x : DataW H × List MemPlace} (ht : P.underlying t = some (.struct #[f0, f1, f2, f3, f4])) (h : DataW.trod enc P w base spare held fuel t cs = some x) :
    ∃ y0 y1 y2 y3 y4 n, x = (.agg [y0.1, y1.1, y2.1, y3.1, y4.1], y0.2 ++ (y1.2 ++ (y2.2 ++ (y3.2 ++ y4.2)))) ∧ cs.length = P.cellsOf t ∧ DataW.trod enc P w base spare held n f0.type ((cs.drop f0.offset).take (P.cellsOf f0.type)) = some y0 ∧
      DataW.trod enc P w base spare held n f1.type ((cs.drop f1.offset).take (P.cellsOf f1.type)) = some y1 ∧ DataW.trod enc P w base spare held n f2.type ((cs.drop f2.offset).take (P.cellsOf f2.type)) = some y2 ∧
      DataW.trod enc P w base spare held n f3.type ((cs.drop f3.offset).take (P.cellsOf f3.type)) = some y3 ∧ DataW.trod enc P w base spare held n f4.type ((cs.drop f4.offset).take (P.cellsOf f4.type)) = some y4 := by
  obtain ⟨xs, n, _, rfl, hl, hlen, hf⟩ := DataW.trod_struct ht h
  match xs, hlen with
  | [y0, y1, y2, y3, y4], _ => exact ⟨y0, y1, y2, y3, y4, n, by simp, hl, by simpa using hf 0 f0 rfl, by simpa using hf 1 f1 rfl, by simpa using hf 2 f2 rfl, by simpa using hf 3 f3 rfl, by simpa using hf 4 f4 rfl⟩
/-- A rule is not large. -/
def Fits (W : World) (r : RuE) (b : Nat) : Prop := r.ms.length = r.n ∧ SrcS W (fun _ => True) r.A r.ms ∧ r.h.size ≤ b ∧ r.n ≤ b ∧ ∀ x ∈ r.ms, x.length ≤ b
theorem Fits.ok {r : RuE} {b : Nat} (h : Fits W r b) (hb : b ≤ 1048576) : r.Ok W ∧ r.Small :=
  ⟨⟨h.1, by have := h.2.2.2.1; omega, h.2.1⟩, ⟨by have := h.2.2.1; omega, by have := h.2.2.2.1; omega, fun x hx => by have := h.2.2.2.2 x hx; omega⟩⟩
set_option maxRecDepth 100000 in
theorem arg_ru {cs : List Value} {x : DataW H × List MemPlace} (h : DataW.trod enc Tryz.prog W 0 (fun _ => true) true fuel 51 cs = some x) (c0 c1 c2 c3 c4 : Value) (hc : cs = [c0, c1, c2, c3, c4]) :
    ∃ r : RuE, [c0, c1, c2, c3, c4] = r.cells ∧ Fits W r (Rows.uptoBulk x.1) := by
  subst hc
  obtain ⟨y0, y1, y2, y3, y4, m, hx, _, h0, h1, h2, h3, h4⟩ := trod_struct5 Tryz.underlying51 h
  have eb : Tryz.prog.cellsOf 4 = 1 := by kernel_rfl
  have ei : Tryz.prog.cellsOf 3 = 1 := by kernel_rfl
  have es : Tryz.prog.cellsOf 9 = 1 := by kernel_rfl
  have el : Tryz.prog.cellsOf 49 = 1 := by kernel_rfl
  simp only [eb, ei, es, el, List.drop_zero, List.drop_succ_cons, List.take_succ_cons, List.take_zero] at h0 h1 h2 h3 h4
  obtain ⟨al, k0, _d0⟩ := DataW.trod_bool Tryz.underlying4 h0
  obtain ⟨ho, k1, d1, _⟩ := DataW.trod_string Tryz.underlying9 h1
  obtain ⟨lo, k2, d2, _⟩ := DataW.trod_int Tryz.underlying3 h2
  obtain ⟨hi, k3, d3, _⟩ := DataW.trod_int Tryz.underlying3 h3
  obtain ⟨A, ls, n, c, hn, k4, hs, hb1, hb2⟩ := arg_strsB h4
  simp only [List.cons.injEq, and_true] at k0 k1 k2 k3 k4
  subst k0 k1 k2 k3 k4
  have z1 : ho.data.toList.length = ho.size := by simp
  have hx1 : x.1 = .agg [y0.1, y1.1, y2.1, y3.1, y4.1] := by rw [hx]
  have hu : Rows.uptoBulk y0.1 + (Rows.uptoBulk y1.1 + (Rows.uptoBulk y2.1 + (Rows.uptoBulk y3.1 + (Rows.uptoBulk y4.1 + 0)))) ≤ Rows.uptoBulk x.1 := by rw [hx1]; simp only [Rows.uptoBulk, Rows.uptoBulkAll]; omega
  have u1 : ho.size ≤ Rows.uptoBulk y1.1 := by rw [d1]; simp only [Rows.uptoBulk]; omega
  exact ⟨⟨al, ho, lo, hi, A, n, c, ls⟩, rfl, hn, hs, by show ho.size ≤ _; omega, by show n ≤ _; omega, fun l hl => by have := hb2 l hl; omega⟩
theorem ru_one {cs : List Value} {x : DataW H × List MemPlace} (h : DataW.trod enc Tryz.prog W 0 (fun _ => true) true fuel 51 cs = some x) : 1 ≤ Rows.uptoBulk x.1 := by
  obtain ⟨y0, y1, y2, y3, y4, m, hx, _⟩ := trod_struct5 Tryz.underlying51 h
  rw [hx]
  simp only [Rows.uptoBulk, Rows.uptoBulkAll]
  omega
set_option maxRecDepth 100000 in
/-- A rule, opened. -/
theorem arg_rule {r : Reach} {b0 : Nat} {v : Value} {d : DataW H} {p : List MemPlace} (hv : Value.okWide Tryz.prog W r b0 51 v) (h : DataW.Trod enc Tryz.prog W 0 (fun _ => true) true 51 v d p) :
    ∃ r : RuE, v = .agg #[.bool r.al, .string r.h, .int .i64 r.lo, .int .i64 r.hi, .slice r.A r.n r.c] ∧ Fits W r (Rows.uptoBulk d) := by
  obtain ⟨cs, rfl, hsz⟩ := okWide_struct Tryz.underlying51 hv
  obtain ⟨c0, c1, c2, c3, c4, rfl⟩ : ∃ c0 c1 c2 c3 c4, cs = #[c0, c1, c2, c3, c4] := by
    have hs := hsz.trans (show _ = 5 by kernel_rfl)
    obtain ⟨l⟩ := cs
    match l, hs with
    | [c0, c1, c2, c3, c4], _ => exact ⟨c0, c1, c2, c3, c4, rfl⟩
  obtain ⟨fu, hf⟩ := h
  obtain ⟨r, hc, hr⟩ := arg_ru hf c0 c1 c2 c3 c4 rfl
  simp only [RuE.cells, List.cons.injEq, and_true] at hc
  obtain ⟨rfl, rfl, rfl, rfl, rfl⟩ := hc
  exact ⟨r, rfl, hr⟩
theorem bulk_one (D : Nat → DataW H) : ∀ (l : List Nat) (i : Nat), i ∈ l → Rows.uptoBulk (D i) ≤ Rows.uptoBulkAll (l.map D)
  | [], i, h => by cases h
  | j :: r, i, h => by
    show _ ≤ Rows.uptoBulk (D j) + Rows.uptoBulkAll (r.map D)
    rcases List.mem_cons.1 h with rfl | h
    · omega
    · have := bulk_one D r i h; omega
theorem bulk_len (D : Nat → DataW H) : ∀ l : List Nat, (∀ i ∈ l, 1 ≤ Rows.uptoBulk (D i)) → l.length ≤ Rows.uptoBulkAll (l.map D)
  | [], _ => Nat.le_refl _
  | j :: r, hD => by
    have h1 := bulk_len D r (fun i hi => hD i (List.mem_cons_of_mem _ hi))
    have h2 := hD j (List.mem_cons_self ..)
    show r.length + 1 ≤ Rows.uptoBulk (D j) + Rows.uptoBulkAll (r.map D)
    omega
set_option maxRecDepth 100000 in
theorem arg_rules {cs : List Value} {x : DataW H × List MemPlace} (h : DataW.trod enc Tryz.prog W 0 (fun _ => true) true fuel 25 cs = some x) :
    ∃ (A : Option Addr) (L : List RuE) (n c : Nat), L.length = n ∧ cs = [.slice A n c] ∧ n ≤ c ∧ SrcU W (fun _ => True) A L ∧ n ≤ Rows.uptoBulk x.1 ∧ ∀ r ∈ L, Fits W r (Rows.uptoBulk x.1) := by
  have e5 : Tryz.prog.cellsOf 51 = 5 := by kernel_rfl
  rcases open_slice Tryz.underlying25 h with ⟨hcs, hx⟩ | ⟨a, len, cap, m, fu, D, Pl, hcs, _, hl, _, hm, hx, hat⟩
  · exact ⟨none, [], 0, 0, rfl, hcs, Nat.le_refl _, fun h => absurd h (by simp), Nat.zero_le _, fun _ h => (by cases h)⟩
  · rw [if_pos rfl] at hm
    rw [e5] at hat
    obtain ⟨E, hE⟩ := choose_lt (α := RuE) (n := len) (p := fun i r => (∀ j v, r.cells[j]? = some v → W.cell? (a.add (i * 5 + j)) = some v) ∧ Fits W r (Rows.uptoBulk (D i)) ∧ 1 ≤ Rows.uptoBulk (D i)) (fun i hi => by
      obtain ⟨cs', h1, h2⟩ := hat i (by omega)
      obtain ⟨_, hlen, hget⟩ := World.cells?_some h1
      match cs', hlen with
      | [c0, c1, c2, c3, c4], _ =>
        obtain ⟨r, hc, hr⟩ := arg_ru h2 c0 c1 c2 c3 c4 rfl
        refine ⟨r, fun j v hv => ?_, hr, ru_one h2⟩
        have hj : j < 5 := (List.getElem?_eq_some_iff.1 hv).1
        have hg := hget j hj
        rw [add_add_at, hc] at hg
        rw [hg]
        exact hv)
    have hL : ((List.range len).map E).length = len := by simp
    have hbl : len ≤ Rows.uptoBulkAll ((List.range len).map D) := by
      have := bulk_len D (List.range len) (fun i hi => (hE i (by simpa using hi)).2.2)
      simpa using this
    have hxb : Rows.uptoBulkAll ((List.range len).map D) ≤ Rows.uptoBulk x.1 := by
      rw [hx]
      show _ ≤ Rows.uptoBulkAll _ + Rows.uptoBulkAll _ + 1
      omega
    refine ⟨some a, (List.range len).map E, len, cap, hL, hcs, hl, fun h0 => ?_, by omega, fun r hr => ?_⟩
    · rw [hL] at h0
      have hc0 := (hE 0 h0).1 0 _ rfl
      have hab : a.block < W.heap.size := by
        have e : (a.add (0 * 5 + 0)).block = a.block := by unfold Addr.add; split <;> rfl
        have := block_lt_of_cell hc0
        rwa [e] at this
      refine ⟨a, rfl, trivial, hab, fun i r hr => ?_⟩
      rw [List.getElem?_map, Option.map_eq_some_iff] at hr
      obtain ⟨j, hj, rfl⟩ := hr
      obtain ⟨hi, rfl⟩ := List.getElem?_eq_some_iff.1 hj
      rw [List.getElem_range]
      exact (hE i (by simpa using hi)).1
    · obtain ⟨i, hi, rfl⟩ := List.mem_map.1 hr
      have h1 := bulk_one D _ i hi
      obtain ⟨k1, k2, k3, k4, k5⟩ := (hE i (by simpa using hi)).2.1
      exact ⟨k1, k2, by omega, by omega, fun x hx => by have := k5 x hx; omega⟩
end
theorem pow_acl {W : World} {l : List (String × DataW Unit)} (h : laidMetH Tryz.prog l W) (h1 : l.filter (fun x => x.1 == "internal/strconv.uint64pow10") = [("internal/strconv.uint64pow10", Lib.tabData .u64 Lib.pow10Tab)]) : PowTab W :=
  tab_of h _ .u64 Lib.pow10Tab h1 (g := 3) (t := 130) (e := 110) (n := 20) (by kernel_rfl) (by kernel_rfl) (by kernel_rfl) (by kernel_rfl) (by kernel_rfl) (by kernel_rfl)
end Go.Proofs.YtopanahgeeolbaaGreatDoor.Acl

namespace Go.Proofs.YtopanahgeeolbaaGreatDoor.Acl
open Go.ChangeShapes Go.WideShapes Go.ChangeAt Go.RowKit Go.Deep

theorem strBytes7 : Tryz.prog.bytesOf 9 = 16 := by kernel_rfl
theorem ruBytes7 : Tryz.prog.bytesOf 51 = 64 := by kernel_rfl
theorem weights_part7 {H : Type} {t : TypeId} {d : DataW H} {l : List (DataW H)} (hd : d ∈ l) (h : (DataW.weightsAll Tryz.prog t l).all (· ≤ reachBytes) = true) : (d.weights Tryz.prog t).all (· ≤ reachBytes) = true := by
  induction l with
  | nil => cases hd
  | cons x r ih =>
    simp only [DataW.weightsAll, List.all_append, Bool.and_eq_true] at h
    rcases List.mem_cons.1 hd with rfl | e
    · exact h.1
    · exact ih e h.2
theorem weights_each {H : Type} {t : TypeId} {d : DataW H} {ts : List TypeId} {ds : List (DataW H)} (h : (DataW.weightsEach Tryz.prog ts ds).all (· ≤ reachBytes) = true) (j : Nat) (ht : ts[j]? = some t) (hd : ds[j]? = some d) : (d.weights Tryz.prog t).all (· ≤ reachBytes) = true := by
  rw [List.all_eq_true] at h ⊢
  exact fun n hn => h n (DataW.weights_mem_each ht hd n hn)
section
variable {H : Type} {enc : TypeId × Value → H} {W : World} {fuel : Nat}

theorem arg_strsW {cs : List Value} {x : DataW H × List MemPlace} (h : DataW.trod enc Tryz.prog W 0 (fun _ => true) true fuel 49 cs = some x) :
    ∃ (A : Option Addr) (ls : List (List UInt8)) (n c : Nat), ls.length = n ∧ cs = [.slice A n c] ∧ SrcS W (fun _ => True) A ls ∧ ((x.1.weights Tryz.prog 49).all (· ≤ reachBytes) = true → n * 16 ≤ 140737488351232) := by
  rcases open_strings Tryz.underlying49 Tryz.underlying9 (by kernel_rfl) h with ⟨hcs, hx⟩ | ⟨a, len, cap, ss, hcs, _, hl, hm, hz, hx, hcell, hwz⟩
  · exact ⟨none, [], 0, 0, rfl, hcs, fun h => absurd h (by simp), fun _ => by omega⟩
  · simp only [if_true] at hz
    subst hx
    have hlen : ((ss.take len).map bl).length = len := by simp; omega
    refine ⟨some a, (ss.take len).map bl, len, cap, hlen, hcs, fun h0 => ?_, fun hw => ?_⟩
    · have hb := block_lt_of_cell (hcell 0 (by omega))
      have hab : a.block < W.heap.size := by
        have e : (a.add 0).block = a.block := by unfold Addr.add; split <;> rfl
        rwa [e] at hb
      refine ⟨a, rfl, trivial, hab, fun i l hl' => ?_⟩
      rw [List.getElem?_map, Option.map_eq_some_iff] at hl'
      obtain ⟨s, hs, rfl⟩ := hl'
      rw [List.getElem?_take] at hs
      split at hs
      · have hi : i < ss.length := (List.getElem?_eq_some_iff.1 hs).1
        rw [hcell i hi, List.getD_eq_getElem?_getD, hs]
        unfold strV
        rw [mk_bl]
        rfl
      · cases hs
    · simp only [DataW.weights, Tryz.underlying49, List.all_cons, List.all_append, Bool.and_eq_true, decide_eq_true_eq, strBytes7, ChangeShapes.strs, List.length_map, List.length_take, List.length_drop, show reachBytes = 140737488351232 from rfl] at hw
      obtain ⟨h1, _⟩ := hw
      omega
set_option maxRecDepth 100000 in
theorem arg_ruW {cs : List Value} {x : DataW H × List MemPlace} (h : DataW.trod enc Tryz.prog W 0 (fun _ => true) true fuel 51 cs = some x) (c0 c1 c2 c3 c4 : Value) (hc : cs = [c0, c1, c2, c3, c4]) :
    ∃ r : RuE, [c0, c1, c2, c3, c4] = r.cells ∧ ((x.1.weights Tryz.prog 51).all (· ≤ reachBytes) = true → r.Ok W ∧ r.h.size ≤ 140737488351232) := by
  subst hc
  obtain ⟨y0, y1, y2, y3, y4, m, hx, _, h0, h1, h2, h3, h4⟩ := trod_struct5 Tryz.underlying51 h
  have eb : Tryz.prog.cellsOf 4 = 1 := by kernel_rfl
  have ei : Tryz.prog.cellsOf 3 = 1 := by kernel_rfl
  have es : Tryz.prog.cellsOf 9 = 1 := by kernel_rfl
  have el : Tryz.prog.cellsOf 49 = 1 := by kernel_rfl
  simp only [eb, ei, es, el, List.drop_zero, List.drop_succ_cons, List.take_succ_cons, List.take_zero] at h0 h1 h2 h3 h4
  obtain ⟨al, k0, _d0⟩ := DataW.trod_bool Tryz.underlying4 h0
  obtain ⟨ho, k1, d1, _⟩ := DataW.trod_string Tryz.underlying9 h1
  obtain ⟨lo, k2, d2, _⟩ := DataW.trod_int Tryz.underlying3 h2
  obtain ⟨hi, k3, d3, _⟩ := DataW.trod_int Tryz.underlying3 h3
  obtain ⟨A, ls, n, c, hn, k4, hs, hw4⟩ := arg_strsW h4
  simp only [List.cons.injEq, and_true] at k0 k1 k2 k3 k4
  subst k0 k1 k2 k3 k4
  have z1 : ho.data.toList.length = ho.size := by simp
  have hx1 : x.1 = .agg [y0.1, y1.1, y2.1, y3.1, y4.1] := by rw [hx]
  refine ⟨⟨al, ho, lo, hi, A, n, c, ls⟩, rfl, fun hw => ?_⟩
  rw [hx1] at hw
  simp only [DataW.weights, Tryz.underlying51, List.map_cons, List.map_nil, DataW.weightsEach, List.all_append, Bool.and_eq_true] at hw
  obtain ⟨v0, v1, v2, v3, v4, _⟩ := hw
  have a4 := hw4 v4
  rw [d1] at v1
  simp only [DataW.weights, List.all_cons, List.all_nil, Bool.and_true, decide_eq_true_eq, show reachBytes = 140737488351232 from rfl] at v1
  exact ⟨⟨hn, by show n ≤ _; omega, hs⟩, by show ho.size ≤ _; omega⟩
set_option maxRecDepth 100000 in
/-- A rule, opened. -/
theorem arg_ruleW {r : Reach} {b0 : Nat} {v : Value} {d : DataW H} {p : List MemPlace} (hv : Value.okWide Tryz.prog W r b0 51 v) (h : DataW.Trod enc Tryz.prog W 0 (fun _ => true) true 51 v d p) :
    ∃ r : RuE, v = .agg #[.bool r.al, .string r.h, .int .i64 r.lo, .int .i64 r.hi, .slice r.A r.n r.c] ∧ ((d.weights Tryz.prog 51).all (· ≤ reachBytes) = true → r.Ok W ∧ r.h.size ≤ 140737488351232) := by
  obtain ⟨cs, rfl, hsz⟩ := okWide_struct Tryz.underlying51 hv
  obtain ⟨c0, c1, c2, c3, c4, rfl⟩ : ∃ c0 c1 c2 c3 c4, cs = #[c0, c1, c2, c3, c4] := by
    have hs := hsz.trans (show _ = 5 by kernel_rfl)
    obtain ⟨l⟩ := cs
    match l, hs with
    | [c0, c1, c2, c3, c4], _ => exact ⟨c0, c1, c2, c3, c4, rfl⟩
  obtain ⟨fu, hf⟩ := h
  obtain ⟨r, hc, hr⟩ := arg_ruW hf c0 c1 c2 c3 c4 rfl
  simp only [RuE.cells, List.cons.injEq, and_true] at hc
  obtain ⟨rfl, rfl, rfl, rfl, rfl⟩ := hc
  exact ⟨r, rfl, hr⟩
set_option maxRecDepth 100000 in
theorem arg_rulesW {cs : List Value} {x : DataW H × List MemPlace} (h : DataW.trod enc Tryz.prog W 0 (fun _ => true) true fuel 25 cs = some x) :
    ∃ (A : Option Addr) (L : List RuE) (n c : Nat), L.length = n ∧ cs = [.slice A n c] ∧ n ≤ c ∧ SrcU W (fun _ => True) A L ∧ ((x.1.weights Tryz.prog 25).all (· ≤ reachBytes) = true → n * 64 ≤ 140737488351232 ∧ ∀ r ∈ L, r.Ok W) := by
  have e5 : Tryz.prog.cellsOf 51 = 5 := by kernel_rfl
  rcases open_slice Tryz.underlying25 h with ⟨hcs, hx⟩ | ⟨a, len, cap, m, fu, D, Pl, hcs, _, hl, _, hm, hx, hat⟩
  · exact ⟨none, [], 0, 0, rfl, hcs, Nat.le_refl _, fun h => absurd h (by simp), fun _ => ⟨by omega, fun _ h => (by cases h)⟩⟩
  · rw [if_pos rfl] at hm
    rw [e5] at hat
    obtain ⟨E, hE⟩ := choose_lt (α := RuE) (n := len) (p := fun i r => (∀ j v, r.cells[j]? = some v → W.cell? (a.add (i * 5 + j)) = some v) ∧ (((D i).weights Tryz.prog 51).all (· ≤ reachBytes) = true → r.Ok W ∧ r.h.size ≤ 140737488351232)) (fun i hi => by
      obtain ⟨cs', h1, h2⟩ := hat i (by omega)
      obtain ⟨_, hlen, hget⟩ := World.cells?_some h1
      match cs', hlen with
      | [c0, c1, c2, c3, c4], _ =>
        obtain ⟨r, hc, hr⟩ := arg_ruW h2 c0 c1 c2 c3 c4 rfl
        refine ⟨r, fun j v hv => ?_, hr⟩
        have hj : j < 5 := (List.getElem?_eq_some_iff.1 hv).1
        have hg := hget j hj
        rw [add_add_at, hc] at hg
        rw [hg]
        exact hv)
    have hL : ((List.range len).map E).length = len := by simp
    refine ⟨some a, (List.range len).map E, len, cap, hL, hcs, hl, fun h0 => ?_, fun hw => ?_⟩
    · rw [hL] at h0
      have hc0 := (hE 0 h0).1 0 _ rfl
      have hab : a.block < W.heap.size := by
        have e : (a.add (0 * 5 + 0)).block = a.block := by unfold Addr.add; split <;> rfl
        have := block_lt_of_cell hc0
        rwa [e] at this
      refine ⟨a, rfl, trivial, hab, fun i r hr => ?_⟩
      rw [List.getElem?_map, Option.map_eq_some_iff] at hr
      obtain ⟨j, hj, rfl⟩ := hr
      obtain ⟨hi, rfl⟩ := List.getElem?_eq_some_iff.1 hj
      rw [List.getElem_range]
      exact (hE i (by simpa using hi)).1
    · rw [hx] at hw
      simp only [DataW.weights, Tryz.underlying25, List.all_cons, List.all_append, Bool.and_eq_true, decide_eq_true_eq, ruBytes7, List.length_map, List.length_range, show reachBytes = 140737488351232 from rfl] at hw
      obtain ⟨h1, h2, _⟩ := hw
      refine ⟨by omega, fun r hr => ?_⟩
      obtain ⟨i, hi, rfl⟩ := List.mem_map.1 hr
      have hp := weights_part7 (t := 51) (List.mem_map.2 ⟨i, hi, rfl⟩) h2
      exact ((hE i (by simpa using hi)).2 hp).1
end
end Go.Proofs.YtopanahgeeolbaaGreatDoor.Acl

namespace Go.Proofs.YtopanahgeeolbaaGreatDoor.Aut
open Go.ChangeShapes Go.WideShapes Go.ChangeAt Go.RowKit Go.Deep Acl

section
variable {H : Type} {enc : TypeId × Value → H} {W : World} {fuel : Nat}

theorem trod_structN9 {P : Program} {w : World} {base : Nat} {spare : Nat → Bool} {held : Bool} {t : TypeId} {f0 f1 f2 f3 f4 f5 f6 f7 f8 : Field} {fuel : Nat} {cs : List Value} {x : DataW H × List MemPlace} (ht : P.underlying t = some (.struct #[f0, f1, f2, f3, f4, f5, f6, f7, f8])) (h : DataW.trod enc P w base spare held fuel t cs = some x) :
    ∃ y0 y1 y2 y3 y4 y5 y6 y7 y8 n, x.1 = .agg [y0.1, y1.1, y2.1, y3.1, y4.1, y5.1, y6.1, y7.1, y8.1] ∧ DataW.trod enc P w base spare held n f0.type ((cs.drop f0.offset).take (P.cellsOf f0.type)) = some y0 ∧ DataW.trod enc P w base spare held n f1.type ((cs.drop f1.offset).take (P.cellsOf f1.type)) = some y1 ∧ DataW.trod enc P w base spare held n f2.type ((cs.drop f2.offset).take (P.cellsOf f2.type)) = some y2 ∧ DataW.trod enc P w base spare held n f3.type ((cs.drop f3.offset).take (P.cellsOf f3.type)) = some y3 ∧ DataW.trod enc P w base spare held n f4.type ((cs.drop f4.offset).take (P.cellsOf f4.type)) = some y4 ∧ DataW.trod enc P w base spare held n f5.type ((cs.drop f5.offset).take (P.cellsOf f5.type)) = some y5 ∧ DataW.trod enc P w base spare held n f6.type ((cs.drop f6.offset).take (P.cellsOf f6.type)) = some y6 ∧ DataW.trod enc P w base spare held n f7.type ((cs.drop f7.offset).take (P.cellsOf f7.type)) = some y7 ∧ DataW.trod enc P w base spare held n f8.type ((cs.drop f8.offset).take (P.cellsOf f8.type)) = some y8 := by
  obtain ⟨xs, n, _, rfl, hl, hlen, hf⟩ := DataW.trod_struct ht h
  match xs, hlen with
  | [y0, y1, y2, y3, y4, y5, y6, y7, y8], _ => exact ⟨y0, y1, y2, y3, y4, y5, y6, y7, y8, n, by simp, by simpa using hf 0 f0 rfl, by simpa using hf 1 f1 rfl, by simpa using hf 2 f2 rfl, by simpa using hf 3 f3 rfl, by simpa using hf 4 f4 rfl, by simpa using hf 5 f5 rfl, by simpa using hf 6 f6 rfl, by simpa using hf 7 f7 rfl, by simpa using hf 8 f8 rfl⟩
theorem trod_structN3 {P : Program} {w : World} {base : Nat} {spare : Nat → Bool} {held : Bool} {t : TypeId} {f0 f1 f2 : Field} {fuel : Nat} {cs : List Value} {x : DataW H × List MemPlace} (ht : P.underlying t = some (.struct #[f0, f1, f2])) (h : DataW.trod enc P w base spare held fuel t cs = some x) :
    ∃ y0 y1 y2 n, x.1 = .agg [y0.1, y1.1, y2.1] ∧ DataW.trod enc P w base spare held n f0.type ((cs.drop f0.offset).take (P.cellsOf f0.type)) = some y0 ∧ DataW.trod enc P w base spare held n f1.type ((cs.drop f1.offset).take (P.cellsOf f1.type)) = some y1 ∧ DataW.trod enc P w base spare held n f2.type ((cs.drop f2.offset).take (P.cellsOf f2.type)) = some y2 := by
  obtain ⟨xs, n, _, rfl, hl, hlen, hf⟩ := DataW.trod_struct ht h
  match xs, hlen with
  | [y0, y1, y2], _ => exact ⟨y0, y1, y2, n, by simp, by simpa using hf 0 f0 rfl, by simpa using hf 1 f1 rfl, by simpa using hf 2 f2 rfl⟩
theorem trod_structN2 {P : Program} {w : World} {base : Nat} {spare : Nat → Bool} {held : Bool} {t : TypeId} {f0 f1 : Field} {fuel : Nat} {cs : List Value} {x : DataW H × List MemPlace} (ht : P.underlying t = some (.struct #[f0, f1])) (h : DataW.trod enc P w base spare held fuel t cs = some x) :
    ∃ y0 y1 n, x.1 = .agg [y0.1, y1.1] ∧ DataW.trod enc P w base spare held n f0.type ((cs.drop f0.offset).take (P.cellsOf f0.type)) = some y0 ∧ DataW.trod enc P w base spare held n f1.type ((cs.drop f1.offset).take (P.cellsOf f1.type)) = some y1 := by
  obtain ⟨xs, n, _, rfl, hl, hlen, hf⟩ := DataW.trod_struct ht h
  match xs, hlen with
  | [y0, y1], _ => exact ⟨y0, y1, n, by simp, by simpa using hf 0 f0 rfl, by simpa using hf 1 f1 rfl⟩
theorem teBytes : Tryz.prog.bytesOf 27 = 96 := by kernel_rfl
/-- A tenant is not large. -/
def FitsT (W : World) (t : TeE) (b : Nat) : Prop := t.L.length = t.n ∧ SrcU W (fun _ => True) t.A t.L ∧ t.tok.size ≤ b ∧ t.n ≤ b ∧ ∀ r ∈ t.L, Fits W r b
theorem FitsT.mono {t : TeE} {b b' : Nat} (h : FitsT W t b) (hb : b ≤ b') : FitsT W t b' := by
  obtain ⟨q1, q2, q3, q4, q5⟩ := h
  refine ⟨q1, q2, by omega, by omega, fun r hr => ?_⟩
  obtain ⟨p1, p2, p3, p4, p5⟩ := q5 r hr
  exact ⟨p1, p2, by omega, by omega, fun x hx => by have := p5 x hx; omega⟩
theorem FitsT.ok {t : TeE} {b : Nat} (h : FitsT W t b) (hb : b ≤ 1048576) : t.Ok W ∧ t.Small := by
  obtain ⟨q1, q2, q3, q4, q5⟩ := h
  exact ⟨⟨q1, by omega, q2, fun r hr => ((q5 r hr).ok hb).1, by omega⟩, ⟨by omega, fun r hr => ((q5 r hr).ok hb).2⟩⟩
theorem te_one {cs : List Value} {x : DataW H × List MemPlace} (h : DataW.trod enc Tryz.prog W 0 (fun _ => true) true fuel 27 cs = some x) : 1 ≤ Rows.uptoBulk x.1 := by
  obtain ⟨y0, y1, y2, y3, y4, y5, y6, y7, y8, m, hx, _⟩ := trod_structN9 Tryz.underlying27 h
  rw [hx]
  simp only [Rows.uptoBulk, Rows.uptoBulkAll]
  omega
set_option maxRecDepth 100000 in
theorem arg_te {cs : List Value} {x : DataW H × List MemPlace} (h : DataW.trod enc Tryz.prog W 0 (fun _ => true) true fuel 27 cs = some x) (c0 c1 c2 c3 c4 c5 c6 c7 c8 : Value) (hc : cs = [c0, c1, c2, c3, c4, c5, c6, c7, c8]) :
    ∃ t : TeE, [c0, c1, c2, c3, c4, c5, c6, c7, c8] = t.cells ∧ FitsT W t (Rows.uptoBulk x.1) := by
  subst hc
  obtain ⟨y0, y1, y2, y3, y4, y5, y6, y7, y8, m, hx1, h0, h1, h2, h3, h4, h5, h6, h7, h8⟩ := trod_structN9 Tryz.underlying27 h
  have ei : Tryz.prog.cellsOf 3 = 1 := by kernel_rfl
  have es : Tryz.prog.cellsOf 9 = 1 := by kernel_rfl
  have el : Tryz.prog.cellsOf 25 = 1 := by kernel_rfl
  simp only [ei, es, el, List.drop_zero, List.drop_succ_cons, List.take_succ_cons, List.take_zero] at h0 h1 h2 h3 h4 h5 h6 h7 h8
  obtain ⟨tk, k0, d0, _⟩ := DataW.trod_string Tryz.underlying9 h0
  obtain ⟨A, L, n, c, hn, k1, hnc, hs, hb1, hb2⟩ := arg_rules h1
  obtain ⟨n2, k2, _d2, _⟩ := DataW.trod_int Tryz.underlying3 h2
  obtain ⟨n3, k3, _d3, _⟩ := DataW.trod_int Tryz.underlying3 h3
  obtain ⟨n4, k4, _d4, _⟩ := DataW.trod_int Tryz.underlying3 h4
  obtain ⟨n5, k5, _d5, _⟩ := DataW.trod_int Tryz.underlying3 h5
  obtain ⟨n6, k6, _d6, _⟩ := DataW.trod_int Tryz.underlying3 h6
  obtain ⟨n7, k7, _d7, _⟩ := DataW.trod_int Tryz.underlying3 h7
  obtain ⟨n8, k8, _d8, _⟩ := DataW.trod_int Tryz.underlying3 h8
  simp only [List.cons.injEq, and_true] at k0 k1 k2 k3 k4 k5 k6 k7 k8
  subst k0 k1 k2 k3 k4 k5 k6 k7 k8
  have z0 : tk.data.toList.length = tk.size := by simp
  refine ⟨⟨tk, A, n, c, L, n2, n3, n4, n5, n6, n7, n8⟩, rfl, ?_⟩
  have hu : Rows.uptoBulk y0.1 + (Rows.uptoBulk y1.1 + 0) ≤ Rows.uptoBulk x.1 := by rw [hx1]; simp only [Rows.uptoBulk, Rows.uptoBulkAll]; omega
  have u0 : tk.size ≤ Rows.uptoBulk y0.1 := by rw [d0]; simp only [Rows.uptoBulk]; omega
  exact ⟨hn, hs, by show tk.size ≤ _; omega, by show n ≤ _; omega, fun r hr => by
    obtain ⟨q1, q2, q3, q4, q5⟩ := hb2 r hr
    exact ⟨q1, q2, by omega, by omega, fun l hl => by have := q5 l hl; omega⟩⟩
set_option maxRecDepth 100000 in
theorem arg_teW {cs : List Value} {x : DataW H × List MemPlace} (h : DataW.trod enc Tryz.prog W 0 (fun _ => true) true fuel 27 cs = some x) (c0 c1 c2 c3 c4 c5 c6 c7 c8 : Value) (hc : cs = [c0, c1, c2, c3, c4, c5, c6, c7, c8]) :
    ∃ t : TeE, [c0, c1, c2, c3, c4, c5, c6, c7, c8] = t.cells ∧ ((x.1.weights Tryz.prog 27).all (· ≤ reachBytes) = true → t.Ok W) := by
  subst hc
  obtain ⟨y0, y1, y2, y3, y4, y5, y6, y7, y8, m, hx1, h0, h1, h2, h3, h4, h5, h6, h7, h8⟩ := trod_structN9 Tryz.underlying27 h
  have ei : Tryz.prog.cellsOf 3 = 1 := by kernel_rfl
  have es : Tryz.prog.cellsOf 9 = 1 := by kernel_rfl
  have el : Tryz.prog.cellsOf 25 = 1 := by kernel_rfl
  simp only [ei, es, el, List.drop_zero, List.drop_succ_cons, List.take_succ_cons, List.take_zero] at h0 h1 h2 h3 h4 h5 h6 h7 h8
  obtain ⟨tk, k0, d0, _⟩ := DataW.trod_string Tryz.underlying9 h0
  obtain ⟨A, L, n, c, hn, k1, hnc, hs, hw1⟩ := arg_rulesW h1
  obtain ⟨n2, k2, _d2, _⟩ := DataW.trod_int Tryz.underlying3 h2
  obtain ⟨n3, k3, _d3, _⟩ := DataW.trod_int Tryz.underlying3 h3
  obtain ⟨n4, k4, _d4, _⟩ := DataW.trod_int Tryz.underlying3 h4
  obtain ⟨n5, k5, _d5, _⟩ := DataW.trod_int Tryz.underlying3 h5
  obtain ⟨n6, k6, _d6, _⟩ := DataW.trod_int Tryz.underlying3 h6
  obtain ⟨n7, k7, _d7, _⟩ := DataW.trod_int Tryz.underlying3 h7
  obtain ⟨n8, k8, _d8, _⟩ := DataW.trod_int Tryz.underlying3 h8
  simp only [List.cons.injEq, and_true] at k0 k1 k2 k3 k4 k5 k6 k7 k8
  subst k0 k1 k2 k3 k4 k5 k6 k7 k8
  have z0 : tk.data.toList.length = tk.size := by simp
  refine ⟨⟨tk, A, n, c, L, n2, n3, n4, n5, n6, n7, n8⟩, rfl, ?_⟩
  intro hw
  rw [hx1] at hw
  simp only [DataW.weights, Tryz.underlying27, List.map_cons, List.map_nil, DataW.weightsEach, List.all_append, Bool.and_eq_true] at hw
  obtain ⟨v0, v1, _⟩ := hw
  obtain ⟨a1, a2⟩ := hw1 v1
  rw [d0] at v0
  simp only [DataW.weights, List.all_cons, List.all_nil, Bool.and_true, decide_eq_true_eq, show reachBytes = 140737488351232 from rfl] at v0
  exact ⟨hn, by show n ≤ _; omega, hs, a2, by show tk.size ≤ _; omega⟩
set_option maxRecDepth 100000 in
theorem arg_ten {r : Reach} {b0 : Nat} {v : Value} {d : DataW H} {p : List MemPlace} (hv : Value.okWide Tryz.prog W r b0 27 v) (h : DataW.Trod enc Tryz.prog W 0 (fun _ => true) true 27 v d p) :
    ∃ t : TeE, v = .agg #[.string t.tok, .slice t.A t.n t.c, .int .i64 t.nb, .int .i64 t.ne, .int .i64 t.ns, .int .i64 t.nc, .int .i64 t.nw, .int .i64 t.nr, .int .i64 t.nu] ∧ FitsT W t (Rows.uptoBulk d) := by
  obtain ⟨cs, rfl, hsz⟩ := okWide_struct Tryz.underlying27 hv
  obtain ⟨c0, c1, c2, c3, c4, c5, c6, c7, c8, rfl⟩ : ∃ c0 c1 c2 c3 c4 c5 c6 c7 c8, cs = #[c0, c1, c2, c3, c4, c5, c6, c7, c8] := by
    have hs := hsz.trans (show _ = 9 by kernel_rfl)
    obtain ⟨l⟩ := cs
    match l, hs with
    | [c0, c1, c2, c3, c4, c5, c6, c7, c8], _ => exact ⟨c0, c1, c2, c3, c4, c5, c6, c7, c8, rfl⟩
  obtain ⟨fu, hf⟩ := h
  obtain ⟨t, hc, hr⟩ := arg_te hf c0 c1 c2 c3 c4 c5 c6 c7 c8 rfl
  simp only [TeE.cells, List.cons.injEq, and_true] at hc
  obtain ⟨rfl, rfl, rfl, rfl, rfl, rfl, rfl, rfl, rfl⟩ := hc
  exact ⟨t, rfl, hr⟩
set_option maxRecDepth 100000 in
theorem arg_tenW {r : Reach} {b0 : Nat} {v : Value} {d : DataW H} {p : List MemPlace} (hv : Value.okWide Tryz.prog W r b0 27 v) (h : DataW.Trod enc Tryz.prog W 0 (fun _ => true) true 27 v d p) :
    ∃ t : TeE, v = .agg #[.string t.tok, .slice t.A t.n t.c, .int .i64 t.nb, .int .i64 t.ne, .int .i64 t.ns, .int .i64 t.nc, .int .i64 t.nw, .int .i64 t.nr, .int .i64 t.nu] ∧ ((d.weights Tryz.prog 27).all (· ≤ reachBytes) = true → t.Ok W) := by
  obtain ⟨cs, rfl, hsz⟩ := okWide_struct Tryz.underlying27 hv
  obtain ⟨c0, c1, c2, c3, c4, c5, c6, c7, c8, rfl⟩ : ∃ c0 c1 c2 c3 c4 c5 c6 c7 c8, cs = #[c0, c1, c2, c3, c4, c5, c6, c7, c8] := by
    have hs := hsz.trans (show _ = 9 by kernel_rfl)
    obtain ⟨l⟩ := cs
    match l, hs with
    | [c0, c1, c2, c3, c4, c5, c6, c7, c8], _ => exact ⟨c0, c1, c2, c3, c4, c5, c6, c7, c8, rfl⟩
  obtain ⟨fu, hf⟩ := h
  obtain ⟨t, hc, hr⟩ := arg_teW hf c0 c1 c2 c3 c4 c5 c6 c7 c8 rfl
  simp only [TeE.cells, List.cons.injEq, and_true] at hc
  obtain ⟨rfl, rfl, rfl, rfl, rfl, rfl, rfl, rfl, rfl⟩ := hc
  exact ⟨t, rfl, hr⟩
set_option maxRecDepth 100000 in
theorem arg_tens {cs : List Value} {x : DataW H × List MemPlace} (h : DataW.trod enc Tryz.prog W 0 (fun _ => true) true fuel 22 cs = some x) :
    ∃ (A : Option Addr) (L : List TeE) (n c : Nat), L.length = n ∧ cs = [.slice A n c] ∧ n ≤ c ∧ SrcT W (fun _ => True) A L ∧ n ≤ Rows.uptoBulk x.1 ∧ ∀ t ∈ L, FitsT W t (Rows.uptoBulk x.1) := by
  have e9 : Tryz.prog.cellsOf 27 = 9 := by kernel_rfl
  rcases open_slice Tryz.underlying22 h with ⟨hcs, hx⟩ | ⟨a, len, cap, m, fu, D, Pl, hcs, _, hl, _, hm, hx, hat⟩
  · exact ⟨none, [], 0, 0, rfl, hcs, Nat.le_refl _, fun h => absurd h (by simp), Nat.zero_le _, fun _ h => (by cases h)⟩
  · rw [if_pos rfl] at hm
    rw [e9] at hat
    obtain ⟨E, hE⟩ := choose_lt (α := TeE) (n := len) (p := fun i t => (∀ j v, t.cells[j]? = some v → W.cell? (a.add (i * 9 + j)) = some v) ∧ FitsT W t (Rows.uptoBulk (D i)) ∧ 1 ≤ Rows.uptoBulk (D i)) (fun i hi => by
      obtain ⟨cs', h1, h2⟩ := hat i (by omega)
      obtain ⟨_, hlen, hget⟩ := World.cells?_some h1
      match cs', hlen with
      | [c0, c1, c2, c3, c4, c5, c6, c7, c8], _ =>
        obtain ⟨t, hc, hr⟩ := arg_te h2 c0 c1 c2 c3 c4 c5 c6 c7 c8 rfl
        refine ⟨t, fun j v hv => ?_, hr, te_one h2⟩
        have hj : j < 9 := (List.getElem?_eq_some_iff.1 hv).1
        have hg := hget j hj
        rw [add_add_at, hc] at hg
        rw [hg]
        exact hv)
    have hL : ((List.range len).map E).length = len := by simp
    have hbl : len ≤ Rows.uptoBulkAll ((List.range len).map D) := by
      have := bulk_len D (List.range len) (fun i hi => (hE i (by simpa using hi)).2.2)
      simpa using this
    have hxb : Rows.uptoBulkAll ((List.range len).map D) ≤ Rows.uptoBulk x.1 := by
      rw [hx]
      show _ ≤ Rows.uptoBulkAll _ + Rows.uptoBulkAll _ + 1
      omega
    refine ⟨some a, (List.range len).map E, len, cap, hL, hcs, hl, fun h0 => ?_, by omega, fun t ht => ?_⟩
    · rw [hL] at h0
      have hc0 := (hE 0 h0).1 0 _ rfl
      have hab : a.block < W.heap.size := by
        have e : (a.add (0 * 9 + 0)).block = a.block := by unfold Addr.add; split <;> rfl
        have := block_lt_of_cell hc0
        rwa [e] at this
      refine ⟨a, rfl, trivial, hab, fun i r hr => ?_⟩
      rw [List.getElem?_map, Option.map_eq_some_iff] at hr
      obtain ⟨j, hj, rfl⟩ := hr
      obtain ⟨hi, rfl⟩ := List.getElem?_eq_some_iff.1 hj
      rw [List.getElem_range]
      exact (hE i (by simpa using hi)).1
    · obtain ⟨i, hi, rfl⟩ := List.mem_map.1 ht
      have h1 := bulk_one D _ i hi
      exact (hE i (by simpa using hi)).2.1.mono (by omega)
set_option maxRecDepth 100000 in
theorem arg_tensW {cs : List Value} {x : DataW H × List MemPlace} (h : DataW.trod enc Tryz.prog W 0 (fun _ => true) true fuel 22 cs = some x) :
    ∃ (A : Option Addr) (L : List TeE) (n c : Nat), L.length = n ∧ cs = [.slice A n c] ∧ n ≤ c ∧ SrcT W (fun _ => True) A L ∧ ((x.1.weights Tryz.prog 22).all (· ≤ reachBytes) = true → n * 96 ≤ 140737488351232 ∧ ∀ t ∈ L, t.Ok W) := by
  have e9 : Tryz.prog.cellsOf 27 = 9 := by kernel_rfl
  rcases open_slice Tryz.underlying22 h with ⟨hcs, hx⟩ | ⟨a, len, cap, m, fu, D, Pl, hcs, _, hl, _, hm, hx, hat⟩
  · exact ⟨none, [], 0, 0, rfl, hcs, Nat.le_refl _, fun h => absurd h (by simp), fun _ => ⟨by omega, fun _ h => (by cases h)⟩⟩
  · rw [if_pos rfl] at hm
    rw [e9] at hat
    obtain ⟨E, hE⟩ := choose_lt (α := TeE) (n := len) (p := fun i t => (∀ j v, t.cells[j]? = some v → W.cell? (a.add (i * 9 + j)) = some v) ∧ (((D i).weights Tryz.prog 27).all (· ≤ reachBytes) = true → t.Ok W)) (fun i hi => by
      obtain ⟨cs', h1, h2⟩ := hat i (by omega)
      obtain ⟨_, hlen, hget⟩ := World.cells?_some h1
      match cs', hlen with
      | [c0, c1, c2, c3, c4, c5, c6, c7, c8], _ =>
        obtain ⟨t, hc, hr⟩ := arg_teW h2 c0 c1 c2 c3 c4 c5 c6 c7 c8 rfl
        refine ⟨t, fun j v hv => ?_, hr⟩
        have hj : j < 9 := (List.getElem?_eq_some_iff.1 hv).1
        have hg := hget j hj
        rw [add_add_at, hc] at hg
        rw [hg]
        exact hv)
    have hL : ((List.range len).map E).length = len := by simp
    refine ⟨some a, (List.range len).map E, len, cap, hL, hcs, hl, fun h0 => ?_, fun hw => ?_⟩
    · rw [hL] at h0
      have hc0 := (hE 0 h0).1 0 _ rfl
      have hab : a.block < W.heap.size := by
        have e : (a.add (0 * 9 + 0)).block = a.block := by unfold Addr.add; split <;> rfl
        have := block_lt_of_cell hc0
        rwa [e] at this
      refine ⟨a, rfl, trivial, hab, fun i r hr => ?_⟩
      rw [List.getElem?_map, Option.map_eq_some_iff] at hr
      obtain ⟨j, hj, rfl⟩ := hr
      obtain ⟨hi, rfl⟩ := List.getElem?_eq_some_iff.1 hj
      rw [List.getElem_range]
      exact (hE i (by simpa using hi)).1
    · rw [hx] at hw
      simp only [DataW.weights, Tryz.underlying22, List.all_cons, List.all_append, Bool.and_eq_true, decide_eq_true_eq, teBytes, List.length_map, List.length_range, show reachBytes = 140737488351232 from rfl] at hw
      obtain ⟨h1, h2, _⟩ := hw
      refine ⟨by omega, fun t ht => ?_⟩
      obtain ⟨i, hi, rfl⟩ := List.mem_map.1 ht
      exact (hE i (by simpa using hi)).2 (weights_part7 (t := 27) (List.mem_map.2 ⟨i, hi, rfl⟩) h2)
set_option maxRecDepth 100000 in
theorem arg_conf {r : Reach} {b0 : Nat} {v : Value} {d : DataW H} {p : List MemPlace} (hv : Value.okWide Tryz.prog W r b0 24 v) (h : DataW.Trod enc Tryz.prog W 0 (fun _ => true) true 24 v d p) :
    ∃ (A : Option Addr) (L : List TeE) (n c : Nat) (st ti : Int), v = .agg #[.slice A n c, .int .i64 st, .int .i64 ti] ∧ L.length = n ∧ n ≤ c ∧ SrcT W (fun _ => True) A L ∧ n ≤ Rows.uptoBulk d ∧ ∀ t ∈ L, FitsT W t (Rows.uptoBulk d) := by
  obtain ⟨cs, rfl, hsz⟩ := okWide_struct Tryz.underlying24 hv
  obtain ⟨c0, c1, c2, rfl⟩ : ∃ c0 c1 c2, cs = #[c0, c1, c2] := by
    have hs := hsz.trans (show _ = 3 by kernel_rfl)
    obtain ⟨l⟩ := cs
    match l, hs with
    | [c0, c1, c2], _ => exact ⟨c0, c1, c2, rfl⟩
  obtain ⟨fu, hf⟩ := h
  obtain ⟨y0, y1, y2, m, hx1, h0, h1, h2⟩ := trod_structN3 Tryz.underlying24 hf
  have ei : Tryz.prog.cellsOf 3 = 1 := by kernel_rfl
  have el : Tryz.prog.cellsOf 22 = 1 := by kernel_rfl
  simp only [Value.cells, ei, el, List.drop_zero, List.drop_succ_cons, List.take_succ_cons, List.take_zero] at h0 h1 h2
  obtain ⟨A, L, n, c, hn, k0, hnc, hs, hb1, hb2⟩ := arg_tens h0
  obtain ⟨st, k1, _, _⟩ := DataW.trod_int Tryz.underlying3 h1
  obtain ⟨ti, k2, _, _⟩ := DataW.trod_int Tryz.underlying3 h2
  simp only [List.cons.injEq, and_true] at k0 k1 k2
  subst k0 k1 k2
  simp only at hx1
  have hu : Rows.uptoBulk y0.1 ≤ Rows.uptoBulk d := by rw [hx1]; simp only [Rows.uptoBulk, Rows.uptoBulkAll]; omega
  exact ⟨A, L, n, c, st, ti, rfl, hn, hnc, hs, by omega, fun t ht => (hb2 t ht).mono hu⟩
set_option maxRecDepth 100000 in
theorem arg_confW {r : Reach} {b0 : Nat} {v : Value} {d : DataW H} {p : List MemPlace} (hv : Value.okWide Tryz.prog W r b0 24 v) (h : DataW.Trod enc Tryz.prog W 0 (fun _ => true) true 24 v d p) :
    ∃ (A : Option Addr) (L : List TeE) (n c : Nat) (st ti : Int), v = .agg #[.slice A n c, .int .i64 st, .int .i64 ti] ∧ L.length = n ∧ n ≤ c ∧ SrcT W (fun _ => True) A L ∧ ((d.weights Tryz.prog 24).all (· ≤ reachBytes) = true → n * 96 ≤ 140737488351232 ∧ ∀ t ∈ L, t.Ok W) := by
  obtain ⟨cs, rfl, hsz⟩ := okWide_struct Tryz.underlying24 hv
  obtain ⟨c0, c1, c2, rfl⟩ : ∃ c0 c1 c2, cs = #[c0, c1, c2] := by
    have hs := hsz.trans (show _ = 3 by kernel_rfl)
    obtain ⟨l⟩ := cs
    match l, hs with
    | [c0, c1, c2], _ => exact ⟨c0, c1, c2, rfl⟩
  obtain ⟨fu, hf⟩ := h
  obtain ⟨y0, y1, y2, m, hx1, h0, h1, h2⟩ := trod_structN3 Tryz.underlying24 hf
  have ei : Tryz.prog.cellsOf 3 = 1 := by kernel_rfl
  have el : Tryz.prog.cellsOf 22 = 1 := by kernel_rfl
  simp only [Value.cells, ei, el, List.drop_zero, List.drop_succ_cons, List.take_succ_cons, List.take_zero] at h0 h1 h2
  obtain ⟨A, L, n, c, hn, k0, hnc, hs, hw0⟩ := arg_tensW h0
  obtain ⟨st, k1, _, _⟩ := DataW.trod_int Tryz.underlying3 h1
  obtain ⟨ti, k2, _, _⟩ := DataW.trod_int Tryz.underlying3 h2
  simp only [List.cons.injEq, and_true] at k0 k1 k2
  subst k0 k1 k2
  simp only at hx1
  refine ⟨A, L, n, c, st, ti, rfl, hn, hnc, hs, fun hw => ?_⟩
  rw [hx1] at hw
  simp only [DataW.weights, Tryz.underlying24, List.map_cons, List.map_nil, DataW.weightsEach, List.all_append, Bool.and_eq_true] at hw
  exact hw0 hw.1

set_option maxRecDepth 100000 in
/-- A field, opened. -/
theorem arg_fldW {r : Reach} {b0 : Nat} {v : Value} {d : DataW H} {p : List MemPlace} (hv : Value.okWide Tryz.prog W r b0 39 v) (h : DataW.Trod enc Tryz.prog W 0 (fun _ => true) true 39 v d p) :
    ∃ fa fb : ByteArray, v = .agg #[.string fa, .string fb] ∧ ((d.weights Tryz.prog 39).all (· ≤ reachBytes) = true → fa.size ≤ 140737488351232 ∧ fb.size ≤ 140737488351232) := by
  obtain ⟨cs, rfl, hsz⟩ := okWide_struct Tryz.underlying39 hv
  obtain ⟨c0, c1, rfl⟩ : ∃ c0 c1, cs = #[c0, c1] := by
    have hs := hsz.trans (show _ = 2 by kernel_rfl)
    obtain ⟨l⟩ := cs
    match l, hs with
    | [c0, c1], _ => exact ⟨c0, c1, rfl⟩
  obtain ⟨fu, hf⟩ := h
  obtain ⟨y0, y1, m, hx1, h0, h1⟩ := trod_structN2 Tryz.underlying39 hf
  have es : Tryz.prog.cellsOf 9 = 1 := by kernel_rfl
  simp only [Value.cells, es, List.drop_zero, List.drop_succ_cons, List.take_succ_cons, List.take_zero] at h0 h1
  obtain ⟨fa, k0, d0, _⟩ := DataW.trod_string Tryz.underlying9 h0
  obtain ⟨fb, k1, d1, _⟩ := DataW.trod_string Tryz.underlying9 h1
  simp only [List.cons.injEq, and_true] at k0 k1
  subst k0 k1
  have z0 : fa.data.toList.length = fa.size := by simp
  have z1 : fb.data.toList.length = fb.size := by simp
  simp only at hx1
  refine ⟨fa, fb, rfl, fun hw => ?_⟩
  rw [hx1, d0, d1] at hw
  simp only [DataW.weights, Tryz.underlying39, List.map_cons, List.map_nil, DataW.weightsEach, List.all_cons, List.all_nil, List.all_append, Bool.and_eq_true, Bool.and_true, decide_eq_true_eq, show reachBytes = 140737488351232 from rfl] at hw
  exact ⟨by omega, by omega⟩
end
end Go.Proofs.YtopanahgeeolbaaGreatDoor.Aut
