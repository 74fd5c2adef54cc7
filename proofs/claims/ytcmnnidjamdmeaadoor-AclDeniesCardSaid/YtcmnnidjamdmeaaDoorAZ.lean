/-
  What arguments that are rules or slices of rules read, and how much they hold.
  Conditions: those that each theorem names.
-/
import Derived.Test.YtcmnnidjamdmeaaDoorZL
import Derived.Test.YtcmnnidjamdmeaaDoorAG
import Derived.Test.YtcmnnidjamdmeaaDoorNE
import Derived.SizedLaws
import Derived.SliceStrings
import Derived.Lib.SmallJoins
import Derived.Deep.Slices
import Derived.Deep.Strs
namespace Go.Proofs.YtcmnnidjamdmeaaDoor.Acl
open Go.ChangeShapes Go.WideShapes Go.ChangeAt Go.RowKit Go.Deep

section
variable {H : Type} {enc : TypeId × Value → H} {W : World} {fuel : Nat}

theorem bulk_strs : ∀ ss : List ByteArray, (∀ s ∈ ss, (bl s).length ≤ Rows.uptoBulkAll (H := H) (ChangeShapes.strs ss)) ∧ ss.length ≤ Rows.uptoBulkAll (H := H) (ChangeShapes.strs ss)
  | [] => ⟨fun _ h => (by cases h), Nat.le_refl _⟩
  | a :: l => by
    obtain ⟨h1, h2⟩ := bulk_strs l
    have e : Rows.uptoBulkAll (H := H) (ChangeShapes.strs (a :: l)) = ((bl a).length + 1) + Rows.uptoBulkAll (H := H) (ChangeShapes.strs l) := rfl
    refine ⟨fun s hs => ?_, by rw [e, List.length_cons]; omega⟩
    rw [e]
    rcases List.mem_cons.1 hs with rfl | hs
    · omega
    · have := h1 s hs; omega
theorem arg_strsB {cs : List Value} {x : DataW H × List MemPlace} (h : DataW.trod enc Tryd.prog W 0 (fun _ => true) true fuel 23 cs = some x) :
    ∃ (A : Option Addr) (ls : List (List UInt8)) (n c : Nat), ls.length = n ∧ cs = [.slice A n c] ∧ SrcS W (fun _ => True) A ls ∧ n ≤ Rows.uptoBulk x.1 ∧ ∀ l ∈ ls, l.length ≤ Rows.uptoBulk x.1 := by
  rcases open_strings Tryd.underlying23 Tryd.underlying9 (by kernel_rfl) h with ⟨hcs, hx⟩ | ⟨a, len, cap, ss, hcs, _, hl, hm, hz, hx, hcell, hwz⟩
  · exact ⟨none, [], 0, 0, rfl, hcs, fun h => absurd h (by simp), Nat.zero_le _, fun _ h => by cases h⟩
  · simp only [if_true] at hz
    subst hx
    have hlen : ((ss.take len).map bl).length = len := by simp; omega
    obtain ⟨k1, k2⟩ := bulk_strs (H := H) (ss.take len)
    refine ⟨some a, (ss.take len).map bl, len, cap, hlen, hcs, fun h0 => ?_, ?_, fun l hl' => ?_⟩
    · have hb := block_lt_of_cell (hcell 0 (by omega))
      have hab : a.block < W.heap.size := by
        have e : (a.add 0).block = a.block := by unfold Addr.add; split <;> rfl
        rwa [e] at hb
      refine ⟨a, rfl, trivial, hab, fun i l hl' => ?_⟩
      rw [List.getElem?_map, Option.map_eq_some_iff] at hl'
      obtain ⟨s, hs, rfl⟩ := hl'
      rw [List.getElem?_take] at hs
      split at hs
      · have hi : i < ss.length := (List.getElem?_eq_some_iff.1 hs).1
        rw [hcell i hi, List.getD_eq_getElem?_getD, hs]
        unfold strV
        rw [mk_bl]
        rfl
      · cases hs
    · show _ ≤ Rows.uptoBulkAll _ + Rows.uptoBulkAll _ + 1
      rw [List.length_take] at k2
      have : len ≤ Rows.uptoBulkAll (H := H) (ChangeShapes.strs (ss.take len)) := by omega
      omega
    · obtain ⟨s, hs, rfl⟩ := List.mem_map.1 hl'
      have := k1 s hs
      show _ ≤ Rows.uptoBulkAll _ + Rows.uptoBulkAll _ + 1
      omega
theorem trod_struct5 {P : Program} {w : World} {base : Nat} {spare : Nat → Bool} {held : Bool} {t : TypeId} {f0 f1 f2 f3 f4 : Field} {fuel : Nat} {cs : List Value} {x : DataW H × List MemPlace} (ht : P.underlying t = some (.struct #[f0, f1, f2, f3, f4])) (h : DataW.trod enc P w base spare held fuel t cs = some x) :
    ∃ y0 y1 y2 y3 y4 n, x = (.agg [y0.1, y1.1, y2.1, y3.1, y4.1], y0.2 ++ (y1.2 ++ (y2.2 ++ (y3.2 ++ y4.2)))) ∧ cs.length = P.cellsOf t ∧ DataW.trod enc P w base spare held n f0.type ((cs.drop f0.offset).take (P.cellsOf f0.type)) = some y0 ∧
      DataW.trod enc P w base spare held n f1.type ((cs.drop f1.offset).take (P.cellsOf f1.type)) = some y1 ∧ DataW.trod enc P w base spare held n f2.type ((cs.drop f2.offset).take (P.cellsOf f2.type)) = some y2 ∧
      DataW.trod enc P w base spare held n f3.type ((cs.drop f3.offset).take (P.cellsOf f3.type)) = some y3 ∧ DataW.trod enc P w base spare held n f4.type ((cs.drop f4.offset).take (P.cellsOf f4.type)) = some y4 := by
  obtain ⟨xs, n, _, rfl, hl, hlen, hf⟩ := DataW.trod_struct ht h
  match xs, hlen with
  | [y0, y1, y2, y3, y4], _ => exact ⟨y0, y1, y2, y3, y4, n, by simp, hl, by simpa using hf 0 f0 rfl, by simpa using hf 1 f1 rfl, by simpa using hf 2 f2 rfl, by simpa using hf 3 f3 rfl, by simpa using hf 4 f4 rfl⟩
/-- A rule is not large. -/
def Fits (W : World) (r : RuE) (b : Nat) : Prop := r.ms.length = r.n ∧ SrcS W (fun _ => True) r.A r.ms ∧ r.h.size ≤ b ∧ r.n ≤ b ∧ ∀ x ∈ r.ms, x.length ≤ b
theorem Fits.ok {r : RuE} {b : Nat} (h : Fits W r b) (hb : b ≤ 1048576) : r.Ok W ∧ r.Small :=
  ⟨⟨h.1, by have := h.2.2.2.1; omega, h.2.1⟩, ⟨by have := h.2.2.1; omega, by have := h.2.2.2.1; omega, fun x hx => by have := h.2.2.2.2 x hx; omega⟩⟩
set_option maxRecDepth 100000 in
theorem arg_ru {cs : List Value} {x : DataW H × List MemPlace} (h : DataW.trod enc Tryd.prog W 0 (fun _ => true) true fuel 25 cs = some x) (c0 c1 c2 c3 c4 : Value) (hc : cs = [c0, c1, c2, c3, c4]) :
    ∃ r : RuE, [c0, c1, c2, c3, c4] = r.cells ∧ Fits W r (Rows.uptoBulk x.1) := by
  subst hc
  obtain ⟨y0, y1, y2, y3, y4, m, hx, _, h0, h1, h2, h3, h4⟩ := trod_struct5 Tryd.underlying25 h
  have eb : Tryd.prog.cellsOf 4 = 1 := by kernel_rfl
  have ei : Tryd.prog.cellsOf 3 = 1 := by kernel_rfl
  have es : Tryd.prog.cellsOf 9 = 1 := by kernel_rfl
  have el : Tryd.prog.cellsOf 23 = 1 := by kernel_rfl
  simp only [eb, ei, es, el, List.drop_zero, List.drop_succ_cons, List.take_succ_cons, List.take_zero] at h0 h1 h2 h3 h4
  obtain ⟨al, k0, _d0⟩ := DataW.trod_bool Tryd.underlying4 h0
  obtain ⟨ho, k1, d1, _⟩ := DataW.trod_string Tryd.underlying9 h1
  obtain ⟨lo, k2, d2, _⟩ := DataW.trod_int Tryd.underlying3 h2
  obtain ⟨hi, k3, d3, _⟩ := DataW.trod_int Tryd.underlying3 h3
  obtain ⟨A, ls, n, c, hn, k4, hs, hb1, hb2⟩ := arg_strsB h4
  simp only [List.cons.injEq, and_true] at k0 k1 k2 k3 k4
  subst k0 k1 k2 k3 k4
  have z1 : ho.data.toList.length = ho.size := by simp
  have hx1 : x.1 = .agg [y0.1, y1.1, y2.1, y3.1, y4.1] := by rw [hx]
  have hu : Rows.uptoBulk y0.1 + (Rows.uptoBulk y1.1 + (Rows.uptoBulk y2.1 + (Rows.uptoBulk y3.1 + (Rows.uptoBulk y4.1 + 0)))) ≤ Rows.uptoBulk x.1 := by rw [hx1]; simp only [Rows.uptoBulk, Rows.uptoBulkAll]; omega
  have u1 : ho.size ≤ Rows.uptoBulk y1.1 := by rw [d1]; simp only [Rows.uptoBulk]; omega
  exact ⟨⟨al, ho, lo, hi, A, n, c, ls⟩, rfl, hn, hs, by show ho.size ≤ _; omega, by show n ≤ _; omega, fun l hl => by have := hb2 l hl; omega⟩
theorem ru_one {cs : List Value} {x : DataW H × List MemPlace} (h : DataW.trod enc Tryd.prog W 0 (fun _ => true) true fuel 25 cs = some x) : 1 ≤ Rows.uptoBulk x.1 := by
  obtain ⟨y0, y1, y2, y3, y4, m, hx, _⟩ := trod_struct5 Tryd.underlying25 h
  rw [hx]
  simp only [Rows.uptoBulk, Rows.uptoBulkAll]
  omega
/-- A rule, opened. -/
theorem arg_rule {r : Reach} {b0 : Nat} {v : Value} {d : DataW H} {p : List MemPlace} (hv : Value.okWide Tryd.prog W r b0 25 v) (h : DataW.Trod enc Tryd.prog W 0 (fun _ => true) true 25 v d p) :
    ∃ r : RuE, v = .agg #[.bool r.al, .string r.h, .int .i64 r.lo, .int .i64 r.hi, .slice r.A r.n r.c] ∧ Fits W r (Rows.uptoBulk d) := by
  obtain ⟨cs, rfl, hsz⟩ := okWide_struct Tryd.underlying25 hv
  obtain ⟨c0, c1, c2, c3, c4, rfl⟩ : ∃ c0 c1 c2 c3 c4, cs = #[c0, c1, c2, c3, c4] := by
    have hs := hsz.trans (show _ = 5 by kernel_rfl)
    obtain ⟨l⟩ := cs
    match l, hs with
    | [c0, c1, c2, c3, c4], _ => exact ⟨c0, c1, c2, c3, c4, rfl⟩
  obtain ⟨fu, hf⟩ := h
  obtain ⟨r, hc, hr⟩ := arg_ru hf c0 c1 c2 c3 c4 rfl
  simp only [RuE.cells, List.cons.injEq, and_true] at hc
  obtain ⟨rfl, rfl, rfl, rfl, rfl⟩ := hc
  exact ⟨r, rfl, hr⟩
theorem bulk_one (D : Nat → DataW H) : ∀ (l : List Nat) (i : Nat), i ∈ l → Rows.uptoBulk (D i) ≤ Rows.uptoBulkAll (l.map D)
  | [], i, h => by cases h
  | j :: r, i, h => by
    show _ ≤ Rows.uptoBulk (D j) + Rows.uptoBulkAll (r.map D)
    rcases List.mem_cons.1 h with rfl | h
    · omega
    · have := bulk_one D r i h; omega
theorem bulk_len (D : Nat → DataW H) : ∀ l : List Nat, (∀ i ∈ l, 1 ≤ Rows.uptoBulk (D i)) → l.length ≤ Rows.uptoBulkAll (l.map D)
  | [], _ => Nat.le_refl _
  | j :: r, hD => by
    have h1 := bulk_len D r (fun i hi => hD i (List.mem_cons_of_mem _ hi))
    have h2 := hD j (List.mem_cons_self ..)
    show r.length + 1 ≤ Rows.uptoBulk (D j) + Rows.uptoBulkAll (r.map D)
    omega
theorem arg_rules {cs : List Value} {x : DataW H × List MemPlace} (h : DataW.trod enc Tryd.prog W 0 (fun _ => true) true fuel 22 cs = some x) :
    ∃ (A : Option Addr) (L : List RuE) (n c : Nat), L.length = n ∧ cs = [.slice A n c] ∧ n ≤ c ∧ SrcU W (fun _ => True) A L ∧ n ≤ Rows.uptoBulk x.1 ∧ ∀ r ∈ L, Fits W r (Rows.uptoBulk x.1) := by
  have e5 : Tryd.prog.cellsOf 25 = 5 := by kernel_rfl
  rcases open_slice Tryd.underlying22 h with ⟨hcs, hx⟩ | ⟨a, len, cap, m, fu, D, Pl, hcs, _, hl, _, hm, hx, hat⟩
  · exact ⟨none, [], 0, 0, rfl, hcs, Nat.le_refl _, fun h => absurd h (by simp), Nat.zero_le _, fun _ h => (by cases h)⟩
  · rw [if_pos rfl] at hm
    rw [e5] at hat
    obtain ⟨E, hE⟩ := choose_lt (α := RuE) (n := len) (p := fun i r => (∀ j v, r.cells[j]? = some v → W.cell? (a.add (i * 5 + j)) = some v) ∧ Fits W r (Rows.uptoBulk (D i)) ∧ 1 ≤ Rows.uptoBulk (D i)) (fun i hi => by
      obtain ⟨cs', h1, h2⟩ := hat i (by omega)
      obtain ⟨_, hlen, hget⟩ := World.cells?_some h1
      match cs', hlen with
      | [c0, c1, c2, c3, c4], _ =>
        obtain ⟨r, hc, hr⟩ := arg_ru h2 c0 c1 c2 c3 c4 rfl
        refine ⟨r, fun j v hv => ?_, hr, ru_one h2⟩
        have hj : j < 5 := (List.getElem?_eq_some_iff.1 hv).1
        have hg := hget j hj
        rw [add_add_at, hc] at hg
        rw [hg]
        exact hv)
    have hL : ((List.range len).map E).length = len := by simp
    have hbl : len ≤ Rows.uptoBulkAll ((List.range len).map D) := by
      have := bulk_len D (List.range len) (fun i hi => (hE i (by simpa using hi)).2.2)
      simpa using this
    have hxb : Rows.uptoBulkAll ((List.range len).map D) ≤ Rows.uptoBulk x.1 := by
      rw [hx]
      show _ ≤ Rows.uptoBulkAll _ + Rows.uptoBulkAll _ + 1
      omega
    refine ⟨some a, (List.range len).map E, len, cap, hL, hcs, hl, fun h0 => ?_, by omega, fun r hr => ?_⟩
    · rw [hL] at h0
      have hc0 := (hE 0 h0).1 0 _ rfl
      have hab : a.block < W.heap.size := by
        have e : (a.add (0 * 5 + 0)).block = a.block := by unfold Addr.add; split <;> rfl
        have := block_lt_of_cell hc0
        rwa [e] at this
      refine ⟨a, rfl, trivial, hab, fun i r hr => ?_⟩
      rw [List.getElem?_map, Option.map_eq_some_iff] at hr
      obtain ⟨j, hj, rfl⟩ := hr
      obtain ⟨hi, rfl⟩ := List.getElem?_eq_some_iff.1 hj
      rw [List.getElem_range]
      exact (hE i (by simpa using hi)).1
    · obtain ⟨i, hi, rfl⟩ := List.mem_map.1 hr
      have h1 := bulk_one D _ i hi
      obtain ⟨k1, k2, k3, k4, k5⟩ := (hE i (by simpa using hi)).2.1
      exact ⟨k1, k2, by omega, by omega, fun x hx => by have := k5 x hx; omega⟩
end
theorem pow_acl {W : World} {l : List (String × DataW Unit)} (h : laidMetH Tryd.prog l W) (h1 : l.filter (fun x => x.1 == "internal/strconv.uint64pow10") = [("internal/strconv.uint64pow10", Lib.tabData .u64 Lib.pow10Tab)]) : PowTab W :=
  tab_of h _ .u64 Lib.pow10Tab h1 (g := 3) (t := 86) (e := 52) (n := 20) (by kernel_rfl) (by kernel_rfl) (by kernel_rfl) (by kernel_rfl) (by kernel_rfl) (by kernel_rfl)
end Go.Proofs.YtcmnnidjamdmeaaDoor.Acl
