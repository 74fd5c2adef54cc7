/-
  The tables and the variable that package date's laws read hold what is listed.
  Conditions: those that each theorem names.
-/
import Derived.Test.YtdcbcjljmjnopaaGreatDoorDF
import Derived.Test.YtdcbcjljmjnopaaGreatDoorZL
import Derived.OpenShut
namespace Go.Proofs.YtdcbcjljmjnopaaGreatDoor
open Go.RowKit Go.ChangeShapes

section
variable {H : Type} {enc : TypeId × Value → H} {P : Program} {w : World} {base : Nat} {sp : Nat → Bool} {held : Bool}
theorem elem_of {n : Nat} {t e : TypeId} {fuel : Nat} {cs : List Value} {p : List MemPlace} {d : Nat → DataW H} (hu : P.underlying t = some (.array n e))
    (h : DataW.trod enc P w base sp held fuel t cs = some (.agg ((List.range n).map d), p)) (i : Nat) (hi : i < n) : ∃ m q, DataW.trod enc P w base sp held m e ((cs.drop (i * P.cellsOf e)).take (P.cellsOf e)) = some (d i, q) := by
  obtain ⟨xs, m, rfl, hx, _, hxl, hall⟩ := DataW.trod_array hu h
  have h1 : xs.map (·.1) = (List.range n).map d := by
    have := congrArg Prod.fst hx
    simpa using this.symm
  have h2 := hall i hi
  have h3 : (xs.map (·.1))[i]? = some (d i) := by rw [h1]; simp [hi]
  rw [List.getElem?_map] at h3
  obtain ⟨y, hy, hyd⟩ := Option.map_eq_some_iff.1 h3
  rw [hy] at h2
  exact ⟨m, y.2, by rw [h2, ← hyd]⟩
theorem str_of {t : TypeId} {fuel : Nat} {cs : List Value} {l : List UInt8} {p : List MemPlace} (ht : P.underlying t = some .string) (h : DataW.trod enc P w base sp held fuel t cs = some (.lit (.string l), p)) : cs = [.string ⟨l.toArray⟩] := by
  obtain ⟨s, rfl, hx, _⟩ := DataW.trod_string ht h
  have h1 := congrArg Prod.fst hx
  simp only [DataW.lit.injEq, Lit.string.injEq] at h1
  rw [h1]
theorem int_of {t : TypeId} {k : IntKind} {n : Int} {fuel : Nat} {cs : List Value} {p : List MemPlace} (ht : P.underlying t = some (.int k)) (h : DataW.trod enc P w base sp held fuel t cs = some (.lit (.int k n), p)) : cs = [.int k n] := by
  obtain ⟨m, rfl, hx, _⟩ := DataW.trod_int ht h
  have h1 := congrArg Prod.fst hx
  simp only [DataW.lit.injEq, Lit.int.injEq, true_and] at h1
  rw [h1]
end
theorem take_oneZ {cs : List Value} {i : Nat} {v : Value} (h : (cs.drop i).take 1 = [v]) : cs[i]? = some v := by
  have := congrArg (·[0]?) h
  simpa [List.getElem?_take, List.getElem?_drop] using this
/-- A variable that is listed reads as listed. -/
theorem var_of {P : Program} {W : World} {l : List (String × DataW Unit)} (h : laidMetH P l W) (name : String) {d : DataW Unit} {g : Nat} {t : TypeId} (hf : l.filter (fun x => x.1 == name) = [(name, d)])
    (hn : [(name, d)].filter (fun x => x.2.handleName?.isNone) = [(name, d)]) (hg : P.globalNamed name = some g) (hty : (P.globals[g]?).map (·.type) = some t) :
    ∃ cs fuel p, W.var? P name = some cs ∧ DataW.trod (fun _ => ()) P W 0 (fun _ => true) false fuel t cs.toList = some (d, p) ∧ ∀ i, W.cell? ⟨g, i, none⟩ = cs.toList[i]? := by
  have h1 := h.filter (fun x => x.1 == name)
  rw [hf] at h1
  have h2 := (laidMetH_iff.1 h1).1
  rw [hn] at h2
  obtain ⟨ps, ⟨g', t', cs, fuel, p, q, hg', ht', hvar, hd, _, _⟩, _⟩ := h2
  obtain rfl := Option.some.inj (hg.symm.trans hg')
  obtain rfl := Option.some.inj (hty.symm.trans ht')
  exact ⟨cs, fuel, p, hvar, hd, fun i => by rw [World.var?_cell hg hvar i]; simp⟩

def dayD (i : Nat) : DataW Unit := .lit (.string (wdN i))
def monD (i : Nat) : DataW Unit := .agg [.lit (.string (mnN i)), .lit (.int .u64 (mdays i : Int))]
theorem day_tab {W : World} {l : List (String × DataW Unit)} (h : laidMetH Tryz.prog l W) (hf : l.filter (fun x => x.1 == "tollhouse/date.weekdays") = [("tollhouse/date.weekdays", .agg ((List.range 7).map dayD))]) : DayTab W := by
  obtain ⟨cs, fuel, p, _, hd, hc⟩ := var_of h _ (g := 0) (t := 98) hf rfl (by kernel_rfl) (by kernel_rfl)
  intro i hi
  obtain ⟨m, q, he⟩ := elem_of Tryz.underlying98 hd i hi
  rw [show Tryz.prog.cellsOf 9 = 1 by kernel_rfl, Nat.mul_one] at he
  rw [hc, take_oneZ (str_of Tryz.underlying9 he)]
theorem mon_tab {W : World} {l : List (String × DataW Unit)} (h : laidMetH Tryz.prog l W) (hf : l.filter (fun x => x.1 == "tollhouse/date.months") = [("tollhouse/date.months", .agg ((List.range 12).map monD))]) : MonTab W := by
  obtain ⟨cs, fuel, p, _, hd, hc⟩ := var_of h _ (g := 1) (t := 114) hf rfl (by kernel_rfl) (by kernel_rfl)
  intro i hi
  obtain ⟨m, q, he⟩ := elem_of Tryz.underlying114 hd i hi
  rw [show Tryz.prog.cellsOf 113 = 2 by kernel_rfl] at he
  obtain ⟨y0, y1, k, hx, hl, h0, h1⟩ := trod_struct2 Tryz.underlying113 he
  have hx1 := congrArg Prod.fst hx
  simp only [monD, DataW.agg.injEq, List.cons.injEq, and_true] at hx1
  obtain ⟨z0, z1⟩ := y0
  obtain ⟨z2, z3⟩ := y1
  simp only at hx1
  obtain ⟨e1, e2⟩ := hx1
  subst e1
  subst e2
  have s0 := str_of Tryz.underlying9 h0
  have s1 := int_of Tryz.underlying22 h1
  simp only [show Tryz.prog.cellsOf 9 = 1 by kernel_rfl] at s0
  simp only [show Tryz.prog.cellsOf 22 = 1 by kernel_rfl] at s1
  rw [hc, hc]
  constructor
  · have := congrArg (·[0]?) s0
    simpa [List.getElem?_take, List.getElem?_drop] using this
  · have := congrArg (·[0]?) s1
    simpa [List.getElem?_take, List.getElem?_drop] using this
set_option maxRecDepth 100000 in
theorem syn_var {W : World} {l : List (String × DataW Unit)} (h : laidMetH Tryz.prog l W) {d : DataW Unit} (hf : l.filter (fun x => x.1 == "strconv.ErrSyntax") = [("strconv.ErrSyntax", .iface "*errors.errorString" d)])
    (hn : [("strconv.ErrSyntax", DataW.iface "*errors.errorString" d)].filter (fun x => x.2.handleName?.isNone) = [("strconv.ErrSyntax", .iface "*errors.errorString" d)]) : SynVar W := by
  obtain ⟨cs, fuel, p, hv, hd, hc⟩ := var_of h _ (g := 3) (t := 108) hf hn (by kernel_rfl) (by kernel_rfl)
  obtain ⟨f', u, v, hcs, _, _⟩ := iface_of_trod Tryz.underlying108 hd
  refine ⟨u, v, ?_⟩
  rw [hv]
  congr 1
  cases cs
  simpa using hcs
set_option maxRecDepth 100000 in
theorem tabs_date {W : World} {l : List (String × DataW Unit)} (h : laidMetH Tryz.prog l W) (h1 : l.filter (fun x => x.1 == "internal/strconv.uint64pow10") = [("internal/strconv.uint64pow10", Lib.tabData .u64 Lib.pow10Tab)])
    (h2 : l.filter (fun x => x.1 == "tollhouse/date.months") = [("tollhouse/date.months", .agg ((List.range 12).map monD))])
    (h3 : l.filter (fun x => x.1 == "tollhouse/date.weekdays") = [("tollhouse/date.weekdays", .agg ((List.range 7).map dayD))])
    {d : DataW Unit} (h4 : l.filter (fun x => x.1 == "strconv.ErrSyntax") = [("strconv.ErrSyntax", .iface "*errors.errorString" d)])
    (h5 : [("strconv.ErrSyntax", DataW.iface "*errors.errorString" d)].filter (fun x => x.2.handleName?.isNone) = [("strconv.ErrSyntax", .iface "*errors.errorString" d)]) : DTabs W :=
  ⟨tab_of h _ .u64 Lib.pow10Tab h1 (g := 5) (t := 168) (e := 22) (n := 20) (by kernel_rfl) (by kernel_rfl) (by kernel_rfl) (by kernel_rfl) (by kernel_rfl) (by kernel_rfl),
   mon_tab h h2, day_tab h h3, syn_var h h4 h5⟩
end Go.Proofs.YtdcbcjljmjnopaaGreatDoor
