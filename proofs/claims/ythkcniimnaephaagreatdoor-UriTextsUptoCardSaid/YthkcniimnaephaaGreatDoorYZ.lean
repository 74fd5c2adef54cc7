/-
  What an argument that is a URL reads, how large it is, and how much it holds; the table that package uri's laws read.
  Conditions: those that each theorem names.
-/
import Derived.Test.YthkcniimnaephaaGreatDoorZL
import Derived.Test.YthkcniimnaephaaGreatDoorYJ
import Derived.SizedLaws
import Derived.Lib.SmallJoins
namespace Go.Proofs.YthkcniimnaephaaGreatDoor.Uri
open Go.ChangeShapes Go.WideShapes Go.ChangeAt Go.RowKit Go.Deep

theorem i64_wf {n : Int} (h : (Lit.int .i64 n).wf = true) : I64 n := (Lit.wf_int_iff .i64 n).1 h
set_option maxRecDepth 100000 in
/-- A URL, opened. -/
theorem arg_url {H : Type} {enc : TypeId × Value → H} {W : World} {r : Reach} {b0 : Nat} {v : Value} {d : DataW H} {p : List MemPlace} (hv : Value.okWide Tryz.prog W r b0 23 v) (h : DataW.Trod enc Tryz.prog W 0 (fun _ => true) true 23 v d p) :
    ∃ (ho q : ByteArray) (k : Int), v = .agg #[.string ho, .int .i64 k, .string q] ∧ I64 k ∧ ho.size + q.size ≤ Rows.uptoBulk d ∧
      ((d.weights Tryz.prog 23).all (· ≤ reachBytes) = true → ho.size ≤ 140737488351232 ∧ q.size ≤ 140737488351232) := by
  obtain ⟨cs, rfl, hsz⟩ := okWide_struct Tryz.underlying23 hv
  obtain ⟨c0, c1, c2, rfl⟩ := Go.Joins.array3 (hsz.trans (by kernel_rfl))
  obtain ⟨fu, hf⟩ := h
  obtain ⟨y0, y1, y2, m, hx, _, h0, h1, h2⟩ := trod_struct3 Tryz.underlying23 hf
  have ei : Tryz.prog.cellsOf 3 = 1 := by kernel_rfl
  have es : Tryz.prog.cellsOf 9 = 1 := by kernel_rfl
  simp only [Value.cells, ei, es, List.drop_zero, List.drop_succ_cons, List.take_succ_cons, List.take_zero] at h0 h1 h2
  obtain ⟨ho, k0, d0, _⟩ := DataW.trod_string Tryz.underlying9 h0
  obtain ⟨k, k1, d1, w1⟩ := DataW.trod_int Tryz.underlying3 h1
  obtain ⟨q, k2, d2, _⟩ := DataW.trod_string Tryz.underlying9 h2
  simp only [List.cons.injEq, and_true] at k0 k1 k2
  subst k0 k1 k2
  have z0 : ho.data.toList.length = ho.size := by simp
  have z2 : q.data.toList.length = q.size := by simp
  simp only [Prod.mk.injEq] at hx
  have hx1 : d = .agg [y0.1, y1.1, y2.1] := hx.1
  have hu : Rows.uptoBulk y0.1 + (Rows.uptoBulk y1.1 + (Rows.uptoBulk y2.1 + 0)) ≤ Rows.uptoBulk d := by rw [hx1]; simp only [Rows.uptoBulk, Rows.uptoBulkAll]; omega
  have u0 : ho.size ≤ Rows.uptoBulk y0.1 := by rw [d0]; simp only [Rows.uptoBulk]; omega
  have u2 : q.size ≤ Rows.uptoBulk y2.1 := by rw [d2]; simp only [Rows.uptoBulk]; omega
  refine ⟨ho, q, k, rfl, i64_wf w1, by omega, fun hw => ?_⟩
  rw [hx1] at hw
  simp only [DataW.weights, Tryz.underlying23, List.map_cons, List.map_nil, DataW.weightsEach, List.all_append, Bool.and_eq_true] at hw
  obtain ⟨v0, v1, v2, _⟩ := hw
  rw [d0] at v0
  simp only [DataW.weights, List.all_cons, List.all_nil, Bool.and_true, decide_eq_true_eq, show reachBytes = 140737488351232 from rfl] at v0
  rw [d2] at v2
  simp only [DataW.weights, List.all_cons, List.all_nil, Bool.and_true, decide_eq_true_eq, show reachBytes = 140737488351232 from rfl] at v2
  exact ⟨by omega, by omega⟩
theorem pow_uri {W : World} {l : List (String × DataW Unit)} (h : laidMetH Tryz.prog l W) (h1 : l.filter (fun x => x.1 == "internal/strconv.uint64pow10") = [("internal/strconv.uint64pow10", Lib.tabData .u64 Lib.pow10Tab)]) : PowTab W :=
  tab_of h _ .u64 Lib.pow10Tab h1 (g := 3) (t := 100) (e := 55) (n := 20) (by kernel_rfl) (by kernel_rfl) (by kernel_rfl) (by kernel_rfl) (by kernel_rfl) (by kernel_rfl)
theorem weights_each {H : Type} {t : TypeId} {d : DataW H} {ts : List TypeId} {ds : List (DataW H)} (h : (DataW.weightsEach Tryz.prog ts ds).all (· ≤ reachBytes) = true) (j : Nat) (ht : ts[j]? = some t) (hd : ds[j]? = some d) : (d.weights Tryz.prog t).all (· ≤ reachBytes) = true := by
  rw [List.all_eq_true] at h ⊢
  exact fun n hn => h n (DataW.weights_mem_each ht hd n hn)
end Go.Proofs.YthkcniimnaephaaGreatDoor.Uri
