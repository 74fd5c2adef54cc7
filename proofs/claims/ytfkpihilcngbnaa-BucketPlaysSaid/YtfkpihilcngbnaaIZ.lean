/-
  What arguments read that are slices of numbers, or waits; how much they hold.
  Conditions: those that each theorem names.
-/
import Derived.Test.YtfkpihilcngbnaaZL
import Derived.Test.YtfkpihilcngbnaaIM
import Derived.Lib.SmallJoins
namespace Go.Proofs.Ytfkpihilcngbnaa.Buc
open Go.ChangeShapes Go.WideShapes Go.ChangeAt Go.RowKit Go.Deep

theorem bulk_nums {H : Type} (k : IntKind) (zs : List Int) : Rows.uptoBulkAll (H := H) (lits k zs) = zs.length := by
  induction zs with
  | nil => rfl
  | cons z l ih =>
    show Rows.uptoBulk _ + Rows.uptoBulkAll (lits k l) = _
    rw [ih]
    simp only [Rows.uptoBulk, List.length_cons]
    omega

theorem getD_nat (zs : List Int) (len : Nat) (hl : len ≤ zs.length) (h : ∀ z ∈ zs, 0 ≤ z) (i : Nat) (hi : i < len) : ((((zs.take len).map Int.toNat).getD i 0 : Nat) : Int) = zs.getD i 0 := by
  have hi2 : i < zs.length := by omega
  have hm := h _ (List.getElem_mem hi2)
  simp only [List.getD_eq_getElem?_getD, List.getElem?_map, List.getElem?_take, if_pos hi, List.getElem?_eq_getElem hi2, Option.map_some, Option.getD_some]
  omega

theorem getD_most (l : List Nat) (m : Nat) (h : ∀ z ∈ l, z ≤ m) (i : Nat) : l.getD i 0 ≤ m := by
  rw [List.getD_eq_getElem?_getD]
  rcases Nat.lt_or_ge i l.length with hi | hi
  · rw [List.getElem?_eq_getElem hi, Option.getD_some]
    exact h _ (List.getElem_mem hi)
  · rw [List.getElem?_eq_none hi]
    exact Nat.zero_le _

theorem five_cells {α : Type} {cs : Array α} (h : cs.size = 5) : ∃ c0 c1 c2 c3 c4, cs = #[c0, c1, c2, c3, c4] := by
  obtain ⟨l⟩ := cs
  match l, h with
  | [c0, c1, c2, c3, c4], _ => exact ⟨c0, c1, c2, c3, c4, rfl⟩
theorem five_parts {α : Type} {l : List α} (h : l.length = 5) : ∃ c0 c1 c2 c3 c4, l = [c0, c1, c2, c3, c4] := by
  match l, h with
  | [c0, c1, c2, c3, c4], _ => exact ⟨c0, c1, c2, c3, c4, rfl⟩

section
variable {H : Type} {enc : TypeId × Value → H} {W : World} {fuel : Nat}

theorem arg_u32s {cs : List Value} {x : DataW H × List MemPlace} (h : DataW.trod enc Try.prog W 0 (fun _ => true) true fuel 41 cs = some x) :
    ∃ (A : Option Addr) (ds : List Nat) (c : Nat), cs = [.slice A ds.length c] ∧ ds.length ≤ 9223372036854775807 ∧ (∀ k, ds.getD k 0 ≤ 4294967295) ∧ Src32 W A ds ∧ ds.length + 1 ≤ Rows.uptoBulk x.1 := by
  rcases open_ints Try.underlying41 Try.underlying40 (by kernel_rfl) h with ⟨hcs, hx⟩ | ⟨a, len, cap, zs, hcs, _, hl, hm, hz, hx, hcell, hwz⟩
  · subst hx
    exact ⟨none, [], 0, hcs, by simp, fun k => by simp, fun k hk => absurd hk (by simp), by simp [Rows.uptoBulk]⟩
  · simp only [if_true] at hz
    subst hx
    have hlen : ((zs.take len).map Int.toNat).length = len := by simp; omega
    have hm' : cap ≤ 9223372036854775807 := hm
    have hw : ∀ z ∈ zs, 0 ≤ z ∧ z ≤ 4294967295 := fun z hz => wf_u32 (hwz z hz)
    refine ⟨some a, (zs.take len).map Int.toNat, cap, by rw [hlen]; exact hcs, by omega, getD_most _ _ fun z hz => ?_, fun k hk => ?_, ?_⟩
    · obtain ⟨y, hy, rfl⟩ := List.mem_map.1 hz
      have := hw y (List.mem_of_mem_take hy)
      omega
    · rw [hlen] at hk
      have hc := hcell k (by omega)
      have hb := block_lt_of_cell hc
      refine ⟨a, rfl, ?_, ?_⟩
      · have e : (a.add k).block = a.block := by unfold Addr.add; split <;> rfl
        rwa [e] at hb
      · rw [hc, getD_nat zs len (by omega) (fun z hz => (hw z hz).1) k hk]
    · rw [hlen]
      simp only [Rows.uptoBulk, bulk_nums, List.length_take, List.length_drop]
      omega

theorem arg_u64s {cs : List Value} {x : DataW H × List MemPlace} (h : DataW.trod enc Try.prog W 0 (fun _ => true) true fuel 22 cs = some x) :
    ∃ (A : Option Addr) (ds : List Nat) (c : Nat), cs = [.slice A ds.length c] ∧ ds.length ≤ 9223372036854775807 ∧ Src64 W A ds := by
  rcases open_ints Try.underlying22 Try.underlying24 (by kernel_rfl) h with ⟨hcs, hx⟩ | ⟨a, len, cap, zs, hcs, _, hl, hm, hz, hx, hcell, hwz⟩
  · subst hx
    exact ⟨none, [], 0, hcs, by simp, fun k hk => absurd hk (by simp)⟩
  · simp only [if_true] at hz
    subst hx
    have hlen : ((zs.take len).map Int.toNat).length = len := by simp; omega
    have hm' : cap ≤ 9223372036854775807 := hm
    refine ⟨some a, (zs.take len).map Int.toNat, cap, by rw [hlen]; exact hcs, by omega, fun k hk => ?_⟩
    rw [hlen] at hk
    have hc := hcell k (by omega)
    have hb := block_lt_of_cell hc
    refine ⟨a, rfl, ?_, ?_⟩
    · have e : (a.add k).block = a.block := by unfold Addr.add; split <;> rfl
      rwa [e] at hb
    · rw [hc, getD_nat zs len (by omega) (fun z hz => (wf_u64 (hwz z hz)).1) k hk]

theorem arg_waits {r : Reach} {b0 : Nat} {v : Value} {d : DataW H} {p : List MemPlace} (hv : Value.okWide Try.prog W r b0 43 v) (h : DataW.Trod enc Try.prog W 0 (fun _ => true) true 43 v d p) :
    ∃ (r b st fr : Nat) (A : Option Addr) (c : Nat) (ds : List Nat), v = .agg #[.int .u16 r, .int .u16 b, .int .u32 st, .slice A ds.length c, .int .u16 fr] ∧ st ≤ 4294967295 ∧ fr ≤ 65535 ∧ ds.length ≤ 9223372036854775807 ∧ (∀ k, ds.getD k 0 ≤ 4294967295) ∧ Src32 W A ds ∧ ds.length ≤ Rows.uptoBulk d := by
  obtain ⟨cs, rfl, hsz⟩ := okWide_struct Try.underlying43 hv
  obtain ⟨c0, c1, c2, c3, c4, rfl⟩ := five_cells (hsz.trans (by kernel_rfl))
  obtain ⟨fu, hf⟩ := h
  obtain ⟨ys, n, _, hx, _, hyl, hp⟩ := DataW.trod_struct Try.underlying43 hf
  obtain ⟨y0, y1, y2, y3, y4, rfl⟩ := five_parts (hyl.trans (by kernel_rfl))
  have h0 : DataW.trod enc Try.prog W 0 (fun _ => true) true n 39 (List.take (Try.prog.cellsOf 39) [c0, c1, c2, c3, c4]) = some y0 := hp 0 _ rfl
  have h1 : DataW.trod enc Try.prog W 0 (fun _ => true) true n 39 (List.take (Try.prog.cellsOf 39) [c1, c2, c3, c4]) = some y1 := hp 1 _ rfl
  have h2 : DataW.trod enc Try.prog W 0 (fun _ => true) true n 40 (List.take (Try.prog.cellsOf 40) [c2, c3, c4]) = some y2 := hp 2 _ rfl
  have h3 : DataW.trod enc Try.prog W 0 (fun _ => true) true n 41 (List.take (Try.prog.cellsOf 41) [c3, c4]) = some y3 := hp 3 _ rfl
  have h4 : DataW.trod enc Try.prog W 0 (fun _ => true) true n 39 (List.take (Try.prog.cellsOf 39) [c4]) = some y4 := hp 4 _ rfl
  have e0 : Try.prog.cellsOf 39 = 1 := by kernel_rfl
  have e1 : Try.prog.cellsOf 40 = 1 := by kernel_rfl
  have e3 : Try.prog.cellsOf 41 = 1 := by kernel_rfl
  simp only [e0, e1, e3, List.take_succ_cons, List.take_zero] at h0 h1 h2 h3 h4
  obtain ⟨i0, k0, _, w0⟩ := DataW.trod_int Try.underlying39 h0
  obtain ⟨i1, k1, _, w1⟩ := DataW.trod_int Try.underlying39 h1
  obtain ⟨i2, k2, _, w2⟩ := DataW.trod_int Try.underlying40 h2
  obtain ⟨A, ds, c, k3, hl, hd, hs, hb⟩ := arg_u32s h3
  obtain ⟨i4, k4, _, w4⟩ := DataW.trod_int Try.underlying39 h4
  simp only [List.cons.injEq, and_true] at k0 k1 k2 k3 k4
  subst k0 k1 k2 k3 k4
  have b0 := wf_u16 w0
  have b1 := wf_u16 w1
  have b2 := wf_u32 w2
  have b4 := wf_u16 w4
  obtain ⟨m0, rfl⟩ : ∃ m : Nat, i0 = m := ⟨i0.toNat, by omega⟩
  obtain ⟨m1, rfl⟩ : ∃ m : Nat, i1 = m := ⟨i1.toNat, by omega⟩
  obtain ⟨m2, rfl⟩ : ∃ m : Nat, i2 = m := ⟨i2.toNat, by omega⟩
  obtain ⟨m4, rfl⟩ : ∃ m : Nat, i4 = m := ⟨i4.toNat, by omega⟩
  refine ⟨m0, m1, m2, m4, A, c, ds, rfl, by omega, by omega, hl, hd, hs, ?_⟩
  simp only [Prod.mk.injEq] at hx
  rw [hx.1]
  simp only [Rows.uptoBulk, Rows.uptoBulkAll, List.map_cons, List.map_nil]
  omega
end
end Go.Proofs.Ytfkpihilcngbnaa.Buc
