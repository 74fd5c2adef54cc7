/-
  What an argument that is a slice of slices of bytes reads; how large it is.
  Conditions: those that the theorem names.
-/
import Derived.Test.YtilgljnmdfejmaaDoorZA
import Derived.Test.YtilgljnmdfejmaaDoorCN
import Derived.Deep.Slices
namespace Go.Proofs.YtilgljnmdfejmaaDoor
open Go.ChangeShapes Go.WideShapes Go.ChangeAt Go.RowKit Go.Deep

theorem part_le {x : List UInt8} : ∀ {ps : List (List UInt8)}, x ∈ ps → x.length ≤ totalF ps
  | p :: r, h => by
    have e : totalF (p :: r) = p.length + totalF r := by simp [totalF]
    rw [e]
    rcases List.mem_cons.1 h with rfl | h
    · omega
    · have := part_le h
      omega

theorem zero_tab {W : World} {l : List (String × DataW Unit)} (h : laidMetH Tryd.prog l W) (h2 : l.filter (fun x => x.1 == "math/bits.deBruijn64tab") = [("math/bits.deBruijn64tab", Lib.tabData .u8 bruijn64)]) : ZeroTab W :=
  tab_of h _ .u8 bruijn64 h2 (g := 5) (t := 130) (e := 5) (n := 64) (by kernel_rfl) (by kernel_rfl) (by kernel_rfl) (by kernel_rfl) (by kernel_rfl) (by kernel_rfl)

section
variable {H : Type} {enc : TypeId × Value → H} {W : World} {fuel : Nat}

theorem bulk_all {α : Type} (F : α → List UInt8) (D : α → DataW H) : ∀ l : List α, (∀ i ∈ l, (F i).length + 1 ≤ Rows.uptoBulk (D i)) → totalF (l.map F) + l.length ≤ Rows.uptoBulkAll (l.map D)
  | [], _ => Nat.le_refl _
  | i :: r, h => by
    have h1 := h i (List.mem_cons_self ..)
    have h2 := bulk_all F D r (fun j hj => h j (List.mem_cons_of_mem _ hj))
    show _ ≤ Rows.uptoBulk (D i) + Rows.uptoBulkAll (r.map D)
    have e : totalF ((i :: r).map F) = (F i).length + totalF (r.map F) := by simp [totalF]
    rw [e, List.length_cons]
    omega
theorem slBytes : Tryd.prog.bytesOf 22 = 24 := by kernel_rfl
theorem arg_parts {cs : List Value} {x : DataW H × List MemPlace} (h : DataW.trod enc Tryd.prog W 0 (fun _ => true) true fuel 31 cs = some x) :
    ∃ (A : Option Addr) (ps : List (List UInt8)) (n c : Nat), ps.length = n ∧ cs = [.slice A n c] ∧ n ≤ c ∧ SrcL W A ps ∧ ((x.1.weights Tryd.prog 31).all (· ≤ reachBytes) = true → n * 24 ≤ 140737488351232 ∧ ∀ y ∈ ps, y.length ≤ 140737488351232) ∧ totalF ps + n ≤ Rows.uptoBulk x.1 := by
  rcases open_slice1 Tryd.underlying31 (by kernel_rfl) h with ⟨hcs, hx⟩ | ⟨a, len, cap, m, n, V, D, Pl, hcs, _, hl, _, hm, hx, hat⟩
  · exact ⟨none, [], 0, 0, rfl, hcs, Nat.le_refl _, fun h => absurd h (by simp), fun _ => ⟨by omega, fun _ h => by cases h⟩, Nat.zero_le _⟩
  · simp only [if_true] at hm
    subst hm hx
    obtain ⟨F, hF⟩ := choose_lt (n := len) (α := List UInt8) (p := fun i bs => ∃ Ax c, V i = Value.slice Ax bs.length c ∧ bs.length ≤ c ∧ Src W (fun _ => True) Ax bs ∧ (((D i).weights Tryd.prog 22).all (· ≤ reachBytes) = true → bs.length ≤ 140737488351232) ∧ bs.length + 1 ≤ Rows.uptoBulk (D i)) (fun i hi => by
      obtain ⟨_, h2⟩ := hat i (by omega)
      obtain ⟨Ax, bs, n', c, hn, hc, h3, h4, h5, h6⟩ := arg_bytes h2
      subst hn
      simp only [List.cons.injEq, and_true] at hc
      exact ⟨bs, Ax, c, hc, h3, h4, h5, h6⟩)
    have hlen : ((List.range len).map F).length = len := by simp
    refine ⟨some a, (List.range len).map F, len, _, hlen, hcs, hl, fun h0 => ?_, fun hw => ?_, ?_⟩
    · have hb := block_lt_of_cell (hat 0 (by omega)).1
      have hab : a.block < W.heap.size := by
        have e : (a.add 0).block = a.block := by unfold Addr.add; split <;> rfl
        rwa [e] at hb
      refine ⟨a, rfl, hab, fun i y hy => ?_⟩
      rw [List.getElem?_map, Option.map_eq_some_iff] at hy
      obtain ⟨j, hj, rfl⟩ := hy
      obtain ⟨hi, rfl⟩ := List.getElem?_eq_some_iff.1 hj
      rw [List.getElem_range]
      have hi' : i < len := by simpa using hi
      obtain ⟨Ax, c, e, h3, h4, _⟩ := hF i hi'
      exact ⟨Ax, c, by rw [(hat i (by omega)).1, e], h3, h4⟩
    · simp only [DataW.weights, Tryd.underlying31, List.all_cons, List.all_append, Bool.and_eq_true, decide_eq_true_eq, slBytes, List.length_map, List.length_range, show reachBytes = 140737488351232 from rfl] at hw
      obtain ⟨h1, h2, _⟩ := hw
      refine ⟨by omega, fun y hy => ?_⟩
      obtain ⟨i, hi, rfl⟩ := List.mem_map.1 hy
      obtain ⟨Ax, c, _, _, _, h5, _⟩ := hF i (List.mem_range.1 hi)
      exact h5 (weights_part (t := 22) (List.mem_map.2 ⟨i, hi, rfl⟩) h2)
    · have := bulk_all F D (List.range len) (fun i hi => by
        obtain ⟨_, _, _, _, _, _, h6⟩ := hF i (List.mem_range.1 hi)
        exact h6)
      rw [List.length_range] at this
      show _ ≤ Rows.uptoBulkAll _ + Rows.uptoBulkAll _ + 1
      omega
end
end Go.Proofs.YtilgljnmdfejmaaDoor
