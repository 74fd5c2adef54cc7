/-
  What arguments that are entries, or a row of fields, a status and two numbers, read, and how much they hold.
  Conditions: those that each theorem names.
-/
import Derived.Test.YtdcbcjljmjnopaaGreatDoorZL
import Derived.Test.YtdcbcjljmjnopaaGreatDoorHE
import Derived.Deep.SlicePairs
import Derived.SliceStrings
import Derived.SizedLaws
import Derived.Test.YtdcbcjljmjnopaaGreatDoorVA
import Derived.Lib.SmallJoins
import Derived.Test.YtdcbcjljmjnopaaGreatDoorDZ
import Derived.Deep.Slices
import Derived.Deep.Strs
namespace Go.Proofs.YtdcbcjljmjnopaaGreatDoor
open Go.ChangeShapes Go.WideShapes Go.ChangeAt Go.RowKit Go.Deep

theorem bulk_litsZ {H : Type} (k : IntKind) (zs : List Int) : Rows.uptoBulkAll (H := H) (lits k zs) = zs.length := by
  induction zs with
  | nil => rfl
  | cons z l ih =>
    show Rows.uptoBulk _ + Rows.uptoBulkAll (lits k l) = _
    rw [ih]
    simp only [Rows.uptoBulk, List.length_cons]
    omega
def asBytes (zs : List Int) : List UInt8 := zs.map fun z => UInt8.ofNat z.toNat
theorem asBytes_get (zs : List Int) (i : Nat) (hi : i < zs.length) (hw : ∀ n ∈ zs, (Lit.int .u8 n).wf = true) : (vals (asBytes zs))[i]? = some (.int .u8 (zs.getD i 0)) := by
  have hm : zs[i] ∈ zs := List.getElem_mem hi
  have h := hw _ hm
  simp [Lit.wf, IntKind.min, IntKind.max, IntKind.signed, IntKind.bits] at h
  rw [vals_get]
  simp only [asBytes, List.getElem?_map, List.getElem?_eq_getElem hi, Option.map_some, List.getD_eq_getElem?_getD, Option.getD_some]
  congr 1
  unfold B
  congr 1
  rw [UInt8.toNat_ofNat']
  omega
theorem byteBytes : Tryz.prog.bytesOf 5 = 1 := by kernel_rfl
theorem strBytes : Tryz.prog.bytesOf 9 = 16 := by kernel_rfl
theorem fldBytes : Tryz.prog.bytesOf 42 = 32 := by kernel_rfl
theorem weights_part {H : Type} {t : TypeId} {d : DataW H} {l : List (DataW H)} (hd : d ∈ l) (h : (DataW.weightsAll Tryz.prog t l).all (· ≤ reachBytes) = true) : (d.weights Tryz.prog t).all (· ≤ reachBytes) = true := by
  induction l with
  | nil => cases hd
  | cons x r ih =>
    simp only [DataW.weightsAll, List.all_append, Bool.and_eq_true] at h
    rcases List.mem_cons.1 hd with rfl | e
    · exact h.1
    · exact ih e h.2
theorem weights_each {H : Type} {t : TypeId} {d : DataW H} {ts : List TypeId} {ds : List (DataW H)} (h : (DataW.weightsEach Tryz.prog ts ds).all (· ≤ reachBytes) = true) (j : Nat) (ht : ts[j]? = some t) (hd : ds[j]? = some d) : (d.weights Tryz.prog t).all (· ≤ reachBytes) = true := by
  rw [List.all_eq_true] at h ⊢
  exact fun n hn => h n (DataW.weights_mem_each ht hd n hn)

section
variable {H : Type} {enc : TypeId × Value → H} {W : World} {fuel : Nat}

theorem arg_bytes {cs : List Value} {x : DataW H × List MemPlace} (h : DataW.trod enc Tryz.prog W 0 (fun _ => true) true fuel 24 cs = some x) :
    ∃ (A : Option Addr) (bs : List UInt8) (n c : Nat), bs.length = n ∧ cs = [.slice A n c] ∧ n ≤ c ∧ Src W (fun _ => True) A bs ∧ ((x.1.weights Tryz.prog 24).all (· ≤ reachBytes) = true → n ≤ 140737488351232) ∧ n + 1 ≤ Rows.uptoBulk x.1 := by
  rcases open_ints Tryz.underlying24 Tryz.underlying5 (by kernel_rfl) h with ⟨hcs, hx⟩ | ⟨a, len, cap, zs, hcs, _, hl, hm, hz, hx, hcell, hwz⟩
  · subst hx
    exact ⟨none, [], 0, 0, rfl, hcs, Nat.le_refl _, fun h => absurd h (by simp), fun _ => by omega, by simp [Rows.uptoBulk]⟩
  · simp only [if_true] at hz
    subst hx
    have hlen : (asBytes (zs.take len)).length = len := by simp [asBytes]; omega
    refine ⟨some a, asBytes (zs.take len), len, cap, hlen, hcs, by omega, fun h0 => ?_, fun hw => ?_, ?_⟩
    · have hb := block_lt_of_cell (hcell 0 (by omega))
      have hab : a.block < W.heap.size := by
        have e : (a.add 0).block = a.block := by unfold Addr.add; split <;> rfl
        rwa [e] at hb
      refine ⟨a, rfl, trivial, hab, fun i v hv => ?_⟩
      have hi : i < (zs.take len).length := by
        have := (List.getElem?_eq_some_iff.1 hv).1
        rw [vals_length, hlen] at this
        simp; omega
      rw [asBytes_get _ i hi (fun n hn => hwz n (List.mem_of_mem_take hn))] at hv
      rw [hcell i (by simp at hi; omega), ← hv]
      have hi' : i < len := by simp at hi; omega
      simp [List.getD_eq_getElem?_getD, hi']
    · simp only [DataW.weights, Tryz.underlying24, List.all_cons, Bool.and_eq_true, decide_eq_true_eq, byteBytes, lits, List.length_map, List.length_take, List.length_drop, show reachBytes = 140737488351232 from rfl] at hw
      have := hw.1
      omega
    · simp only [Rows.uptoBulk, bulk_litsZ, List.length_take, List.length_drop]
      omega

theorem arg_strs {cs : List Value} {x : DataW H × List MemPlace} (h : DataW.trod enc Tryz.prog W 0 (fun _ => true) true fuel 48 cs = some x) :
    ∃ (A : Option Addr) (ls : List (List UInt8)) (n c : Nat), ls.length = n ∧ cs = [.slice A n c] ∧ SrcS W (fun _ => True) A ls ∧ ((x.1.weights Tryz.prog 48).all (· ≤ reachBytes) = true → n * 16 ≤ 140737488351232 ∧ SlimS ls) := by
  rcases open_strings Tryz.underlying48 Tryz.underlying9 (by kernel_rfl) h with ⟨hcs, hx⟩ | ⟨a, len, cap, ss, hcs, _, hl, hm, hz, hx, hcell, hwz⟩
  · exact ⟨none, [], 0, 0, rfl, hcs, fun h => absurd h (by simp), fun _ => ⟨by omega, fun _ h => by cases h⟩⟩
  · simp only [if_true] at hz
    subst hx
    have hlen : ((ss.take len).map bl).length = len := by simp; omega
    refine ⟨some a, (ss.take len).map bl, len, cap, hlen, hcs, fun h0 => ?_, fun hw => ?_⟩
    · have hb := block_lt_of_cell (hcell 0 (by omega))
      have hab : a.block < W.heap.size := by
        have e : (a.add 0).block = a.block := by unfold Addr.add; split <;> rfl
        rwa [e] at hb
      refine ⟨a, rfl, trivial, hab, fun i l hl' => ?_⟩
      rw [List.getElem?_map, Option.map_eq_some_iff] at hl'
      obtain ⟨s, hs, rfl⟩ := hl'
      rw [List.getElem?_take] at hs
      split at hs
      · have hi : i < ss.length := (List.getElem?_eq_some_iff.1 hs).1
        rw [hcell i hi, List.getD_eq_getElem?_getD, hs]
        unfold strV
        rw [mk_bl]
        rfl
      · cases hs
    · simp only [DataW.weights, Tryz.underlying48, List.all_cons, List.all_append, Bool.and_eq_true, decide_eq_true_eq, strBytes, ChangeShapes.strs, List.length_map, List.length_take, List.length_drop, show reachBytes = 140737488351232 from rfl] at hw
      obtain ⟨h1, h2, _⟩ := hw
      refine ⟨by omega, fun l hl' => ?_⟩
      obtain ⟨s, hs, rfl⟩ := List.mem_map.1 hl'
      have := weights_part (t := 9) (List.mem_map.2 ⟨s, hs, rfl⟩) h2
      simp only [DataW.weights, List.all_cons, List.all_nil, Bool.and_true, decide_eq_true_eq, show reachBytes = 140737488351232 from rfl] at this
      exact this

def strB : Value → List UInt8 | .string s => bl s | _ => []
theorem arg_flds {cs : List Value} {x : DataW H × List MemPlace} (h : DataW.trod enc Tryz.prog W 0 (fun _ => true) true fuel 23 cs = some x) :
    ∃ (A : Option Addr) (ls : List Fld) (n c : Nat), ls.length = n ∧ cs = [.slice A n c] ∧ SrcF W (fun _ => True) A ls ∧ ((x.1.weights Tryz.prog 23).all (· ≤ reachBytes) = true → n * 32 ≤ 140737488351232 ∧ Slim ls) := by
  rcases open_slice_pairs Tryz.underlying23 Tryz.underlying42 (by kernel_rfl) rfl rfl (by kernel_rfl) (by kernel_rfl) h with ⟨hcs, hx⟩ | ⟨a, len, cap, m, n, V0, V1, D0, D1, P0, P1, hcs, _, hl, hm, hmm, hx, hat⟩
  · exact ⟨none, [], 0, 0, rfl, hcs, fun h => absurd h (by simp), fun _ => ⟨by omega, fun _ h => by cases h⟩⟩
  · simp only [if_true] at hmm
    subst hmm hx
    have hstr : ∀ i, i < len → (∃ s : ByteArray, V0 i = .string s ∧ D0 i = .lit (.string s.data.toList)) ∧ (∃ s : ByteArray, V1 i = .string s ∧ D1 i = .lit (.string s.data.toList)) := fun i hi => by
      obtain ⟨_, _, h0, h1⟩ := hat i (by omega)
      obtain ⟨s0, e0, y0, _⟩ := DataW.trod_string Tryz.underlying9 h0
      obtain ⟨s1, e1, y1, _⟩ := DataW.trod_string Tryz.underlying9 h1
      simp only [List.cons.injEq, and_true, Prod.mk.injEq] at e0 e1 y0 y1
      exact ⟨⟨s0, e0, y0.1⟩, ⟨s1, e1, y1.1⟩⟩
    have hlen : ((List.range len).map fun i => (strB (V0 i), strB (V1 i))).length = len := by simp
    refine ⟨some a, (List.range len).map fun i => (strB (V0 i), strB (V1 i)), len, _, hlen, hcs, fun h0 => ?_, fun hw => ?_⟩
    · have hb := block_lt_of_cell (hat 0 (by omega)).1
      have hab : a.block < W.heap.size := by
        have e : (a.add (0 * 2)).block = a.block := by unfold Addr.add; split <;> rfl
        rwa [e] at hb
      refine ⟨a, rfl, trivial, hab, fun i f hf => ?_⟩
      rw [List.getElem?_map, Option.map_eq_some_iff] at hf
      obtain ⟨j, hj, rfl⟩ := hf
      obtain ⟨hi, rfl⟩ := List.getElem?_eq_some_iff.1 hj
      rw [List.getElem_range]
      have hi' : i < len := by simpa using hi
      obtain ⟨⟨s0, e0, _⟩, ⟨s1, e1, _⟩⟩ := hstr i hi'
      obtain ⟨c0, c1, _⟩ := hat i (by omega)
      rw [c0, c1, e0, e1]
      unfold strV strB
      simp only
      rw [mk_bl, mk_bl]
      exact ⟨rfl, rfl⟩
    · simp only [DataW.weights, Tryz.underlying23, List.all_cons, List.all_append, Bool.and_eq_true, decide_eq_true_eq, fldBytes, List.length_map, List.length_range, show reachBytes = 140737488351232 from rfl] at hw
      obtain ⟨h1, h2, _⟩ := hw
      refine ⟨by omega, fun f hf => ?_⟩
      obtain ⟨i, hi, rfl⟩ := List.mem_map.1 hf
      have hi' : i < len := by simpa using hi
      have hp := weights_part (t := 42) (List.mem_map.2 ⟨i, hi, rfl⟩) h2
      obtain ⟨⟨s0, e0, d0⟩, ⟨s1, e1, d1⟩⟩ := hstr i hi'
      rw [d0, d1] at hp
      simp only [DataW.weights, Tryz.underlying42, List.map_cons, List.map_nil, DataW.weightsEach, List.all_append, List.all_cons, List.all_nil, Bool.and_true, Bool.and_eq_true, decide_eq_true_eq, show reachBytes = 140737488351232 from rfl] at hp
      rw [e0, e1]
      exact hp
end
end Go.Proofs.YtdcbcjljmjnopaaGreatDoor

namespace Go.Proofs.YtdcbcjljmjnopaaGreatDoor.Hop
open Go.ChangeShapes Go.WideShapes Go.ChangeAt Go.RowKit Go.Deep

section
variable {H : Type} {enc : TypeId × Value → H} {W : World} {fuel : Nat}

theorem bulk_map (F : Nat → Fld) (D : Nat → DataW H) : ∀ l : List Nat, (∀ i ∈ l, (F i).1.length + (F i).2.length + 3 ≤ Rows.uptoBulk (D i)) → bulkF (l.map F) ≤ Rows.uptoBulkAll (l.map D)
  | [], _ => Nat.le_refl _
  | i :: r, h => by
    have h1 := h i (List.mem_cons_self ..)
    have h2 := bulk_map F D r (fun j hj => h j (List.mem_cons_of_mem _ hj))
    rw [List.map_cons, bulk_cons, List.map_cons]
    show _ ≤ Rows.uptoBulk (D i) + Rows.uptoBulkAll (r.map D)
    omega
theorem arg_fldsB {cs : List Value} {x : DataW H × List MemPlace} (h : DataW.trod enc Tryz.prog W 0 (fun _ => true) true fuel 23 cs = some x) :
    ∃ (A : Option Addr) (ls : List Fld) (n c : Nat), ls.length = n ∧ cs = [.slice A n c] ∧ n ≤ c ∧ SrcF W (fun _ => True) A ls ∧ bulkF ls ≤ Rows.uptoBulk x.1 := by
  rcases open_slice_pairs Tryz.underlying23 Tryz.underlying42 (by kernel_rfl) rfl rfl (by kernel_rfl) (by kernel_rfl) h with ⟨hcs, hx⟩ | ⟨a, len, cap, m, n, V0, V1, D0, D1, P0, P1, hcs, _, hl, hm, hmm, hx, hat⟩
  · exact ⟨none, [], 0, 0, rfl, hcs, Nat.le_refl _, fun h => absurd h (by simp), Nat.zero_le _⟩
  · simp only [if_true] at hmm
    subst hmm hx
    have hstr : ∀ i, i < len → (∃ s : ByteArray, V0 i = .string s ∧ D0 i = .lit (.string s.data.toList)) ∧ (∃ s : ByteArray, V1 i = .string s ∧ D1 i = .lit (.string s.data.toList)) := fun i hi => by
      obtain ⟨_, _, h0, h1⟩ := hat i (by omega)
      obtain ⟨s0, e0, y0, _⟩ := DataW.trod_string Tryz.underlying9 h0
      obtain ⟨s1, e1, y1, _⟩ := DataW.trod_string Tryz.underlying9 h1
      simp only [List.cons.injEq, and_true, Prod.mk.injEq] at e0 e1 y0 y1
      exact ⟨⟨s0, e0, y0.1⟩, ⟨s1, e1, y1.1⟩⟩
    have hlen : ((List.range len).map fun i => (strB (V0 i), strB (V1 i))).length = len := by simp
    refine ⟨some a, (List.range len).map fun i => (strB (V0 i), strB (V1 i)), len, _, hlen, hcs, hl, fun h0 => ?_, ?_⟩
    · have hb := block_lt_of_cell (hat 0 (by omega)).1
      have hab : a.block < W.heap.size := by
        have e : (a.add (0 * 2)).block = a.block := by unfold Addr.add; split <;> rfl
        rwa [e] at hb
      refine ⟨a, rfl, trivial, hab, fun i f hf => ?_⟩
      rw [List.getElem?_map, Option.map_eq_some_iff] at hf
      obtain ⟨j, hj, rfl⟩ := hf
      obtain ⟨hi, rfl⟩ := List.getElem?_eq_some_iff.1 hj
      rw [List.getElem_range]
      have hi' : i < len := by simpa using hi
      obtain ⟨⟨s0, e0, _⟩, ⟨s1, e1, _⟩⟩ := hstr i hi'
      obtain ⟨c0, c1, _⟩ := hat i (by omega)
      rw [c0, c1, e0, e1]
      unfold strV strB
      simp only
      rw [mk_bl, mk_bl]
      exact ⟨rfl, rfl⟩
    · refine Nat.le_trans (bulk_map _ (fun i => .agg [D0 i, D1 i]) _ fun i hi => ?_) ?_
      · have hi' : i < len := by simpa using hi
        obtain ⟨⟨s0, e0, d0⟩, ⟨s1, e1, d1⟩⟩ := hstr i hi'
        simp only
        rw [d0, d1, e0, e1]
        simp only [Rows.uptoBulk, Rows.uptoBulkAll, strB]
        have h0 : (bl s0).length = s0.data.toList.length := rfl
        have h1 : (bl s1).length = s1.data.toList.length := rfl
        omega
      · show _ ≤ Rows.uptoBulkAll _ + Rows.uptoBulkAll _ + 1
        omega

set_option maxRecDepth 100000 in
/-- A field, opened. -/
theorem arg_fld {r : Reach} {b0 : Nat} {v : Value} {d : DataW H} {p : List MemPlace} (hv : Value.okWide Tryz.prog W r b0 42 v) (h : DataW.Trod enc Tryz.prog W 0 (fun _ => true) true 42 v d p) :
    ∃ (f1 f2 : ByteArray), v = .agg #[.string f1, .string f2] ∧ f1.size + f2.size ≤ Rows.uptoBulk d := by
  obtain ⟨cs, rfl, hsz⟩ := okWide_struct Tryz.underlying42 hv
  obtain ⟨c0, c1, rfl⟩ := Go.Joins.array2 (hsz.trans (by kernel_rfl))
  obtain ⟨fu, hf⟩ := h
  obtain ⟨y0, y1, m, hx, _, h0, h1⟩ := trod_struct2 Tryz.underlying42 hf
  have es : Tryz.prog.cellsOf 9 = 1 := by kernel_rfl
  simp only [Value.cells, es, List.drop_zero, List.drop_succ_cons, List.take_succ_cons, List.take_zero] at h0 h1
  obtain ⟨f1, k0, d0, _⟩ := DataW.trod_string Tryz.underlying9 h0
  obtain ⟨f2, k1, d1, _⟩ := DataW.trod_string Tryz.underlying9 h1
  simp only [List.cons.injEq, and_true] at k0 k1
  subst k0 k1
  have z0 : f1.data.toList.length = f1.size := by simp
  have z1 : f2.data.toList.length = f2.size := by simp
  simp only [Prod.mk.injEq] at hx
  have hx1 : d = .agg [y0.1, y1.1] := hx.1
  have hu : Rows.uptoBulk y0.1 + (Rows.uptoBulk y1.1 + 0) ≤ Rows.uptoBulk d := by rw [hx1]; simp only [Rows.uptoBulk, Rows.uptoBulkAll]; omega
  have u0 : f1.size ≤ Rows.uptoBulk y0.1 := by rw [d0]; simp only [Rows.uptoBulk]; omega
  have u1 : f2.size ≤ Rows.uptoBulk y1.1 := by rw [d1]; simp only [Rows.uptoBulk]; omega
  exact ⟨f1, f2, rfl, by omega⟩
end
end Go.Proofs.YtdcbcjljmjnopaaGreatDoor.Hop

namespace Go.Proofs.YtdcbcjljmjnopaaGreatDoor.Fre
open Go.ChangeShapes Go.WideShapes Go.ChangeAt Go.RowKit Go.Deep Hop

section
variable {H : Type} {enc : TypeId × Value → H} {W : World} {fuel : Nat}

theorem trod_structN5 {P : Program} {w : World} {base : Nat} {spare : Nat → Bool} {held : Bool} {t : TypeId} {f0 f1 f2 f3 f4 : Field} {fuel : Nat} {cs : List Value} {x : DataW H × List MemPlace} (ht : P.underlying t = some (.struct #[f0, f1, f2, f3, f4])) (h : DataW.trod enc P w base spare held fuel t cs = some x) :
    ∃ y0 y1 y2 y3 y4 n, x.1 = .agg [y0.1, y1.1, y2.1, y3.1, y4.1] ∧ DataW.trod enc P w base spare held n f0.type ((cs.drop f0.offset).take (P.cellsOf f0.type)) = some y0 ∧ DataW.trod enc P w base spare held n f1.type ((cs.drop f1.offset).take (P.cellsOf f1.type)) = some y1 ∧ DataW.trod enc P w base spare held n f2.type ((cs.drop f2.offset).take (P.cellsOf f2.type)) = some y2 ∧ DataW.trod enc P w base spare held n f3.type ((cs.drop f3.offset).take (P.cellsOf f3.type)) = some y3 ∧ DataW.trod enc P w base spare held n f4.type ((cs.drop f4.offset).take (P.cellsOf f4.type)) = some y4 := by
  obtain ⟨xs, n, _, rfl, hl, hlen, hf⟩ := DataW.trod_struct ht h
  match xs, hlen with
  | [y0, y1, y2, y3, y4], _ => exact ⟨y0, y1, y2, y3, y4, n, by simp, by simpa using hf 0 f0 rfl, by simpa using hf 1 f1 rfl, by simpa using hf 2 f2 rfl, by simpa using hf 3 f3 rfl, by simpa using hf 4 f4 rfl⟩
theorem trod_structN4 {P : Program} {w : World} {base : Nat} {spare : Nat → Bool} {held : Bool} {t : TypeId} {f0 f1 f2 f3 : Field} {fuel : Nat} {cs : List Value} {x : DataW H × List MemPlace} (ht : P.underlying t = some (.struct #[f0, f1, f2, f3])) (h : DataW.trod enc P w base spare held fuel t cs = some x) :
    ∃ y0 y1 y2 y3 n, x.1 = .agg [y0.1, y1.1, y2.1, y3.1] ∧ DataW.trod enc P w base spare held n f0.type ((cs.drop f0.offset).take (P.cellsOf f0.type)) = some y0 ∧ DataW.trod enc P w base spare held n f1.type ((cs.drop f1.offset).take (P.cellsOf f1.type)) = some y1 ∧ DataW.trod enc P w base spare held n f2.type ((cs.drop f2.offset).take (P.cellsOf f2.type)) = some y2 ∧ DataW.trod enc P w base spare held n f3.type ((cs.drop f3.offset).take (P.cellsOf f3.type)) = some y3 := by
  obtain ⟨xs, n, _, rfl, hl, hlen, hf⟩ := DataW.trod_struct ht h
  match xs, hlen with
  | [y0, y1, y2, y3], _ => exact ⟨y0, y1, y2, y3, n, by simp, by simpa using hf 0 f0 rfl, by simpa using hf 1 f1 rfl, by simpa using hf 2 f2 rfl, by simpa using hf 3 f3 rfl⟩
set_option maxRecDepth 100000 in
theorem arg_ent {r : Reach} {b0 : Nat} {v : Value} {d : DataW H} {p : List MemPlace} (hv : Value.okWide Tryz.prog W r b0 28 v) (h : DataW.Trod enc Tryz.prog W 0 (fun _ => true) true 28 v d p) :
    ∃ (url : ByteArray) (asked came : Nat) (AW : Option Addr) (nw cw : Nat) (st : Int) (rr : ByteArray) (mk : Int) (A : Option Addr) (ls : List Fld) (n c : Nat) (D : Option Addr) (l e : Nat),
      v = .agg #[.string url, .int .u64 (asked : Int), .int .u64 (came : Int), .slice AW nw cw, .int .i64 st, .string rr, .int .i64 mk, .slice A n c, .slice D l e] ∧ ls.length = n ∧ asked ≤ 18446744073709551615 ∧ came ≤ 18446744073709551615 ∧ SrcF W (fun _ => True) A ls ∧ bulkF ls ≤ Rows.uptoBulk d := by
  obtain ⟨cs, rfl, hsz⟩ := okWide_struct Tryz.underlying28 hv
  obtain ⟨c0, c1, c2, c3, c4, c5, c6, c7, c8, rfl⟩ : ∃ c0 c1 c2 c3 c4 c5 c6 c7 c8, cs = #[c0, c1, c2, c3, c4, c5, c6, c7, c8] := by
    have hs := hsz.trans (show _ = 9 by kernel_rfl)
    obtain ⟨l⟩ := cs
    match l, hs with
    | [c0, c1, c2, c3, c4, c5, c6, c7, c8], _ => exact ⟨c0, c1, c2, c3, c4, c5, c6, c7, c8, rfl⟩
  obtain ⟨fu, hf⟩ := h
  obtain ⟨y0, y1, y2, y3, y4, m, hx1, h0, h1, h2, h3, h4⟩ := trod_structN5 Tryz.underlying28 hf
  have ei : Tryz.prog.cellsOf 3 = 1 := by kernel_rfl
  have es : Tryz.prog.cellsOf 9 = 1 := by kernel_rfl
  have eu : Tryz.prog.cellsOf 22 = 1 := by kernel_rfl
  have ef : Tryz.prog.cellsOf 23 = 1 := by kernel_rfl
  have eb : Tryz.prog.cellsOf 24 = 1 := by kernel_rfl
  have er : Tryz.prog.cellsOf 26 = 5 := by kernel_rfl
  simp only [Value.cells, es, eu, ef, er, List.drop_zero, List.drop_succ_cons, List.take_succ_cons, List.take_zero] at h0 h1 h2 h3 h4
  obtain ⟨z0, z1, z2, z3, z4, m2, hx2, g0, g1, g2, g3, g4⟩ := trod_structN5 Tryz.underlying26 h4
  simp only [ei, es, ef, eb, List.drop_zero, List.drop_succ_cons, List.take_succ_cons, List.take_zero] at g0 g1 g2 g3 g4
  obtain ⟨url, k0, _, _⟩ := DataW.trod_string Tryz.underlying9 h0
  obtain ⟨ask, k1, _, wa⟩ := DataW.trod_int Tryz.underlying22 h1
  obtain ⟨ca, k2, _, wc⟩ := DataW.trod_int Tryz.underlying22 h2
  obtain ⟨AW, lw, nw, cw, _, k3, _, _, _⟩ := Hop.arg_fldsB h3
  obtain ⟨st, k4, _, _⟩ := DataW.trod_int Tryz.underlying3 g0
  obtain ⟨rr, k5, _, _⟩ := DataW.trod_string Tryz.underlying9 g1
  obtain ⟨mk, k6, _, _⟩ := DataW.trod_int Tryz.underlying3 g2
  obtain ⟨A, ls, n, c, hn, k7, _, hs, hb⟩ := Hop.arg_fldsB g3
  obtain ⟨D, bs, l, e, _, k8, _, _, _, _⟩ := arg_bytes g4
  simp only [List.cons.injEq, and_true] at k0 k1 k2 k3 k4 k5 k6 k7 k8
  subst k0 k1 k2 k3 k4 k5 k6 k7 k8
  have ba := wf_u64 wa
  have bc := wf_u64 wc
  obtain ⟨asn, rfl⟩ : ∃ m : Nat, ask = m := ⟨ask.toNat, by omega⟩
  obtain ⟨can, rfl⟩ : ∃ m : Nat, ca = m := ⟨ca.toNat, by omega⟩
  simp only at hx1 hx2
  have hu : Rows.uptoBulk z3.1 ≤ Rows.uptoBulk d := by
    rw [hx1]
    simp only [Rows.uptoBulk, Rows.uptoBulkAll]
    rw [hx2]
    simp only [Rows.uptoBulk, Rows.uptoBulkAll]
    omega
  exact ⟨url, asn, can, AW, nw, cw, st, rr, mk, A, ls, n, c, D, l, e, rfl, hn, by omega, by omega, hs, by omega⟩
set_option maxRecDepth 100000 in
theorem arg_says {r : Reach} {b0 : Nat} {v : Value} {d : DataW H} {p : List MemPlace} (hv : Value.okWide Tryz.prog W r b0 39 v) (h : DataW.Trod enc Tryz.prog W 0 (fun _ => true) true 39 v d p) :
    ∃ (A : Option Addr) (ls : List Fld) (n c : Nat) (st : Int) (sh mx : Nat), v = .agg #[.slice A n c, .int .i64 st, .int .u32 (sh : Int), .int .u32 (mx : Int)] ∧ ls.length = n ∧ sh ≤ 4294967295 ∧ mx ≤ 4294967295 ∧ SrcF W (fun _ => True) A ls ∧
      ((d.weights Tryz.prog 39).all (· ≤ reachBytes) = true → n * 32 ≤ 140737488351232 ∧ Slim ls) := by
  obtain ⟨cs, rfl, hsz⟩ := okWide_struct Tryz.underlying39 hv
  obtain ⟨c0, c1, c2, c3, rfl⟩ : ∃ c0 c1 c2 c3, cs = #[c0, c1, c2, c3] := by
    have hs := hsz.trans (show _ = 4 by kernel_rfl)
    obtain ⟨l⟩ := cs
    match l, hs with
    | [c0, c1, c2, c3], _ => exact ⟨c0, c1, c2, c3, rfl⟩
  obtain ⟨fu, hf⟩ := h
  obtain ⟨y0, y1, y2, y3, m, hx1, h0, h1, h2, h3⟩ := trod_structN4 Tryz.underlying39 hf
  have ei : Tryz.prog.cellsOf 3 = 1 := by kernel_rfl
  have eu : Tryz.prog.cellsOf 37 = 1 := by kernel_rfl
  have ef : Tryz.prog.cellsOf 23 = 1 := by kernel_rfl
  simp only [Value.cells, ei, eu, ef, List.drop_zero, List.drop_succ_cons, List.take_succ_cons, List.take_zero] at h0 h1 h2 h3
  obtain ⟨A, ls, n, c, hn, k0, hs, hw0⟩ := arg_flds h0
  obtain ⟨st, k1, _, _⟩ := DataW.trod_int Tryz.underlying3 h1
  obtain ⟨sh, k2, _, wa⟩ := DataW.trod_int Tryz.underlying37 h2
  obtain ⟨mx, k3, _, wb⟩ := DataW.trod_int Tryz.underlying37 h3
  simp only [List.cons.injEq, and_true] at k0 k1 k2 k3
  subst k0 k1 k2 k3
  have ba := wf_u32 wa
  have bc := wf_u32 wb
  obtain ⟨shn, rfl⟩ : ∃ m : Nat, sh = m := ⟨sh.toNat, by omega⟩
  obtain ⟨mxn, rfl⟩ : ∃ m : Nat, mx = m := ⟨mx.toNat, by omega⟩
  simp only at hx1
  refine ⟨A, ls, n, c, st, shn, mxn, rfl, hn, by omega, by omega, hs, fun hw => ?_⟩
  rw [hx1] at hw
  simp only [DataW.weights, Tryz.underlying39, List.map_cons, List.map_nil, DataW.weightsEach, List.all_append, Bool.and_eq_true] at hw
  exact hw0 hw.1
end
end Go.Proofs.YtdcbcjljmjnopaaGreatDoor.Fre
