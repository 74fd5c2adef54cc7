/-
  What an argument that is a slice of requests reads, and how much it holds.
  Conditions: those that each theorem names.
-/
import Derived.Test.YtemgfppclakdmaaGreatDoorZL
import Derived.Test.YtemgfppclakdmaaGreatDoorHE
import Derived.Deep.SlicePairs
import Derived.SliceStrings
import Derived.SizedLaws
import Derived.Test.YtemgfppclakdmaaGreatDoorMC
import Derived.Test.YtemgfppclakdmaaGreatDoorGD
import Derived.Lib.SmallJoins
import Derived.Deep.Slices
import Derived.Deep.Strs
import Derived.Test.YtemgfppclakdmaaGreatDoorQA
namespace Go.Proofs.YtemgfppclakdmaaGreatDoor
open Go.ChangeShapes Go.WideShapes Go.ChangeAt Go.RowKit Go.Deep

theorem bulk_litsZ {H : Type} (k : IntKind) (zs : List Int) : Rows.uptoBulkAll (H := H) (lits k zs) = zs.length := by
  induction zs with
  | nil => rfl
  | cons z l ih =>
    show Rows.uptoBulk _ + Rows.uptoBulkAll (lits k l) = _
    rw [ih]
    simp only [Rows.uptoBulk, List.length_cons]
    omega
def asBytes (zs : List Int) : List UInt8 := zs.map fun z => UInt8.ofNat z.toNat
theorem asBytes_get (zs : List Int) (i : Nat) (hi : i < zs.length) (hw : ∀ n ∈ zs, (Lit.int .u8 n).wf = true) : (vals (asBytes zs))[i]? = some (.int .u8 (zs.getD i 0)) := by
  have hm : zs[i] ∈ zs := List.getElem_mem hi
  have h := hw _ hm
  simp [Lit.wf, IntKind.min, IntKind.max, IntKind.signed, IntKind.bits] at h
  rw [vals_get]
  simp only [asBytes, List.getElem?_map, List.getElem?_eq_getElem hi, Option.map_some, List.getD_eq_getElem?_getD, Option.getD_some]
  congr 1
  unfold B
  congr 1
  rw [UInt8.toNat_ofNat']
  omega
theorem byteBytes : Tryz.prog.bytesOf 5 = 1 := by kernel_rfl
theorem strBytes : Tryz.prog.bytesOf 9 = 16 := by kernel_rfl
theorem fldBytes : Tryz.prog.bytesOf 58 = 32 := by kernel_rfl
theorem weights_part {H : Type} {t : TypeId} {d : DataW H} {l : List (DataW H)} (hd : d ∈ l) (h : (DataW.weightsAll Tryz.prog t l).all (· ≤ reachBytes) = true) : (d.weights Tryz.prog t).all (· ≤ reachBytes) = true := by
  induction l with
  | nil => cases hd
  | cons x r ih =>
    simp only [DataW.weightsAll, List.all_append, Bool.and_eq_true] at h
    rcases List.mem_cons.1 hd with rfl | e
    · exact h.1
    · exact ih e h.2
theorem weights_each {H : Type} {t : TypeId} {d : DataW H} {ts : List TypeId} {ds : List (DataW H)} (h : (DataW.weightsEach Tryz.prog ts ds).all (· ≤ reachBytes) = true) (j : Nat) (ht : ts[j]? = some t) (hd : ds[j]? = some d) : (d.weights Tryz.prog t).all (· ≤ reachBytes) = true := by
  rw [List.all_eq_true] at h ⊢
  exact fun n hn => h n (DataW.weights_mem_each ht hd n hn)

section
variable {H : Type} {enc : TypeId × Value → H} {W : World} {fuel : Nat}

theorem arg_bytes {cs : List Value} {x : DataW H × List MemPlace} (h : DataW.trod enc Tryz.prog W 0 (fun _ => true) true fuel 22 cs = some x) :
    ∃ (A : Option Addr) (bs : List UInt8) (n c : Nat), bs.length = n ∧ cs = [.slice A n c] ∧ n ≤ c ∧ Src W (fun _ => True) A bs ∧ ((x.1.weights Tryz.prog 22).all (· ≤ reachBytes) = true → n ≤ 140737488351232) ∧ n + 1 ≤ Rows.uptoBulk x.1 := by
  rcases open_ints Tryz.underlying22 Tryz.underlying5 (by kernel_rfl) h with ⟨hcs, hx⟩ | ⟨a, len, cap, zs, hcs, _, hl, hm, hz, hx, hcell, hwz⟩
  · subst hx
    exact ⟨none, [], 0, 0, rfl, hcs, Nat.le_refl _, fun h => absurd h (by simp), fun _ => by omega, by simp [Rows.uptoBulk]⟩
  · simp only [if_true] at hz
    subst hx
    have hlen : (asBytes (zs.take len)).length = len := by simp [asBytes]; omega
    refine ⟨some a, asBytes (zs.take len), len, cap, hlen, hcs, by omega, fun h0 => ?_, fun hw => ?_, ?_⟩
    · have hb := block_lt_of_cell (hcell 0 (by omega))
      have hab : a.block < W.heap.size := by
        have e : (a.add 0).block = a.block := by unfold Addr.add; split <;> rfl
        rwa [e] at hb
      refine ⟨a, rfl, trivial, hab, fun i v hv => ?_⟩
      have hi : i < (zs.take len).length := by
        have := (List.getElem?_eq_some_iff.1 hv).1
        rw [vals_length, hlen] at this
        simp; omega
      rw [asBytes_get _ i hi (fun n hn => hwz n (List.mem_of_mem_take hn))] at hv
      rw [hcell i (by simp at hi; omega), ← hv]
      have hi' : i < len := by simp at hi; omega
      simp [List.getD_eq_getElem?_getD, hi']
    · simp only [DataW.weights, Tryz.underlying22, List.all_cons, Bool.and_eq_true, decide_eq_true_eq, byteBytes, lits, List.length_map, List.length_take, List.length_drop, show reachBytes = 140737488351232 from rfl] at hw
      have := hw.1
      omega
    · simp only [Rows.uptoBulk, bulk_litsZ, List.length_take, List.length_drop]
      omega

theorem arg_strs {cs : List Value} {x : DataW H × List MemPlace} (h : DataW.trod enc Tryz.prog W 0 (fun _ => true) true fuel 114 cs = some x) :
    ∃ (A : Option Addr) (ls : List (List UInt8)) (n c : Nat), ls.length = n ∧ cs = [.slice A n c] ∧ SrcS W (fun _ => True) A ls ∧ ((x.1.weights Tryz.prog 114).all (· ≤ reachBytes) = true → n * 16 ≤ 140737488351232 ∧ SlimS ls) := by
  rcases open_strings Tryz.underlying114 Tryz.underlying9 (by kernel_rfl) h with ⟨hcs, hx⟩ | ⟨a, len, cap, ss, hcs, _, hl, hm, hz, hx, hcell, hwz⟩
  · exact ⟨none, [], 0, 0, rfl, hcs, fun h => absurd h (by simp), fun _ => ⟨by omega, fun _ h => by cases h⟩⟩
  · simp only [if_true] at hz
    subst hx
    have hlen : ((ss.take len).map bl).length = len := by simp; omega
    refine ⟨some a, (ss.take len).map bl, len, cap, hlen, hcs, fun h0 => ?_, fun hw => ?_⟩
    · have hb := block_lt_of_cell (hcell 0 (by omega))
      have hab : a.block < W.heap.size := by
        have e : (a.add 0).block = a.block := by unfold Addr.add; split <;> rfl
        rwa [e] at hb
      refine ⟨a, rfl, trivial, hab, fun i l hl' => ?_⟩
      rw [List.getElem?_map, Option.map_eq_some_iff] at hl'
      obtain ⟨s, hs, rfl⟩ := hl'
      rw [List.getElem?_take] at hs
      split at hs
      · have hi : i < ss.length := (List.getElem?_eq_some_iff.1 hs).1
        rw [hcell i hi, List.getD_eq_getElem?_getD, hs]
        unfold strV
        rw [mk_bl]
        rfl
      · cases hs
    · simp only [DataW.weights, Tryz.underlying114, List.all_cons, List.all_append, Bool.and_eq_true, decide_eq_true_eq, strBytes, ChangeShapes.strs, List.length_map, List.length_take, List.length_drop, show reachBytes = 140737488351232 from rfl] at hw
      obtain ⟨h1, h2, _⟩ := hw
      refine ⟨by omega, fun l hl' => ?_⟩
      obtain ⟨s, hs, rfl⟩ := List.mem_map.1 hl'
      have := weights_part (t := 9) (List.mem_map.2 ⟨s, hs, rfl⟩) h2
      simp only [DataW.weights, List.all_cons, List.all_nil, Bool.and_true, decide_eq_true_eq, show reachBytes = 140737488351232 from rfl] at this
      exact this

def strB : Value → List UInt8 | .string s => bl s | _ => []
theorem arg_flds {cs : List Value} {x : DataW H × List MemPlace} (h : DataW.trod enc Tryz.prog W 0 (fun _ => true) true fuel 23 cs = some x) :
    ∃ (A : Option Addr) (ls : List Fld) (n c : Nat), ls.length = n ∧ cs = [.slice A n c] ∧ SrcF W (fun _ => True) A ls ∧ ((x.1.weights Tryz.prog 23).all (· ≤ reachBytes) = true → n * 32 ≤ 140737488351232 ∧ Slim ls) := by
  rcases open_slice_pairs Tryz.underlying23 Tryz.underlying58 (by kernel_rfl) rfl rfl (by kernel_rfl) (by kernel_rfl) h with ⟨hcs, hx⟩ | ⟨a, len, cap, m, n, V0, V1, D0, D1, P0, P1, hcs, _, hl, hm, hmm, hx, hat⟩
  · exact ⟨none, [], 0, 0, rfl, hcs, fun h => absurd h (by simp), fun _ => ⟨by omega, fun _ h => by cases h⟩⟩
  · simp only [if_true] at hmm
    subst hmm hx
    have hstr : ∀ i, i < len → (∃ s : ByteArray, V0 i = .string s ∧ D0 i = .lit (.string s.data.toList)) ∧ (∃ s : ByteArray, V1 i = .string s ∧ D1 i = .lit (.string s.data.toList)) := fun i hi => by
      obtain ⟨_, _, h0, h1⟩ := hat i (by omega)
      obtain ⟨s0, e0, y0, _⟩ := DataW.trod_string Tryz.underlying9 h0
      obtain ⟨s1, e1, y1, _⟩ := DataW.trod_string Tryz.underlying9 h1
      simp only [List.cons.injEq, and_true, Prod.mk.injEq] at e0 e1 y0 y1
      exact ⟨⟨s0, e0, y0.1⟩, ⟨s1, e1, y1.1⟩⟩
    have hlen : ((List.range len).map fun i => (strB (V0 i), strB (V1 i))).length = len := by simp
    refine ⟨some a, (List.range len).map fun i => (strB (V0 i), strB (V1 i)), len, _, hlen, hcs, fun h0 => ?_, fun hw => ?_⟩
    · have hb := block_lt_of_cell (hat 0 (by omega)).1
      have hab : a.block < W.heap.size := by
        have e : (a.add (0 * 2)).block = a.block := by unfold Addr.add; split <;> rfl
        rwa [e] at hb
      refine ⟨a, rfl, trivial, hab, fun i f hf => ?_⟩
      rw [List.getElem?_map, Option.map_eq_some_iff] at hf
      obtain ⟨j, hj, rfl⟩ := hf
      obtain ⟨hi, rfl⟩ := List.getElem?_eq_some_iff.1 hj
      rw [List.getElem_range]
      have hi' : i < len := by simpa using hi
      obtain ⟨⟨s0, e0, _⟩, ⟨s1, e1, _⟩⟩ := hstr i hi'
      obtain ⟨c0, c1, _⟩ := hat i (by omega)
      rw [c0, c1, e0, e1]
      unfold strV strB
      simp only
      rw [mk_bl, mk_bl]
      exact ⟨rfl, rfl⟩
    · simp only [DataW.weights, Tryz.underlying23, List.all_cons, List.all_append, Bool.and_eq_true, decide_eq_true_eq, fldBytes, List.length_map, List.length_range, show reachBytes = 140737488351232 from rfl] at hw
      obtain ⟨h1, h2, _⟩ := hw
      refine ⟨by omega, fun f hf => ?_⟩
      obtain ⟨i, hi, rfl⟩ := List.mem_map.1 hf
      have hi' : i < len := by simpa using hi
      have hp := weights_part (t := 58) (List.mem_map.2 ⟨i, hi, rfl⟩) h2
      obtain ⟨⟨s0, e0, d0⟩, ⟨s1, e1, d1⟩⟩ := hstr i hi'
      rw [d0, d1] at hp
      simp only [DataW.weights, Tryz.underlying58, List.map_cons, List.map_nil, DataW.weightsEach, List.all_append, List.all_cons, List.all_nil, Bool.and_true, Bool.and_eq_true, decide_eq_true_eq, show reachBytes = 140737488351232 from rfl] at hp
      rw [e0, e1]
      exact hp
end
end Go.Proofs.YtemgfppclakdmaaGreatDoor

namespace Go.Proofs.YtemgfppclakdmaaGreatDoor
open Go.ChangeShapes Go.WideShapes Go.ChangeAt Go.RowKit Go.Deep

theorem i64_wf {z : Int} (h : (Lit.int .i64 z).wf = true) : Sta.I64 z := by
  simp [Lit.wf, IntKind.min, IntKind.max, IntKind.signed, IntKind.bits] at h
  exact ⟨by omega, by omega⟩
theorem array11 {α : Type} {cs : Array α} (h : cs.size = 11) : ∃ c0 c1 c2 c3 c4 c5 c6 c7 c8 c9 ca, cs = #[c0, c1, c2, c3, c4, c5, c6, c7, c8, c9, ca] := by
  obtain ⟨l⟩ := cs
  match l, h with
  | [c0, c1, c2, c3, c4, c5, c6, c7, c8, c9, ca], _ => exact ⟨c0, c1, c2, c3, c4, c5, c6, c7, c8, c9, ca, rfl⟩
section
variable {H : Type} {enc : TypeId × Value → H} {W : World} {fuel : Nat}

theorem trod_struct5 {P : Program} {w : World} {base : Nat} {spare : Nat → Bool} {held : Bool} {t : TypeId} {f0 f1 f2 f3 f4 : Field} {fuel : Nat} {cs : List Value} {x : DataW H × List MemPlace} (ht : P.underlying t = some (.struct #[f0, f1, f2, f3, f4])) (h : DataW.trod enc P w base spare held fuel t cs = some x) :
    ∃ y0 y1 y2 y3 y4 n, x = (.agg [y0.1, y1.1, y2.1, y3.1, y4.1], y0.2 ++ (y1.2 ++ (y2.2 ++ (y3.2 ++ y4.2)))) ∧ cs.length = P.cellsOf t ∧ DataW.trod enc P w base spare held n f0.type ((cs.drop f0.offset).take (P.cellsOf f0.type)) = some y0 ∧
      DataW.trod enc P w base spare held n f1.type ((cs.drop f1.offset).take (P.cellsOf f1.type)) = some y1 ∧ DataW.trod enc P w base spare held n f2.type ((cs.drop f2.offset).take (P.cellsOf f2.type)) = some y2 ∧
      DataW.trod enc P w base spare held n f3.type ((cs.drop f3.offset).take (P.cellsOf f3.type)) = some y3 ∧ DataW.trod enc P w base spare held n f4.type ((cs.drop f4.offset).take (P.cellsOf f4.type)) = some y4 := by
  obtain ⟨xs, n, _, rfl, hl, hlen, hf⟩ := DataW.trod_struct ht h
  match xs, hlen with
  | [y0, y1, y2, y3, y4], _ => exact ⟨y0, y1, y2, y3, y4, n, by simp, hl, by simpa using hf 0 f0 rfl, by simpa using hf 1 f1 rfl, by simpa using hf 2 f2 rfl, by simpa using hf 3 f3 rfl, by simpa using hf 4 f4 rfl⟩

theorem bulk_map (F : Nat → Fld) (D : Nat → DataW H) : ∀ l : List Nat, (∀ i ∈ l, (F i).1.length + (F i).2.length + 3 ≤ Rows.uptoBulk (D i)) → bulkF (l.map F) ≤ Rows.uptoBulkAll (l.map D)
  | [], _ => Nat.le_refl _
  | i :: r, h => by
    have h1 := h i (List.mem_cons_self ..)
    have h2 := bulk_map F D r (fun j hj => h j (List.mem_cons_of_mem _ hj))
    rw [List.map_cons, bulkF_cons, List.map_cons]
    show _ ≤ Rows.uptoBulk (D i) + Rows.uptoBulkAll (r.map D)
    omega
theorem arg_fldsC {cs : List Value} {x : DataW H × List MemPlace} (h : DataW.trod enc Tryz.prog W 0 (fun _ => true) true fuel 23 cs = some x) :
    ∃ (A : Option Addr) (ls : List Fld) (n c : Nat), ls.length = n ∧ cs = [.slice A n c] ∧ n ≤ c ∧ SrcF W (fun _ => True) A ls ∧ ((x.1.weights Tryz.prog 23).all (· ≤ reachBytes) = true → n * 32 ≤ 140737488351232 ∧ Slim ls) ∧ bulkF ls ≤ Rows.uptoBulk x.1 := by
  rcases open_slice_pairs Tryz.underlying23 Tryz.underlying58 (by kernel_rfl) rfl rfl (by kernel_rfl) (by kernel_rfl) h with ⟨hcs, hx⟩ | ⟨a, len, cap, m, n, V0, V1, D0, D1, P0, P1, hcs, _, hl, hm, hmm, hx, hat⟩
  · exact ⟨none, [], 0, 0, rfl, hcs, Nat.le_refl _, fun h => absurd h (by simp), fun _ => ⟨by omega, fun _ h => by cases h⟩, Nat.zero_le _⟩
  · simp only [if_true] at hmm
    subst hmm hx
    have hstr : ∀ i, i < len → (∃ s : ByteArray, V0 i = .string s ∧ D0 i = .lit (.string s.data.toList)) ∧ (∃ s : ByteArray, V1 i = .string s ∧ D1 i = .lit (.string s.data.toList)) := fun i hi => by
      obtain ⟨_, _, h0, h1⟩ := hat i (by omega)
      obtain ⟨s0, e0, y0, _⟩ := DataW.trod_string Tryz.underlying9 h0
      obtain ⟨s1, e1, y1, _⟩ := DataW.trod_string Tryz.underlying9 h1
      simp only [List.cons.injEq, and_true, Prod.mk.injEq] at e0 e1 y0 y1
      exact ⟨⟨s0, e0, y0.1⟩, ⟨s1, e1, y1.1⟩⟩
    have hlen : ((List.range len).map fun i => (strB (V0 i), strB (V1 i))).length = len := by simp
    refine ⟨some a, (List.range len).map fun i => (strB (V0 i), strB (V1 i)), len, _, hlen, hcs, hl, fun h0 => ?_, fun hw => ?_, ?_⟩
    · have hb := block_lt_of_cell (hat 0 (by omega)).1
      have hab : a.block < W.heap.size := by
        have e : (a.add (0 * 2)).block = a.block := by unfold Addr.add; split <;> rfl
        rwa [e] at hb
      refine ⟨a, rfl, trivial, hab, fun i f hf => ?_⟩
      rw [List.getElem?_map, Option.map_eq_some_iff] at hf
      obtain ⟨j, hj, rfl⟩ := hf
      obtain ⟨hi, rfl⟩ := List.getElem?_eq_some_iff.1 hj
      rw [List.getElem_range]
      have hi' : i < len := by simpa using hi
      obtain ⟨⟨s0, e0, _⟩, ⟨s1, e1, _⟩⟩ := hstr i hi'
      obtain ⟨c0, c1, _⟩ := hat i (by omega)
      rw [c0, c1, e0, e1]
      unfold strV strB
      simp only
      rw [mk_bl, mk_bl]
      exact ⟨rfl, rfl⟩
    · simp only [DataW.weights, Tryz.underlying23, List.all_cons, List.all_append, Bool.and_eq_true, decide_eq_true_eq, fldBytes, List.length_map, List.length_range, show reachBytes = 140737488351232 from rfl] at hw
      obtain ⟨h1, h2, _⟩ := hw
      refine ⟨by omega, fun f hf => ?_⟩
      obtain ⟨i, hi, rfl⟩ := List.mem_map.1 hf
      have hi' : i < len := by simpa using hi
      have hp := weights_part (t := 58) (List.mem_map.2 ⟨i, hi, rfl⟩) h2
      obtain ⟨⟨s0, e0, d0⟩, ⟨s1, e1, d1⟩⟩ := hstr i hi'
      rw [d0, d1] at hp
      simp only [DataW.weights, Tryz.underlying58, List.map_cons, List.map_nil, DataW.weightsEach, List.all_append, List.all_cons, List.all_nil, Bool.and_true, Bool.and_eq_true, decide_eq_true_eq, show reachBytes = 140737488351232 from rfl] at hp
      rw [e0, e1]
      exact hp
    · refine Nat.le_trans (bulk_map _ (fun i => .agg [D0 i, D1 i]) _ fun i hi => ?_) ?_
      · have hi' : i < len := by simpa using hi
        obtain ⟨⟨s0, e0, d0⟩, ⟨s1, e1, d1⟩⟩ := hstr i hi'
        simp only
        rw [d0, d1, e0, e1]
        simp only [Rows.uptoBulk, Rows.uptoBulkAll, strB]
        have h0 : (bl s0).length = s0.data.toList.length := rfl
        have h1 : (bl s1).length = s1.data.toList.length := rfl
        omega
      · show _ ≤ Rows.uptoBulkAll _ + Rows.uptoBulkAll _ + 1
        omega

set_option maxRecDepth 100000 in
theorem arg_req {cs : List Value} {x : DataW H × List MemPlace} (h : DataW.trod enc Tryz.prog W 0 (fun _ => true) true fuel 25 cs = some x) (c0 c1 c2 c3 c4 : Value) (hc : cs = [c0, c1, c2, c3, c4]) :
    ∃ (qm qt : ByteArray) (k : Int) (A D : Option Addr) (ls : List Fld) (bs : List UInt8) (n c l d : Nat), [c0, c1, c2, c3, c4] = [.string qm, .string qt, .int .i64 k, .slice A n c, .slice D l d] ∧ ls.length = n ∧ bs.length = l ∧ n ≤ c ∧ l ≤ d ∧ SrcF W (fun _ => True) A ls ∧ Src W (fun _ => True) D bs ∧ bulkF ls ≤ Rows.uptoBulk x.1 ∧ l ≤ Rows.uptoBulk x.1 ∧ qm.size ≤ Rows.uptoBulk x.1 ∧ qt.size ≤ Rows.uptoBulk x.1 ∧ Sta.I64 k ∧
      ((x.1.weights Tryz.prog 25).all (· ≤ reachBytes) = true → n * 32 ≤ 140737488351232 ∧ l ≤ 140737488351232 ∧ Slim ls ∧ qm.size ≤ 140737488351232 ∧ qt.size ≤ 140737488351232) := by
  subst hc
  obtain ⟨y0, y1, y2, y3, y4, m, hx, _, h0, h1, h2, h3, h4⟩ := trod_struct5 Tryz.underlying25 h
  have ei : Tryz.prog.cellsOf 3 = 1 := by kernel_rfl
  have es : Tryz.prog.cellsOf 9 = 1 := by kernel_rfl
  have ef : Tryz.prog.cellsOf 23 = 1 := by kernel_rfl
  have eb : Tryz.prog.cellsOf 22 = 1 := by kernel_rfl
  simp only [ei, es, ef, eb, List.drop_zero, List.drop_succ_cons, List.take_succ_cons, List.take_zero] at h0 h1 h2 h3 h4
  obtain ⟨qm, k0, d0, _⟩ := DataW.trod_string Tryz.underlying9 h0
  obtain ⟨qt, k1, d1, _⟩ := DataW.trod_string Tryz.underlying9 h1
  obtain ⟨k, k2, d2, w2⟩ := DataW.trod_int Tryz.underlying3 h2
  obtain ⟨A, ls, n, c, hn, k3, hc, hs, hw3, hb⟩ := arg_fldsC h3
  obtain ⟨D, bs, l, d, hl, k4, hd, hs4, hw4, hb4⟩ := arg_bytes h4
  simp only [List.cons.injEq, and_true] at k0 k1 k2 k3 k4
  subst k0 k1 k2 k3 k4
  have z0 : qm.data.toList.length = qm.size := by simp
  have z1 : qt.data.toList.length = qt.size := by simp
  have hx1 : x.1 = .agg [y0.1, y1.1, y2.1, y3.1, y4.1] := by rw [hx]
  have hu : Rows.uptoBulk y0.1 + (Rows.uptoBulk y1.1 + (Rows.uptoBulk y2.1 + (Rows.uptoBulk y3.1 + (Rows.uptoBulk y4.1 + 0)))) ≤ Rows.uptoBulk x.1 := by rw [hx1]; simp only [Rows.uptoBulk, Rows.uptoBulkAll]; omega
  have u1 : qt.size ≤ Rows.uptoBulk y1.1 := by rw [d1]; simp only [Rows.uptoBulk]; omega
  have u0 : qm.size ≤ Rows.uptoBulk y0.1 := by rw [d0]; simp only [Rows.uptoBulk]; omega
  refine ⟨qm, qt, k, A, D, ls, bs, n, c, l, d, rfl, hn, hl, hc, hd, hs, hs4, by omega, by omega, by omega, by omega, i64_wf w2, fun hw => ?_⟩
  rw [hx1] at hw
  simp only [DataW.weights, Tryz.underlying25, List.map_cons, List.map_nil, DataW.weightsEach, List.all_append, Bool.and_eq_true] at hw
  obtain ⟨v0, v1, v2, v3, v4, _⟩ := hw
  obtain ⟨a1, a2⟩ := hw3 v3
  have a4 := hw4 v4
  rw [d1] at v1
  simp only [DataW.weights, List.all_cons, List.all_nil, Bool.and_true, decide_eq_true_eq, show reachBytes = 140737488351232 from rfl] at v1
  rw [d0] at v0
  simp only [DataW.weights, List.all_cons, List.all_nil, Bool.and_true, decide_eq_true_eq, show reachBytes = 140737488351232 from rfl] at v0
  exact ⟨a1, a4, a2, by omega, by omega⟩

set_option maxRecDepth 100000 in
theorem arg_res {cs : List Value} {x : DataW H × List MemPlace} (h : DataW.trod enc Tryz.prog W 0 (fun _ => true) true fuel 32 cs = some x) (c0 c1 c2 c3 c4 : Value) (hc : cs = [c0, c1, c2, c3, c4]) :
    ∃ (st : Int) (rr : ByteArray) (k : Int) (A D : Option Addr) (ls : List Fld) (bs : List UInt8) (n c l d : Nat), [c0, c1, c2, c3, c4] = [.int .i64 st, .string rr, .int .i64 k, .slice A n c, .slice D l d] ∧ ls.length = n ∧ bs.length = l ∧ n ≤ c ∧ l ≤ d ∧ SrcF W (fun _ => True) A ls ∧ Src W (fun _ => True) D bs ∧ bulkF ls ≤ Rows.uptoBulk x.1 ∧ l ≤ Rows.uptoBulk x.1 ∧ rr.size ≤ Rows.uptoBulk x.1 ∧ Sta.I64 st ∧ Sta.I64 k ∧
      ((x.1.weights Tryz.prog 32).all (· ≤ reachBytes) = true → n * 32 ≤ 140737488351232 ∧ l ≤ 140737488351232 ∧ Slim ls ∧ rr.size ≤ 140737488351232) := by
  subst hc
  obtain ⟨y0, y1, y2, y3, y4, m, hx, _, h0, h1, h2, h3, h4⟩ := trod_struct5 Tryz.underlying32 h
  have ei : Tryz.prog.cellsOf 3 = 1 := by kernel_rfl
  have es : Tryz.prog.cellsOf 9 = 1 := by kernel_rfl
  have ef : Tryz.prog.cellsOf 23 = 1 := by kernel_rfl
  have eb : Tryz.prog.cellsOf 22 = 1 := by kernel_rfl
  simp only [ei, es, ef, eb, List.drop_zero, List.drop_succ_cons, List.take_succ_cons, List.take_zero] at h0 h1 h2 h3 h4
  obtain ⟨st, k0, d0, w0⟩ := DataW.trod_int Tryz.underlying3 h0
  obtain ⟨rr, k1, d1, _⟩ := DataW.trod_string Tryz.underlying9 h1
  obtain ⟨k, k2, d2, w2⟩ := DataW.trod_int Tryz.underlying3 h2
  obtain ⟨A, ls, n, c, hn, k3, hc, hs, hw3, hb⟩ := arg_fldsC h3
  obtain ⟨D, bs, l, d, hl, k4, hd, hs4, hw4, hb4⟩ := arg_bytes h4
  simp only [List.cons.injEq, and_true] at k0 k1 k2 k3 k4
  subst k0 k1 k2 k3 k4
  have z1 : rr.data.toList.length = rr.size := by simp
  have hx1 : x.1 = .agg [y0.1, y1.1, y2.1, y3.1, y4.1] := by rw [hx]
  have hu : Rows.uptoBulk y0.1 + (Rows.uptoBulk y1.1 + (Rows.uptoBulk y2.1 + (Rows.uptoBulk y3.1 + (Rows.uptoBulk y4.1 + 0)))) ≤ Rows.uptoBulk x.1 := by rw [hx1]; simp only [Rows.uptoBulk, Rows.uptoBulkAll]; omega
  have u1 : rr.size ≤ Rows.uptoBulk y1.1 := by rw [d1]; simp only [Rows.uptoBulk]; omega
  refine ⟨st, rr, k, A, D, ls, bs, n, c, l, d, rfl, hn, hl, hc, hd, hs, hs4, by omega, by omega, by omega, i64_wf w0, i64_wf w2, fun hw => ?_⟩
  rw [hx1] at hw
  simp only [DataW.weights, Tryz.underlying32, List.map_cons, List.map_nil, DataW.weightsEach, List.all_append, Bool.and_eq_true] at hw
  obtain ⟨v0, v1, v2, v3, v4, _⟩ := hw
  obtain ⟨a1, a2⟩ := hw3 v3
  have a4 := hw4 v4
  rw [d1] at v1
  simp only [DataW.weights, List.all_cons, List.all_nil, Bool.and_true, decide_eq_true_eq, show reachBytes = 140737488351232 from rfl] at v1
  exact ⟨a1, a4, a2, by omega⟩

set_option maxRecDepth 100000 in
/-- A Both, opened. -/
theorem arg_both {r : Reach} {b0 : Nat} {v : Value} {d : DataW H} {p : List MemPlace} (hv : Value.okWide Tryz.prog W r b0 43 v) (h : DataW.Trod enc Tryz.prog W 0 (fun _ => true) true 43 v d p) :
    ∃ (qm qt : ByteArray) (qn : Int) (Aq Dq : Option Addr) (ql : List Fld) (qx : List UInt8) (nq cq lq dq : Nat) (st : Int) (rr : ByteArray) (rn : Int) (Ar Dr : Option Addr) (rl : List Fld) (rx : List UInt8) (nr cr lr dr : Nat) (mt : ByteArray),
      v = .agg #[.string qm, .string qt, .int .i64 qn, .slice Aq nq cq, .slice Dq lq dq, .int .i64 st, .string rr, .int .i64 rn, .slice Ar nr cr, .slice Dr lr dr, .string mt] ∧
      (ql.length = nq ∧ qx.length = lq ∧ SrcF W (fun _ => True) Aq ql ∧ Src W (fun _ => True) Dq qx ∧ Sta.I64 qn) ∧ (rl.length = nr ∧ rx.length = lr ∧ SrcF W (fun _ => True) Ar rl ∧ Src W (fun _ => True) Dr rx ∧ Sta.I64 st ∧ Sta.I64 rn) ∧
      (bulkF ql ≤ Rows.uptoBulk d ∧ lq ≤ Rows.uptoBulk d ∧ qm.size ≤ Rows.uptoBulk d ∧ qt.size ≤ Rows.uptoBulk d ∧ bulkF rl ≤ Rows.uptoBulk d ∧ lr ≤ Rows.uptoBulk d ∧ rr.size ≤ Rows.uptoBulk d ∧ mt.size ≤ Rows.uptoBulk d) ∧
      ((d.weights Tryz.prog 43).all (· ≤ reachBytes) = true → nq * 32 ≤ 140737488351232 ∧ nr * 32 ≤ 140737488351232) := by
  obtain ⟨cs, rfl, hsz⟩ := okWide_struct Tryz.underlying43 hv
  obtain ⟨c0, c1, c2, c3, c4, c5, c6, c7, c8, c9, ca, rfl⟩ := array11 (hsz.trans (by kernel_rfl))
  obtain ⟨fu, hf⟩ := h
  obtain ⟨y0, y1, y2, m, hx, _, h0, h1, h2⟩ := trod_struct3 Tryz.underlying43 hf
  have eq : Tryz.prog.cellsOf 25 = 5 := by kernel_rfl
  have er : Tryz.prog.cellsOf 32 = 5 := by kernel_rfl
  have es : Tryz.prog.cellsOf 9 = 1 := by kernel_rfl
  simp only [Value.cells, eq, er, es, List.drop_zero, List.drop_succ_cons, List.take_succ_cons, List.take_zero] at h0 h1 h2
  obtain ⟨qm, qt, qn, Aq, Dq, ql, qx, nq, cq, lq, dq, k0, a1, a2, _, _, a5, a6, a7, a8, a9, a10, a11, a12⟩ := arg_req h0 _ _ _ _ _ rfl
  obtain ⟨st, rr, rn, Ar, Dr, rl, rx, nr, cr, lr, dr, k1, b1, b2, _, _, b5, b6, b7, b8, b9, b10, b11, b12⟩ := arg_res h1 _ _ _ _ _ rfl
  obtain ⟨mt, k2, d2, _⟩ := DataW.trod_string Tryz.underlying9 h2
  simp only [List.cons.injEq, and_true] at k0 k1 k2
  obtain ⟨rfl, rfl, rfl, rfl, rfl⟩ := k0
  obtain ⟨rfl, rfl, rfl, rfl, rfl⟩ := k1
  subst k2
  simp only [Prod.mk.injEq] at hx
  have z2 : mt.data.toList.length = mt.size := by simp
  have hu : Rows.uptoBulk y0.1 + (Rows.uptoBulk y1.1 + (Rows.uptoBulk y2.1 + 0)) ≤ Rows.uptoBulk d := by rw [hx.1]; simp only [Rows.uptoBulk, Rows.uptoBulkAll]; omega
  have u2 : mt.size ≤ Rows.uptoBulk y2.1 := by rw [d2]; simp only [Rows.uptoBulk]; omega
  refine ⟨qm, qt, qn, Aq, Dq, ql, qx, nq, cq, lq, dq, st, rr, rn, Ar, Dr, rl, rx, nr, cr, lr, dr, mt, rfl, ⟨a1, a2, a5, a6, a11⟩, ⟨b1, b2, b5, b6, b10, b11⟩, ⟨by omega, by omega, by omega, by omega, by omega, by omega, by omega, by omega⟩, fun hw => ?_⟩
  rw [hx.1] at hw
  simp only [DataW.weights, Tryz.underlying43, List.map_cons, List.map_nil, DataW.weightsEach, List.all_append, Bool.and_eq_true] at hw
  exact ⟨(a12 hw.1).1, (b12 hw.2.1).1⟩
end
end Go.Proofs.YtemgfppclakdmaaGreatDoor

namespace Go.Proofs.YtemgfppclakdmaaGreatDoor
open Go.ChangeShapes Go.WideShapes Go.ChangeAt Go.RowKit Go.Deep
section
variable {H : Type} {enc : TypeId × Value → H} {W : World} {fuel : Nat}

theorem bulk_one (D : Nat → DataW H) : ∀ (l : List Nat) (i : Nat), i ∈ l → Rows.uptoBulk (D i) ≤ Rows.uptoBulkAll (l.map D)
  | [], i, h => by cases h
  | j :: r, i, h => by
    show _ ≤ Rows.uptoBulk (D j) + Rows.uptoBulkAll (r.map D)
    rcases List.mem_cons.1 h with rfl | h
    · omega
    · have := bulk_one D r i h; omega
theorem arg_reqs {cs : List Value} {x : DataW H × List MemPlace} (h : DataW.trod enc Tryz.prog W 0 (fun _ => true) true fuel 52 cs = some x) :
    ∃ (A : Option Addr) (L : List RqE) (n c : Nat), L.length = n ∧ cs = [.slice A n c] ∧ n ≤ c ∧ SrcR W (fun _ => True) A L ∧ (Rows.uptoBulk x.1 ≤ 1000000000 → ∀ r ∈ L, r.Ok W) := by
  have e5 : Tryz.prog.cellsOf 25 = 5 := by kernel_rfl
  rcases open_slice Tryz.underlying52 h with ⟨hcs, hx⟩ | ⟨a, len, cap, m, fu, D, Pl, hcs, _, hl, _, hm, hx, hat⟩
  · exact ⟨none, [], 0, 0, rfl, hcs, Nat.le_refl _, fun h => absurd h (by simp), fun _ _ h => by cases h⟩
  · rw [if_pos rfl] at hm
    rw [e5] at hat
    obtain ⟨E, hE⟩ := choose_lt (α := RqE) (n := len) (p := fun i r => (∀ j v, r.cells[j]? = some v → W.cell? (a.add (i * 5 + j)) = some v) ∧ (Rows.uptoBulk (D i) ≤ 1000000000 → r.Ok W)) (fun i hi => by
      obtain ⟨cs', h1, h2⟩ := hat i (by omega)
      obtain ⟨_, hlen, hget⟩ := World.cells?_some h1
      match cs', hlen with
      | [c0, c1, c2, c3, c4], _ =>
        obtain ⟨qm, qt, k, A, Dd, ls, bs, n, c, l, d, hc, hn, hl', _, _, hs, hs', hb1, hb2, hb3, hb4, hb5, _⟩ := arg_req h2 c0 c1 c2 c3 c4 rfl
        refine ⟨⟨qm, qt, k, A, Dd, ls, bs, n, c, l, d⟩, fun j v hv => ?_, fun hb => ⟨hn, hl', Nat.le_trans hb3 hb, Nat.le_trans hb4 hb, hb5, Nat.le_trans hb1 hb, Nat.le_trans hb2 hb, hs, hs'⟩⟩
        have hj : j < 5 := (List.getElem?_eq_some_iff.1 hv).1
        have hg := hget j hj
        rw [add_add, hc] at hg
        rw [hg]
        exact hv)
    have hL : ((List.range len).map E).length = len := by simp
    refine ⟨some a, (List.range len).map E, len, cap, hL, hcs, hl, fun h0 => ?_, fun hb r hr => ?_⟩
    · rw [hL] at h0
      have hc0 := (hE 0 h0).1 0 _ rfl
      have hab : a.block < W.heap.size := by
        have e : (a.add (0 * 5 + 0)).block = a.block := by unfold Addr.add; split <;> rfl
        have := block_lt_of_cell hc0
        rwa [e] at this
      refine ⟨a, rfl, trivial, hab, fun i r hr => ?_⟩
      rw [List.getElem?_map, Option.map_eq_some_iff] at hr
      obtain ⟨j, hj, rfl⟩ := hr
      obtain ⟨hi, rfl⟩ := List.getElem?_eq_some_iff.1 hj
      rw [List.getElem_range]
      exact (hE i (by simpa using hi)).1
    · obtain ⟨i, hi, rfl⟩ := List.mem_map.1 hr
      refine (hE i (by simpa using hi)).2 (Nat.le_trans ?_ hb)
      have h1 := bulk_one D _ i hi
      rw [hx]
      show _ ≤ Rows.uptoBulkAll _ + Rows.uptoBulkAll _ + 1
      omega
end
end Go.Proofs.YtemgfppclakdmaaGreatDoor
