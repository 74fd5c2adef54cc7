/-
  What arguments that are slices read: bytes, texts, fields; how large they are.
  Conditions: those that each theorem names.
-/
import Derived.Test.YtbkpiadbgpnhlaaDoorZL
import Derived.Test.YtbkpiadbgpnhlaaDoorHE
import Derived.Deep.SlicePairs
import Derived.SliceStrings
import Derived.SizedLaws
namespace Go.Proofs.YtbkpiadbgpnhlaaDoor
open Go.ChangeShapes Go.WideShapes Go.ChangeAt Go.RowKit Go.Deep

theorem bulk_litsZ {H : Type} (k : IntKind) (zs : List Int) : Rows.uptoBulkAll (H := H) (lits k zs) = zs.length := by
  induction zs with
  | nil => rfl
  | cons z l ih =>
    show Rows.uptoBulk _ + Rows.uptoBulkAll (lits k l) = _
    rw [ih]
    simp only [Rows.uptoBulk, List.length_cons]
    omega
def asBytes (zs : List Int) : List UInt8 := zs.map fun z => UInt8.ofNat z.toNat
theorem asBytes_get (zs : List Int) (i : Nat) (hi : i < zs.length) (hw : ∀ n ∈ zs, (Lit.int .u8 n).wf = true) : (vals (asBytes zs))[i]? = some (.int .u8 (zs.getD i 0)) := by
  have hm : zs[i] ∈ zs := List.getElem_mem hi
  have h := hw _ hm
  simp [Lit.wf, IntKind.min, IntKind.max, IntKind.signed, IntKind.bits] at h
  rw [vals_get]
  simp only [asBytes, List.getElem?_map, List.getElem?_eq_getElem hi, Option.map_some, List.getD_eq_getElem?_getD, Option.getD_some]
  congr 1
  unfold B
  congr 1
  rw [UInt8.toNat_ofNat']
  omega
theorem byteBytes : Tryd.prog.bytesOf 5 = 1 := by kernel_rfl
theorem strBytes : Tryd.prog.bytesOf 9 = 16 := by kernel_rfl
theorem fldBytes : Tryd.prog.bytesOf 32 = 32 := by kernel_rfl
theorem weights_part {H : Type} {t : TypeId} {d : DataW H} {l : List (DataW H)} (hd : d ∈ l) (h : (DataW.weightsAll Tryd.prog t l).all (· ≤ reachBytes) = true) : (d.weights Tryd.prog t).all (· ≤ reachBytes) = true := by
  induction l with
  | nil => cases hd
  | cons x r ih =>
    simp only [DataW.weightsAll, List.all_append, Bool.and_eq_true] at h
    rcases List.mem_cons.1 hd with rfl | e
    · exact h.1
    · exact ih e h.2
theorem weights_each {H : Type} {t : TypeId} {d : DataW H} {ts : List TypeId} {ds : List (DataW H)} (h : (DataW.weightsEach Tryd.prog ts ds).all (· ≤ reachBytes) = true) (j : Nat) (ht : ts[j]? = some t) (hd : ds[j]? = some d) : (d.weights Tryd.prog t).all (· ≤ reachBytes) = true := by
  rw [List.all_eq_true] at h ⊢
  exact fun n hn => h n (DataW.weights_mem_each ht hd n hn)

section
variable {H : Type} {enc : TypeId × Value → H} {W : World} {fuel : Nat}

theorem arg_bytes {cs : List Value} {x : DataW H × List MemPlace} (h : DataW.trod enc Tryd.prog W 0 (fun _ => true) true fuel 44 cs = some x) :
    ∃ (A : Option Addr) (bs : List UInt8) (n c : Nat), bs.length = n ∧ cs = [.slice A n c] ∧ n ≤ c ∧ Src W (fun _ => True) A bs ∧ ((x.1.weights Tryd.prog 44).all (· ≤ reachBytes) = true → n ≤ 140737488351232) ∧ n + 1 ≤ Rows.uptoBulk x.1 := by
  rcases open_ints Tryd.underlying44 Tryd.underlying5 (by kernel_rfl) h with ⟨hcs, hx⟩ | ⟨a, len, cap, zs, hcs, _, hl, hm, hz, hx, hcell, hwz⟩
  · subst hx
    exact ⟨none, [], 0, 0, rfl, hcs, Nat.le_refl _, fun h => absurd h (by simp), fun _ => by omega, by simp [Rows.uptoBulk]⟩
  · simp only [if_true] at hz
    subst hx
    have hlen : (asBytes (zs.take len)).length = len := by simp [asBytes]; omega
    refine ⟨some a, asBytes (zs.take len), len, cap, hlen, hcs, by omega, fun h0 => ?_, fun hw => ?_, ?_⟩
    · have hb := block_lt_of_cell (hcell 0 (by omega))
      have hab : a.block < W.heap.size := by
        have e : (a.add 0).block = a.block := by unfold Addr.add; split <;> rfl
        rwa [e] at hb
      refine ⟨a, rfl, trivial, hab, fun i v hv => ?_⟩
      have hi : i < (zs.take len).length := by
        have := (List.getElem?_eq_some_iff.1 hv).1
        rw [vals_length, hlen] at this
        simp; omega
      rw [asBytes_get _ i hi (fun n hn => hwz n (List.mem_of_mem_take hn))] at hv
      rw [hcell i (by simp at hi; omega), ← hv]
      have hi' : i < len := by simp at hi; omega
      simp [List.getD_eq_getElem?_getD, hi']
    · simp only [DataW.weights, Tryd.underlying44, List.all_cons, Bool.and_eq_true, decide_eq_true_eq, byteBytes, lits, List.length_map, List.length_take, List.length_drop, show reachBytes = 140737488351232 from rfl] at hw
      have := hw.1
      omega
    · simp only [Rows.uptoBulk, bulk_litsZ, List.length_take, List.length_drop]
      omega

theorem arg_strs {cs : List Value} {x : DataW H × List MemPlace} (h : DataW.trod enc Tryd.prog W 0 (fun _ => true) true fuel 23 cs = some x) :
    ∃ (A : Option Addr) (ls : List (List UInt8)) (n c : Nat), ls.length = n ∧ cs = [.slice A n c] ∧ SrcS W (fun _ => True) A ls ∧ ((x.1.weights Tryd.prog 23).all (· ≤ reachBytes) = true → n * 16 ≤ 140737488351232 ∧ SlimS ls) := by
  rcases open_strings Tryd.underlying23 Tryd.underlying9 (by kernel_rfl) h with ⟨hcs, hx⟩ | ⟨a, len, cap, ss, hcs, _, hl, hm, hz, hx, hcell, hwz⟩
  · exact ⟨none, [], 0, 0, rfl, hcs, fun h => absurd h (by simp), fun _ => ⟨by omega, fun _ h => by cases h⟩⟩
  · simp only [if_true] at hz
    subst hx
    have hlen : ((ss.take len).map bl).length = len := by simp; omega
    refine ⟨some a, (ss.take len).map bl, len, cap, hlen, hcs, fun h0 => ?_, fun hw => ?_⟩
    · have hb := block_lt_of_cell (hcell 0 (by omega))
      have hab : a.block < W.heap.size := by
        have e : (a.add 0).block = a.block := by unfold Addr.add; split <;> rfl
        rwa [e] at hb
      refine ⟨a, rfl, trivial, hab, fun i l hl' => ?_⟩
      rw [List.getElem?_map, Option.map_eq_some_iff] at hl'
      obtain ⟨s, hs, rfl⟩ := hl'
      rw [List.getElem?_take] at hs
      split at hs
      · have hi : i < ss.length := (List.getElem?_eq_some_iff.1 hs).1
        rw [hcell i hi, List.getD_eq_getElem?_getD, hs]
        unfold strV
        rw [mk_bl]
        rfl
      · cases hs
    · simp only [DataW.weights, Tryd.underlying23, List.all_cons, List.all_append, Bool.and_eq_true, decide_eq_true_eq, strBytes, ChangeShapes.strs, List.length_map, List.length_take, List.length_drop, show reachBytes = 140737488351232 from rfl] at hw
      obtain ⟨h1, h2, _⟩ := hw
      refine ⟨by omega, fun l hl' => ?_⟩
      obtain ⟨s, hs, rfl⟩ := List.mem_map.1 hl'
      have := weights_part (t := 9) (List.mem_map.2 ⟨s, hs, rfl⟩) h2
      simp only [DataW.weights, List.all_cons, List.all_nil, Bool.and_true, decide_eq_true_eq, show reachBytes = 140737488351232 from rfl] at this
      exact this

def strB : Value → List UInt8 | .string s => bl s | _ => []
theorem arg_flds {cs : List Value} {x : DataW H × List MemPlace} (h : DataW.trod enc Tryd.prog W 0 (fun _ => true) true fuel 22 cs = some x) :
    ∃ (A : Option Addr) (ls : List Fld) (n c : Nat), ls.length = n ∧ cs = [.slice A n c] ∧ SrcF W (fun _ => True) A ls ∧ ((x.1.weights Tryd.prog 22).all (· ≤ reachBytes) = true → n * 32 ≤ 140737488351232 ∧ Slim ls) := by
  rcases open_slice_pairs Tryd.underlying22 Tryd.underlying32 (by kernel_rfl) rfl rfl (by kernel_rfl) (by kernel_rfl) h with ⟨hcs, hx⟩ | ⟨a, len, cap, m, n, V0, V1, D0, D1, P0, P1, hcs, _, hl, hm, hmm, hx, hat⟩
  · exact ⟨none, [], 0, 0, rfl, hcs, fun h => absurd h (by simp), fun _ => ⟨by omega, fun _ h => by cases h⟩⟩
  · simp only [if_true] at hmm
    subst hmm hx
    have hstr : ∀ i, i < len → (∃ s : ByteArray, V0 i = .string s ∧ D0 i = .lit (.string s.data.toList)) ∧ (∃ s : ByteArray, V1 i = .string s ∧ D1 i = .lit (.string s.data.toList)) := fun i hi => by
      obtain ⟨_, _, h0, h1⟩ := hat i (by omega)
      obtain ⟨s0, e0, y0, _⟩ := DataW.trod_string Tryd.underlying9 h0
      obtain ⟨s1, e1, y1, _⟩ := DataW.trod_string Tryd.underlying9 h1
      simp only [List.cons.injEq, and_true, Prod.mk.injEq] at e0 e1 y0 y1
      exact ⟨⟨s0, e0, y0.1⟩, ⟨s1, e1, y1.1⟩⟩
    have hlen : ((List.range len).map fun i => (strB (V0 i), strB (V1 i))).length = len := by simp
    refine ⟨some a, (List.range len).map fun i => (strB (V0 i), strB (V1 i)), len, _, hlen, hcs, fun h0 => ?_, fun hw => ?_⟩
    · have hb := block_lt_of_cell (hat 0 (by omega)).1
      have hab : a.block < W.heap.size := by
        have e : (a.add (0 * 2)).block = a.block := by unfold Addr.add; split <;> rfl
        rwa [e] at hb
      refine ⟨a, rfl, trivial, hab, fun i f hf => ?_⟩
      rw [List.getElem?_map, Option.map_eq_some_iff] at hf
      obtain ⟨j, hj, rfl⟩ := hf
      obtain ⟨hi, rfl⟩ := List.getElem?_eq_some_iff.1 hj
      rw [List.getElem_range]
      have hi' : i < len := by simpa using hi
      obtain ⟨⟨s0, e0, _⟩, ⟨s1, e1, _⟩⟩ := hstr i hi'
      obtain ⟨c0, c1, _⟩ := hat i (by omega)
      rw [c0, c1, e0, e1]
      unfold strV strB
      simp only
      rw [mk_bl, mk_bl]
      exact ⟨rfl, rfl⟩
    · simp only [DataW.weights, Tryd.underlying22, List.all_cons, List.all_append, Bool.and_eq_true, decide_eq_true_eq, fldBytes, List.length_map, List.length_range, show reachBytes = 140737488351232 from rfl] at hw
      obtain ⟨h1, h2, _⟩ := hw
      refine ⟨by omega, fun f hf => ?_⟩
      obtain ⟨i, hi, rfl⟩ := List.mem_map.1 hf
      have hi' : i < len := by simpa using hi
      have hp := weights_part (t := 32) (List.mem_map.2 ⟨i, hi, rfl⟩) h2
      obtain ⟨⟨s0, e0, d0⟩, ⟨s1, e1, d1⟩⟩ := hstr i hi'
      rw [d0, d1] at hp
      simp only [DataW.weights, Tryd.underlying32, List.map_cons, List.map_nil, DataW.weightsEach, List.all_append, List.all_cons, List.all_nil, Bool.and_true, Bool.and_eq_true, decide_eq_true_eq, show reachBytes = 140737488351232 from rfl] at hp
      rw [e0, e1]
      exact hp
end
end Go.Proofs.YtbkpiadbgpnhlaaDoor
