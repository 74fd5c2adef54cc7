/-
  What the reference's Get answers.
  Conditions: those that each theorem names.
-/
import Derived.Test.YtdcbcjljmjnopaaGreatDoorRS
import Derived.Test.YtdcbcjljmjnopaaGreatDoorPA
import Derived.Lib.AtoiErrMem
import Derived.Deep.RegionHeld3
import Derived.WalkSmall
import Derived.IntWalk
import Derived.Laws.StructEq
namespace Go.Proofs.YtdcbcjljmjnopaaGreatDoor
open Go.RowKit

/-- A field: its name and its value. -/
abbrev Fld := List UInt8 × List UInt8
def fldV (f : Fld) : Value := .agg #[strV f.1, strV f.2]
def flds (ls : List Fld) : List Value := ls.flatMap fun f => [strV f.1, strV f.2]
theorem flds_length (ls : List Fld) : (flds ls).length = ls.length * 2 := by
  induction ls with
  | nil => rfl
  | cons f r ih =>
    show ([strV f.1, strV f.2] ++ flds r).length = _
    rw [List.length_append, ih, List.length_cons]
    simp
    omega
theorem flds_append (a b : List Fld) : flds (a ++ b) = flds a ++ flds b := by simp [flds]
theorem flds_get : ∀ (ls : List Fld) (i : Nat) (f : Fld), ls[i]? = some f → (flds ls)[i * 2]? = some (strV f.1) ∧ (flds ls)[i * 2 + 1]? = some (strV f.2)
  | [], i, f, h => by simp at h
  | g :: r, 0, f, h => by
    simp only [List.getElem?_cons_zero, Option.some.injEq] at h
    subst h
    exact ⟨rfl, rfl⟩
  | g :: r, i + 1, f, h => by
    have := flds_get r i f (by simpa using h)
    have e1 : (i + 1) * 2 = i * 2 + 1 + 1 := by omega
    show (strV g.1 :: strV g.2 :: flds r)[(i + 1) * 2]? = _ ∧ (strV g.1 :: strV g.2 :: flds r)[(i + 1) * 2 + 1]? = _
    rw [e1]
    simpa using this

/-- The slice value v is the call's own, at block o (none: nil), and has the fields ls. -/
def OwnF (w : World) (v : Value) (o : Option Nat) (ls : List Fld) : Prop := w.ownsRow 0 42 2 v ls.length (flds ls) ∧ v.ownBlock = o
/-- A slice value's address reads the fields ls, and lies in a block of which P holds. -/
def SrcF (w : World) (P : Nat → Prop) (A : Option Addr) (ls : List Fld) : Prop :=
  0 < ls.length → ∃ ad : Addr, A = some ad ∧ P ad.block ∧ ad.block < w.heap.size ∧ ∀ i f, ls[i]? = some f → w.cell? (ad.add (i * 2)) = some (strV f.1) ∧ w.cell? (ad.add (i * 2 + 1)) = some (strV f.2)
theorem SrcF.below {w w' : World} {P : Nat → Prop} {A : Option Addr} {ls : List Fld} (h : SrcF w P A ls) (hb : Below w.heap.size w w') : SrcF w' P A ls := fun h0 => by
  obtain ⟨ad, h1, h2, h3, h4⟩ := h h0
  refine ⟨ad, h1, h2, Nat.lt_of_lt_of_le h3 hb.size, fun i f hf => ?_⟩
  obtain ⟨c1, c2⟩ := h4 i f hf
  exact ⟨(hb.cell (Lib.lt_of_cell c1)).trans c1, (hb.cell (Lib.lt_of_cell c2)).trans c2⟩
theorem OwnF.nil (w : World) : OwnF w (.slice none 0 0) none [] := ⟨⟨by simp [flds], .inl ⟨rfl, rfl⟩⟩, rfl⟩
theorem OwnF.kept {w w' : World} {v : Value} {o : Option Nat} {ls : List Fld} {S : Nat → Prop} (h : OwnF w v o ls) (ht : Turn S w w') (hS : ∀ k, o = some k → ¬ S k) : OwnF w' v o ls := by
  obtain ⟨⟨h1, h2⟩, h3⟩ := h
  refine ⟨⟨h1, ?_⟩, h3⟩
  rcases h2 with h2 | ⟨g, cap, cur, hv, hg, hh, r⟩
  · exact .inl h2
  · refine .inr ⟨g, cap, cur, hv, hg, ?_, r⟩
    have hlt : g < w.heap.size := (Array.getElem?_eq_some_iff.1 hh).1
    rw [ht.block g hlt (hS g (by rw [← h3, hv]; rfl))]
    exact hh
theorem OwnF.src {w : World} {v : Value} {o : Option Nat} {ls : List Fld} (h : OwnF w v o ls) (P : Nat → Prop) (hP : ∀ k, o = some k → P k) : ∃ A c, v = .slice A ls.length c ∧ SrcF w P A ls := by
  obtain ⟨⟨h1, h2⟩, h3⟩ := h
  rcases h2 with ⟨hv, hn⟩ | ⟨g, cap, cur, hv, hg, hh, hnc, _, hsz, htk⟩
  · refine ⟨none, 0, by rw [hv, hn], fun h => ?_⟩
    omega
  · refine ⟨some ⟨g, 0, none⟩, cap, hv, fun _ => ⟨_, rfl, hP g (by rw [← h3, hv]; rfl), (Array.getElem?_eq_some_iff.1 hh).1, fun i f hf => ?_⟩⟩
    have cell : ∀ j u, (flds ls)[j]? = some u → w.cell? ((⟨g, 0, none⟩ : Addr).add j) = some u := fun j u hu => by
      rw [add_at, Nat.zero_add, cell_of_row w g j cur 42 (0, 0) hh, ← Array.getElem?_toList]
      rw [← htk, List.getElem?_take] at hu
      split at hu
      · exact hu
      · cases hu
    obtain ⟨c1, c2⟩ := flds_get ls i f hf
    exact ⟨cell _ _ c1, cell _ _ c2⟩
theorem fldInfo : (Tryz.prog.info? 42).map (fun i => (i.zero, i.size, i.bytes)) = some (some (.agg #[.string ⟨#[]⟩, .string ⟨#[]⟩]), 2, 32) := by kernel_rfl
theorem fldSize : (Tryz.prog.info? 42).map (·.size) = some 2 := by kernel_rfl
theorem fldParts : ∃ i, Tryz.prog.info? 42 = some i ∧ i.zero = some (.agg #[.string ⟨#[]⟩, .string ⟨#[]⟩]) ∧ i.size = 2 ∧ i.bytes = 32 := by
  obtain ⟨i, hi, h⟩ := Option.map_eq_some_iff.1 fldInfo
  simp only [Prod.mk.injEq] at h
  exact ⟨i, hi, h.1, h.2.1, h.2.2⟩
/-- &s[k] where elements take so many cells. -/
theorem run_at_size (t e : TypeId) (sz : Nat) (ht : Tryz.prog.underlying t = some (.slice e)) (hsz : (Tryz.prog.info? e).map (·.size) = some sz) (a : Addr) (n c k : Nat) (hk : k < n) (W : World) :
    (Instr.indexAt t (.slice (some a) n c) (.int .i64 (k : Int))).run Tryz.prog W = .ok (.pointer (some (a.add (k * sz)))) W := by
  obtain ⟨i, hi, hs⟩ := Option.map_eq_some_iff.1 hsz
  have h2 : ¬ n ≤ k := by omega
  simp [Instr.indexAt, run_underlying ht, asIntOf, h2, sizeOf, typeInfo, hi, hs]
/-- append(v, x), the field x laid down in a block of its own. -/
theorem run_push_fld (w : World) (v : Value) (o : Option Nat) (ls : List Fld) (x : Fld) (h : OwnF w v o ls) (hlen : (ls.length + 1) * 32 ≤ 140737488355328) :
    ∃ (v' : Value) (w' : World) (o' : Option Nat), (Builtin.append_ #[23, 23] 23 #[v, .slice (some ⟨w.heap.size, 0, none⟩) 1 1]).run Tryz.prog (w.alloc (.cells #[.string ⟨x.1.toArray⟩, .string ⟨x.2.toArray⟩] 42)) = .ok v' w' ∧ OwnF w' v' o' (ls ++ [x]) ∧
      Turn (fun k => o = some k) w w' ∧ (∀ k, o' = some k → o = some k ∨ w.heap.size ≤ k) := by
  have t0 : Turn (fun _ => False) w (w.alloc (.cells #[.string ⟨x.1.toArray⟩, .string ⟨x.2.toArray⟩] 42)) := (Turn.refl _ _).alloc _
  have hi : Is (w.alloc (.cells #[.string ⟨x.1.toArray⟩, .string ⟨x.2.toArray⟩] 42)) w.heap.size 42 [strV x.1, strV x.2] := Is.made w 42 [strV x.1, strV x.2]
  obtain ⟨i, hin, hz, hsz, hby⟩ := fldParts
  obtain ⟨hown, ho⟩ := h.kept t0 (fun _ _ h => h)
  obtain ⟨v', w', hrun, h2, h3, _, h5⟩ := run_append_own_at (P := Tryz.prog) (w.alloc (.cells #[.string ⟨x.1.toArray⟩, .string ⟨x.2.toArray⟩] 42)) 0 23 23 42 i (.agg #[.string ⟨#[]⟩, .string ⟨#[]⟩]) 2 32 Tryz.underlying23 hin hz hsz hby rfl (by omega) v ls.length (flds ls) hown ⟨w.heap.size, 0, none⟩ 1 1 [strV x.1, strV x.2]
    rfl (fun j u hu => by rw [add_at, Nat.zero_add, hi.cell]; exact hu) (fun u hu => by simp at hu; rcases hu with rfl | rfl <;> rfl) (by simp only [maxLen]; omega) hlen (Nat.zero_le _)
  refine ⟨v', w', v'.ownBlock, hrun, ⟨?_, rfl⟩, (t0.mono (fun _ _ h => h.elim)).trans (Turn.of_grown (S := fun k => o = some k) h3 (fun k hk => by rw [← ho]; exact hk)) (fun _ _ h => h), fun k hk => ?_⟩
  · rw [List.length_append, flds_append]
    exact h2
  · rcases h5 with h | h
    · left; rw [← ho, ← h, hk]
    · right
      rw [h] at hk
      injection hk with hk
      simp at hk
      omega
end Go.Proofs.YtdcbcjljmjnopaaGreatDoor

namespace Go.Proofs.YtdcbcjljmjnopaaGreatDoor
open Go.RowKit

/-- The length of a field's plain line; whether it may be; the length of all. -/
def lineL (f : Fld) : Nat := f.1.length + 2 + f.2.length
def lineOk (f : Fld) : Bool := decide (lineL f ≤ 512) && (tokF f.1 && (visF f.2 && (trimF f.2 == f.2)))
def sumL (ls : List Fld) : Nat := 2 + (ls.map fun f => lineL f + 2).sum
def mayF (ls : List Fld) : Bool := decide (ls.length ≤ 32) && (ls.all lineOk && decide (sumL ls ≤ 2048))
/-- Texts that Go can hold. -/
def Slim (ls : List Fld) : Prop := ∀ f ∈ ls, f.1.length ≤ 140737488351232 ∧ f.2.length ≤ 140737488351232
theorem sumL_snoc (ls : List Fld) (f : Fld) : sumL (ls ++ [f]) = sumL ls + (lineL f + 2) := by
  simp [sumL]
  omega
theorem sumL_take (ls : List Fld) (k : Nat) : sumL (ls.take k) ≤ sumL ls := by
  have e : ls.map (fun f => lineL f + 2) = (ls.take k).map (fun f => lineL f + 2) ++ (ls.drop k).map (fun f => lineL f + 2) := by rw [← List.map_append, List.take_append_drop]
  unfold sumL
  rw [e, List.sum_append]
  omega
theorem take_snoc {α : Type} (ls : List α) (k : Nat) (f : α) (h : ls[k]? = some f) : ls.take (k + 1) = ls.take k ++ [f] := by
  rw [List.take_add_one, h]
  rfl
theorem may_line (ls : List Fld) (k : Nat) (f : Fld) (h : ls[k]? = some f) (hn : lineOk f = false) : mayF ls = false := by
  have : ls.all lineOk = false := by
    rw [← Bool.not_eq_true, List.all_eq_true]
    intro hall
    rw [hall f (List.mem_of_getElem? h)] at hn
    cases hn
  simp [mayF, this]
theorem may_sum (ls : List Fld) (k : Nat) (h : 2048 < sumL (ls.take k)) : mayF ls = false := by
  have := sumL_take ls k
  simp [mayF]
  intro _ _
  omega
theorem beq_no2 {t s : ByteArray} (h : ¬ t = s) : (t.toList == s.toList) = false := by
  rw [Lib.toList_data, Lib.toList_data]
  refine beq_false_of_ne fun e => h ?_
  rw [← mk_bl t, ← mk_bl s]
  unfold bl
  rw [e]
theorem still {f : FuncId} {args : Array Value} {v : Value} {X : World} (h : Calls Tryz.prog f args X fun e w' => e = .returned v ∧ X = w') : Calls Tryz.prog f args X fun e w' => e = .returned v ∧ w' = X :=
  h.mono fun _ _ h => ⟨h.1, h.2.symm⟩
theorem add_next (ad : Addr) (i : Nat) : (⟨(ad.add (i * 2)).block, (ad.add (i * 2)).off + 1, none⟩ : Addr) = ad.add (i * 2 + 1) := by
  unfold Addr.add
  rw [if_neg (show ¬ i * 2 + 1 = 0 by omega)]
  split
  · rename_i h
    rw [h]
  · rfl

end Go.Proofs.YtdcbcjljmjnopaaGreatDoor

namespace Go.Proofs.YtdcbcjljmjnopaaGreatDoor
open Go.RowKit

theorem fldGuard : Tryz.prog.eqGuardType Tryz.prog.depth 42 = false := by kernel_rfl
theorem fldStruct : Tryz.prog.underlying 42 = some (.struct (Tryz.prog.fieldsOf 42)) := by kernel_rfl
theorem fldHeld : Tryz.prog.stoodInHeld 42 = false := by kernel_rfl
theorem fldFields : ∃ f0 f1 : Field, (Tryz.prog.fieldsOf 42).toList = [f0, f1] ∧ f0.name ≠ "_" ∧ f1.name ≠ "_" ∧ f0.type = 9 ∧ f1.type = 9 ∧ f0.offset = 0 ∧ f1.offset = 1 := by
  have h : (Tryz.prog.fieldsOf 42).toList.map (fun f => (f.name, f.type, f.offset)) = [("Name", 9, 0), ("Value", 9, 1)] := by kernel_rfl
  generalize (Tryz.prog.fieldsOf 42).toList = l at *
  rcases l with _ | ⟨f0, _ | ⟨f1, _ | ⟨f2, r⟩⟩⟩
  · simp at h
  · simp at h
  · simp only [List.map_cons, List.map_nil, List.cons.injEq, Prod.mk.injEq, and_true] at h
    obtain ⟨⟨a, b, c⟩, d, e, f⟩ := h
    exact ⟨f0, f1, rfl, by rw [a]; decide, by rw [d]; decide, b, e, c, f⟩
  · simp at h
theorem part_str (xs : Array Value) (o : Nat) (s : ByteArray) (h : xs[o]? = some (.string s)) (W : World) : (part 9 xs o).run Tryz.prog W = .ok (.string s) W := by
  simp [part, isAgg, run_underlying Tryz.underlying9, h]
theorem run_neq_fld (a b c d : ByteArray) (W : World) : (binOp .neq 42 (.agg #[.string a, .string b]) (.agg #[.string c, .string d])).run Tryz.prog W = .ok (.bool (!(a.toList == c.toList && b.toList == d.toList))) W := by
  obtain ⟨f0, f1, hl, n0, n1, t0, t1, o0, o1⟩ := fldFields
  rw [run_neq_struct, run_equalIn_agg W 9999 _ _ _ fldStruct fldHeld, hl]
  simp only [Op.eqFields, n0, n1, ne_eq, not_false_eq_true, if_true, t0, t1, o0, o1, Sem.run_bind, Sem.run_ite, Sem.run_pure]
  rw [part_str _ 0 a rfl, Result.andThen_ok, part_str _ 0 c rfl, Result.andThen_ok, run_equalIn_string W 9998 _ a c Tryz.underlying9, Result.andThen_ok]
  cases hac : (a.toList == c.toList)
  · simp [Result.andThen]
  · rw [part_str _ 1 b rfl, Result.andThen_ok, part_str _ 1 d rfl, Result.andThen_ok, run_equalIn_string W 9998 _ b d Tryz.underlying9, Result.andThen_ok]
    cases hbd : (b.toList == d.toList) <;> simp [Result.andThen]

/-- What the k-th element of a list of fields reads, in any later world. -/
theorem SrcF.at {P : Nat → Prop} {w wr : World} {A : Option Addr} {ls : List Fld} {n c k : Nat} (h : SrcF w P A ls) (hn : ls.length = n) (hlt : k < n) (hB : Below w.heap.size w wr) :
    ∃ (p : Addr) (f : Fld), ls[k]? = some f ∧ (∀ Wx, (Instr.indexAt 23 (.slice A n c) (.int .i64 (k : Int))).run Tryz.prog Wx = .ok (.pointer (some p)) Wx) ∧
      wr.cell? p = some (.string ⟨f.1.toArray⟩) ∧ wr.cell? ⟨p.block, p.off + 1, none⟩ = some (.string ⟨f.2.toArray⟩) ∧ P p.block ∧ p.block < w.heap.size := by
  obtain ⟨ad, hA, hP, hadb, hc⟩ := h (by omega)
  obtain ⟨f, hf⟩ : ∃ f, ls[k]? = some f := ⟨ls[k]'(by omega), List.getElem?_eq_getElem _⟩
  obtain ⟨c1, c2⟩ := hc k f hf
  have hblk : (ad.add (k * 2)).block = ad.block := by unfold Addr.add; split <;> rfl
  refine ⟨ad.add (k * 2), f, hf, fun Wx => ?_, (hB.cell (Lib.lt_of_cell c1)).trans c1, ?_, by rw [hblk]; exact hP, by rw [hblk]; exact hadb⟩
  · rw [hA]
    exact run_at_size 23 42 2 Tryz.underlying23 fldSize ad n c k hlt Wx
  · rw [add_next]
    exact (hB.cell (Lib.lt_of_cell c2)).trans c2

end Go.Proofs.YtdcbcjljmjnopaaGreatDoor

namespace Go.Proofs.YtdcbcjljmjnopaaGreatDoor
open Go.RowKit

/-- The values of a name's fields. -/
def sameN (nm : List UInt8) (f : Fld) : Bool := lowF f.1 == lowF nm
def getF (ls : List Fld) (nm : List UInt8) : List (List UInt8) := (ls.filter (sameN nm)).map (·.2)
/-- Texts are told, in a slice of the call's own; nothing that was there has turned. -/
def GotS (ls : List (List UInt8)) (w : World) (e : Ending) (w' : World) : Prop := ∃ v o, e = .returned v ∧ OwnS w' v o ls ∧ (∀ b, o = some b → w.heap.size ≤ b) ∧ Below w.heap.size w w'
theorem getF_snoc (ls : List Fld) (f : Fld) (nm : List UInt8) : getF (ls ++ [f]) nm = getF ls nm ++ (if sameN nm f = true then [f.2] else []) := by
  unfold getF
  rw [List.filter_append, List.map_append]
  congr 1
  cases h : sameN nm f <;> simp [h]
theorem getF_length (ls : List Fld) (nm : List UInt8) : (getF ls nm).length ≤ ls.length := by
  unfold getF
  rw [List.length_map]
  exact List.length_filter_le _ _
theorem own_turn {W wr w' : World} {o o' : Option Nat} (hB : Below W.heap.size W wr) (ho : ∀ b, o = some b → W.heap.size ≤ b) (ht : Turn (fun b => o = some b) wr w') (ho' : ∀ b, o' = some b → o = some b ∨ wr.heap.size ≤ b) :
    Below W.heap.size W w' ∧ ∀ b, o' = some b → W.heap.size ≤ b := by
  have := hB.size
  refine ⟨hB.trans ⟨ht.os, ht.tape, ht.output, ht.size, fun b hb => ht.block b (by omega) (fun h => by have := ho b h; omega)⟩, fun b hb => ?_⟩
  rcases ho' b hb with h | h
  · exact ho b h
  · omega

end Go.Proofs.YtdcbcjljmjnopaaGreatDoor
