/-
  Slices of fields (a name and a value each): words.
  Conditions: those that each theorem names.
-/
import Derived.Test.YtbkpiadbgpnhlaaDoorRS
import Derived.Test.YtbkpiadbgpnhlaaDoorPA
import Derived.Lib.AtoiErrMem
namespace Go.Proofs.YtbkpiadbgpnhlaaDoor
open Go.RowKit

/-- A field: its name and its value. -/
abbrev Fld := List UInt8 × List UInt8
def fldV (f : Fld) : Value := .agg #[strV f.1, strV f.2]
def flds (ls : List Fld) : List Value := ls.flatMap fun f => [strV f.1, strV f.2]
theorem flds_length (ls : List Fld) : (flds ls).length = ls.length * 2 := by
  induction ls with
  | nil => rfl
  | cons f r ih =>
    show ([strV f.1, strV f.2] ++ flds r).length = _
    rw [List.length_append, ih, List.length_cons]
    simp
    omega
theorem flds_append (a b : List Fld) : flds (a ++ b) = flds a ++ flds b := by simp [flds]
theorem flds_get : ∀ (ls : List Fld) (i : Nat) (f : Fld), ls[i]? = some f → (flds ls)[i * 2]? = some (strV f.1) ∧ (flds ls)[i * 2 + 1]? = some (strV f.2)
  | [], i, f, h => by simp at h
  | g :: r, 0, f, h => by
    simp only [List.getElem?_cons_zero, Option.some.injEq] at h
    subst h
    exact ⟨rfl, rfl⟩
  | g :: r, i + 1, f, h => by
    have := flds_get r i f (by simpa using h)
    have e1 : (i + 1) * 2 = i * 2 + 1 + 1 := by omega
    show (strV g.1 :: strV g.2 :: flds r)[(i + 1) * 2]? = _ ∧ (strV g.1 :: strV g.2 :: flds r)[(i + 1) * 2 + 1]? = _
    rw [e1]
    simpa using this

/-- The slice value v is the call's own, at block o (none: nil), and has the fields ls. -/
def OwnF (w : World) (v : Value) (o : Option Nat) (ls : List Fld) : Prop := w.ownsRow 0 32 2 v ls.length (flds ls) ∧ v.ownBlock = o
/-- A slice value's address reads the fields ls, and lies in a block of which P holds. -/
def SrcF (w : World) (P : Nat → Prop) (A : Option Addr) (ls : List Fld) : Prop :=
  0 < ls.length → ∃ ad : Addr, A = some ad ∧ P ad.block ∧ ad.block < w.heap.size ∧ ∀ i f, ls[i]? = some f → w.cell? (ad.add (i * 2)) = some (strV f.1) ∧ w.cell? (ad.add (i * 2 + 1)) = some (strV f.2)
theorem SrcF.below {w w' : World} {P : Nat → Prop} {A : Option Addr} {ls : List Fld} (h : SrcF w P A ls) (hb : Below w.heap.size w w') : SrcF w' P A ls := fun h0 => by
  obtain ⟨ad, h1, h2, h3, h4⟩ := h h0
  refine ⟨ad, h1, h2, Nat.lt_of_lt_of_le h3 hb.size, fun i f hf => ?_⟩
  obtain ⟨c1, c2⟩ := h4 i f hf
  exact ⟨(hb.cell (Lib.lt_of_cell c1)).trans c1, (hb.cell (Lib.lt_of_cell c2)).trans c2⟩
theorem OwnF.nil (w : World) : OwnF w (.slice none 0 0) none [] := ⟨⟨by simp [flds], .inl ⟨rfl, rfl⟩⟩, rfl⟩
theorem OwnF.kept {w w' : World} {v : Value} {o : Option Nat} {ls : List Fld} {S : Nat → Prop} (h : OwnF w v o ls) (ht : Turn S w w') (hS : ∀ k, o = some k → ¬ S k) : OwnF w' v o ls := by
  obtain ⟨⟨h1, h2⟩, h3⟩ := h
  refine ⟨⟨h1, ?_⟩, h3⟩
  rcases h2 with h2 | ⟨g, cap, cur, hv, hg, hh, r⟩
  · exact .inl h2
  · refine .inr ⟨g, cap, cur, hv, hg, ?_, r⟩
    have hlt : g < w.heap.size := (Array.getElem?_eq_some_iff.1 hh).1
    rw [ht.block g hlt (hS g (by rw [← h3, hv]; rfl))]
    exact hh
theorem OwnF.src {w : World} {v : Value} {o : Option Nat} {ls : List Fld} (h : OwnF w v o ls) (P : Nat → Prop) (hP : ∀ k, o = some k → P k) : ∃ A c, v = .slice A ls.length c ∧ SrcF w P A ls := by
  obtain ⟨⟨h1, h2⟩, h3⟩ := h
  rcases h2 with ⟨hv, hn⟩ | ⟨g, cap, cur, hv, hg, hh, hnc, _, hsz, htk⟩
  · refine ⟨none, 0, by rw [hv, hn], fun h => ?_⟩
    omega
  · refine ⟨some ⟨g, 0, none⟩, cap, hv, fun _ => ⟨_, rfl, hP g (by rw [← h3, hv]; rfl), (Array.getElem?_eq_some_iff.1 hh).1, fun i f hf => ?_⟩⟩
    have cell : ∀ j u, (flds ls)[j]? = some u → w.cell? ((⟨g, 0, none⟩ : Addr).add j) = some u := fun j u hu => by
      rw [add_at, Nat.zero_add, cell_of_row w g j cur 32 (0, 0) hh, ← Array.getElem?_toList]
      rw [← htk, List.getElem?_take] at hu
      split at hu
      · exact hu
      · cases hu
    obtain ⟨c1, c2⟩ := flds_get ls i f hf
    exact ⟨cell _ _ c1, cell _ _ c2⟩
theorem fldInfo : (Tryd.prog.info? 32).map (fun i => (i.zero, i.size, i.bytes)) = some (some (.agg #[.string ⟨#[]⟩, .string ⟨#[]⟩]), 2, 32) := by kernel_rfl
theorem fldSize : (Tryd.prog.info? 32).map (·.size) = some 2 := by kernel_rfl
theorem fldParts : ∃ i, Tryd.prog.info? 32 = some i ∧ i.zero = some (.agg #[.string ⟨#[]⟩, .string ⟨#[]⟩]) ∧ i.size = 2 ∧ i.bytes = 32 := by
  obtain ⟨i, hi, h⟩ := Option.map_eq_some_iff.1 fldInfo
  simp only [Prod.mk.injEq] at h
  exact ⟨i, hi, h.1, h.2.1, h.2.2⟩
/-- &s[k] where elements take so many cells. -/
theorem run_at_size (t e : TypeId) (sz : Nat) (ht : Tryd.prog.underlying t = some (.slice e)) (hsz : (Tryd.prog.info? e).map (·.size) = some sz) (a : Addr) (n c k : Nat) (hk : k < n) (W : World) :
    (Instr.indexAt t (.slice (some a) n c) (.int .i64 (k : Int))).run Tryd.prog W = .ok (.pointer (some (a.add (k * sz)))) W := by
  obtain ⟨i, hi, hs⟩ := Option.map_eq_some_iff.1 hsz
  have h2 : ¬ n ≤ k := by omega
  simp [Instr.indexAt, run_underlying ht, asIntOf, h2, sizeOf, typeInfo, hi, hs]
/-- append(v, x), the field x laid down in a block of its own. -/
theorem run_push_fld (w : World) (v : Value) (o : Option Nat) (ls : List Fld) (x : Fld) (h : OwnF w v o ls) (hlen : (ls.length + 1) * 32 ≤ 140737488355328) :
    ∃ (v' : Value) (w' : World) (o' : Option Nat), (Builtin.append_ #[22, 22] 22 #[v, .slice (some ⟨w.heap.size, 0, none⟩) 1 1]).run Tryd.prog (w.alloc (.cells #[.string ⟨x.1.toArray⟩, .string ⟨x.2.toArray⟩] 32)) = .ok v' w' ∧ OwnF w' v' o' (ls ++ [x]) ∧
      Turn (fun k => o = some k) w w' ∧ (∀ k, o' = some k → o = some k ∨ w.heap.size ≤ k) := by
  have t0 : Turn (fun _ => False) w (w.alloc (.cells #[.string ⟨x.1.toArray⟩, .string ⟨x.2.toArray⟩] 32)) := (Turn.refl _ _).alloc _
  have hi : Is (w.alloc (.cells #[.string ⟨x.1.toArray⟩, .string ⟨x.2.toArray⟩] 32)) w.heap.size 32 [strV x.1, strV x.2] := Is.made w 32 [strV x.1, strV x.2]
  obtain ⟨i, hin, hz, hsz, hby⟩ := fldParts
  obtain ⟨hown, ho⟩ := h.kept t0 (fun _ _ h => h)
  obtain ⟨v', w', hrun, h2, h3, _, h5⟩ := run_append_own_at (P := Tryd.prog) (w.alloc (.cells #[.string ⟨x.1.toArray⟩, .string ⟨x.2.toArray⟩] 32)) 0 22 22 32 i (.agg #[.string ⟨#[]⟩, .string ⟨#[]⟩]) 2 32 Tryd.underlying22 hin hz hsz hby rfl (by omega) v ls.length (flds ls) hown ⟨w.heap.size, 0, none⟩ 1 1 [strV x.1, strV x.2]
    rfl (fun j u hu => by rw [add_at, Nat.zero_add, hi.cell]; exact hu) (fun u hu => by simp at hu; rcases hu with rfl | rfl <;> rfl) (by simp only [maxLen]; omega) hlen (Nat.zero_le _)
  refine ⟨v', w', v'.ownBlock, hrun, ⟨?_, rfl⟩, (t0.mono (fun _ _ h => h.elim)).trans (Turn.of_grown (S := fun k => o = some k) h3 (fun k hk => by rw [← ho]; exact hk)) (fun _ _ h => h), fun k hk => ?_⟩
  · rw [List.length_append, flds_append]
    exact h2
  · rcases h5 with h | h
    · left; rw [← ho, ← h, hk]
    · right
      rw [h] at hk
      injection hk with hk
      simp at hk
      omega
end Go.Proofs.YtbkpiadbgpnhlaaDoor
