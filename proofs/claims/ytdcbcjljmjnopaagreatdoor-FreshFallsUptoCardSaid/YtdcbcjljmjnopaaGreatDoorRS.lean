/-
  Slices of texts; what the reference's Equal answers.
  Conditions: those that each theorem names.
-/
import Derived.Test.YtdcbcjljmjnopaaGreatDoorRC
namespace Go.Proofs.YtdcbcjljmjnopaaGreatDoor
open Go.RowKit

def strV (l : List UInt8) : Value := .string ⟨l.toArray⟩
def strs (ls : List (List UInt8)) : List Value := ls.map strV
theorem strs_length (ls : List (List UInt8)) : (strs ls).length = ls.length := by simp [strs]
theorem strs_one (ls : List (List UInt8)) : ∀ v ∈ strs ls, v.oneCell' = true := by
  intro v hv
  obtain ⟨c, _, rfl⟩ := List.mem_map.1 hv
  rfl

/-- The slice value v is the call's own, at block o (none: nil), and has the texts ls. -/
def OwnS (w : World) (v : Value) (o : Option Nat) (ls : List (List UInt8)) : Prop := w.ownsRow 0 9 1 v ls.length (strs ls) ∧ v.ownBlock = o
/-- A slice value's address reads the texts ls, and lies in a block of which P holds. -/
def SrcS (w : World) (P : Nat → Prop) (A : Option Addr) (ls : List (List UInt8)) : Prop :=
  0 < ls.length → ∃ ad : Addr, A = some ad ∧ P ad.block ∧ ad.block < w.heap.size ∧ ∀ i l, ls[i]? = some l → w.cell? (ad.add i) = some (strV l)

theorem OwnS.nil (w : World) : OwnS w (.slice none 0 0) none [] := ⟨⟨by simp [strs], .inl ⟨rfl, rfl⟩⟩, rfl⟩
theorem OwnS.kept {w w' : World} {v : Value} {o : Option Nat} {ls : List (List UInt8)} {S : Nat → Prop} (h : OwnS w v o ls) (ht : Turn S w w') (hS : ∀ k, o = some k → ¬ S k) : OwnS w' v o ls := by
  obtain ⟨⟨h1, h2⟩, h3⟩ := h
  refine ⟨⟨h1, ?_⟩, h3⟩
  rcases h2 with h2 | ⟨g, cap, cur, hv, hg, hh, r⟩
  · exact .inl h2
  · refine .inr ⟨g, cap, cur, hv, hg, ?_, r⟩
    have hlt : g < w.heap.size := (Array.getElem?_eq_some_iff.1 hh).1
    rw [ht.block g hlt (hS g (by rw [← h3, hv]; rfl))]
    exact hh
theorem OwnS.src {w : World} {v : Value} {o : Option Nat} {ls : List (List UInt8)} (h : OwnS w v o ls) (P : Nat → Prop) (hP : ∀ k, o = some k → P k) : ∃ A c, v = .slice A ls.length c ∧ SrcS w P A ls := by
  obtain ⟨⟨h1, h2⟩, h3⟩ := h
  rcases h2 with ⟨hv, hn⟩ | ⟨g, cap, cur, hv, hg, hh, hnc, _, hsz, htk⟩
  · refine ⟨none, 0, by rw [hv, hn], fun h => ?_⟩
    omega
  · refine ⟨some ⟨g, 0, none⟩, cap, hv, fun _ => ⟨_, rfl, hP g (by rw [← h3, hv]; rfl), (Array.getElem?_eq_some_iff.1 hh).1, fun i l hl => ?_⟩⟩
    rw [add_at, Nat.zero_add, cell_of_row w g i cur 9 (0, 0) hh, ← Array.getElem?_toList]
    have hu : (strs ls)[i]? = some (strV l) := by simp [strs, hl]
    rw [← htk, List.getElem?_take] at hu
    split at hu
    · exact hu
    · cases hu

theorem strInfo : (Tryz.prog.info? 9).map (fun i => (i.zero, i.size, i.bytes)) = some (some (.string ⟨#[]⟩), 1, 16) := by kernel_rfl
theorem strSize : (Tryz.prog.info? 9).map (·.size) = some 1 := by kernel_rfl
theorem strParts : ∃ i, Tryz.prog.info? 9 = some i ∧ i.zero = some (.string ⟨#[]⟩) ∧ i.size = 1 ∧ i.bytes = 16 := by
  obtain ⟨i, hi, h⟩ := Option.map_eq_some_iff.1 strInfo
  simp only [Prod.mk.injEq] at h
  exact ⟨i, hi, h.1, h.2.1, h.2.2⟩

/-- append(v, x), x laid down in a block of one cell. -/
theorem run_push_str (w : World) (v : Value) (o : Option Nat) (ls : List (List UInt8)) (x : List UInt8) (h : OwnS w v o ls) (hlen : (ls.length + 1) * 16 ≤ 140737488355328) :
    ∃ (v' : Value) (w' : World) (o' : Option Nat), (Builtin.append_ #[48, 48] 48 #[v, .slice (some ⟨w.heap.size, 0, none⟩) 1 1]).run Tryz.prog (w.alloc (.cells #[.string ⟨x.toArray⟩] 9)) = .ok v' w' ∧ OwnS w' v' o' (ls ++ [x]) ∧
      Turn (fun k => o = some k) w w' ∧ (∀ k, o' = some k → o = some k ∨ w.heap.size ≤ k) := by
  have t0 : Turn (fun _ => False) w (w.alloc (.cells #[.string ⟨x.toArray⟩] 9)) := (Turn.refl _ _).alloc _
  have hi : Is (w.alloc (.cells #[.string ⟨x.toArray⟩] 9)) w.heap.size 9 [strV x] := Is.made w 9 [strV x]
  obtain ⟨i, hin, hz, hsz, hby⟩ := strParts
  obtain ⟨hown, ho⟩ := h.kept t0 (fun _ _ h => h)
  obtain ⟨v', w', hrun, h2, h3, _, h5⟩ := run_append_own_at (P := Tryz.prog) (w.alloc (.cells #[.string ⟨x.toArray⟩] 9)) 0 48 48 9 i (.string ⟨#[]⟩) 1 16 Tryz.underlying48 hin hz hsz hby rfl (by omega) v ls.length (strs ls) hown ⟨w.heap.size, 0, none⟩ 1 1 [strV x]
    rfl (fun j u hu => by rw [add_at, Nat.zero_add, hi.cell]; exact hu) (fun u hu => by simp at hu; subst hu; rfl) (by simp only [maxLen]; omega) (by omega) (Nat.zero_le _)
  refine ⟨v', w', v'.ownBlock, hrun, ⟨?_, rfl⟩, (t0.mono (fun _ _ h => h.elim)).trans (Turn.of_grown (S := fun k => o = some k) h3 (fun k hk => by rw [← ho]; exact hk)) (fun _ _ h => h), fun k hk => ?_⟩
  · rw [List.length_append, strs, List.map_append]
    exact h2
  · rcases h5 with h | h
    · left; rw [← ho, ← h, hk]
    · right
      rw [h] at hk
      injection hk with hk
      simp at hk
      omega

theorem Quiet.more {a b c : World} (h : Quiet a b) (h' : Quiet b c) : Quiet a c := by
  obtain ⟨n, rfl⟩ := h
  obtain ⟨k, rfl⟩ := h'
  exact ⟨n + k, by rw [World.drewN_drewN]⟩

end Go.Proofs.YtdcbcjljmjnopaaGreatDoor
