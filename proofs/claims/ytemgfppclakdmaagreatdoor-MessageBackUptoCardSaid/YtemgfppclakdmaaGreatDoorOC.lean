/-
  What MessageBack's drawn region asks: an append at any world, a response told in memory of its own.
  Conditions: those that each theorem names.
-/
import Derived.Test.YtemgfppclakdmaaGreatDoorMQ
namespace Go.Proofs.YtemgfppclakdmaaGreatDoor
open Go.RowKit

theorem srcf_imp {w : World} {P P' : Nat → Prop} {A : Option Addr} {ls : List Fld} (h : SrcF w P A ls) (hp : ∀ k, k < w.heap.size → P k → P' k) : SrcF w P' A ls := fun h0 => by
  obtain ⟨ad, h1, h2, h3, h4⟩ := h h0
  exact ⟨ad, h1, hp _ h3 h2, h3, h4⟩
theorem OwnF.cap3 {P : Nat → Prop} {w : World} {v : Value} {o : Option Nat} {ls : List Fld} (h : OwnF w v o ls) (hP : ∀ k, o = some k → P k) : ∃ A c, v = .slice A ls.length c ∧ ls.length ≤ c ∧ SrcF w P A ls := by
  obtain ⟨A, c, hv, hs⟩ := h.src P hP
  refine ⟨A, c, hv, ?_, hs⟩
  obtain ⟨⟨_, h2⟩, _⟩ := h
  rcases h2 with ⟨_, hn⟩ | ⟨g, cap, cur, hv2, _, _, hnc, _⟩
  · rw [hn]; exact Nat.zero_le _
  · rw [hv2] at hv
    injection hv with _ _ hcc
    omega
/-- A response as its parts, in memory of its own. -/
def RsTold3 (R : RsM × List Fld × List UInt8) (u f : Nat) (X : World) (e : Ending) (w' : World) : Prop := ∃ Af cf Ab cb, e = .returned (.tuple #[.agg #[.int .i64 (R.1.2.1 : Int), .string ⟨R.1.2.2.toArray⟩, .int .i64 (R.1.1 : Int), .slice Af R.2.1.length cf, .slice Ab R.2.2.length cb], .int .i64 (u : Int), .int .i64 (f : Int)]) ∧
  R.2.1.length ≤ cf ∧ SrcF w' (fun b => X.heap.size ≤ b) Af R.2.1 ∧ Src w' (fun b => X.heap.size ≤ b) Ab R.2.2 ∧ Below X.heap.size X w'
theorem RsGot9.told3 {R : Option (RsM × List Fld × List UInt8) × Nat × Nat} {w w' : World} {e : Ending} (h : RsGot9 R w e w') : RsTold3 (R.1.getD rsZ) R.2.1 R.2.2 w e w' := by
  obtain ⟨fv, fo, bv, bo, rfl, h1, h2, h3, h4, h5⟩ := h
  obtain ⟨A, c, rfl, hc, s⟩ := h1.cap3 (P := fun b => w.heap.size ≤ b) h3
  obtain ⟨A', c', rfl, s'⟩ := h2.src (fun b => w.heap.size ≤ b) h4
  exact ⟨A, c, A', c', rfl, hc, s, s', h5⟩
theorem put5_belowY {W X : World} {g : Nat} (hB : Below W.heap.size W X) (hg : W.heap.size ≤ g) (a b c d e : Value) : Below W.heap.size W (put5 X g a b c d e) := by
  have ht := put5_turn X g a b c d e
  exact hB.trans ⟨ht.os, ht.tape, ht.output, ht.size, fun k hk => ht.block k (by have := hB.size; omega) (by omega)⟩
/-- append(v, news...) at any world behind Y. -/
theorem app_one (Y X : World) (hX : Below Y.heap.size Y X) (v : Value) (o : Option Nat) (out : List UInt8) (hv : Own X v o out) (ho : ∀ b, o = some b → Y.heap.size ≤ b) (A : Option Addr) (news : List UInt8) (n c : Nat) (hn : news.length = n) (hs : Src Y (fun _ => True) A news) (hlen : out.length + n ≤ 1000000000) :
    ∃ (v' : Value) (w' : World) (o' : Option Nat), (Builtin.append_ #[22, 22] 22 #[v, .slice A n c]).run Tryz.prog X = .ok v' w' ∧ Own w' v' o' (out ++ news) ∧ (∀ b, o' = some b → Y.heap.size ≤ b) ∧ (∀ g, g < X.heap.size → o ≠ some g → o' ≠ some g) ∧ Turn (fun b => o = some b) X w' ∧ Below Y.heap.size Y w' := by
  obtain ⟨v', w', o', r, own, t, f⟩ := run_append_src X v o out news hv A n c hn (hs.kept (Turn.of_below (S := fun _ => False) hX) (fun _ _ h => h)) (by omega)
  refine ⟨v', w', o', r, own, fun b hb => ?_, fun g hg hne e => ?_, t, below_own hX ho t⟩
  · rcases f with h | h
    · exact ho b (by rw [← h]; exact hb)
    · rw [h] at hb; injection hb with hb; have := hX.size; omega
  · rcases f with h | h
    · exact hne (by rw [← h]; exact e)
    · rw [h] at e; injection e with e; omega
end Go.Proofs.YtemgfppclakdmaaGreatDoor
