/-
  What the laws of stage 8 ask besides: the word of the landed code's contracts, bytes.Equal, bytes turned round in place.
  Conditions: those that each theorem names.
-/
import Derived.Test.YtilgljnmdfejmaaDoorCD
import Derived.Test.YtilgljnmdfejmaaDoorCE
namespace Go.Proofs.YtilgljnmdfejmaaDoor
open Go.RowKit

/-- The landed code's contracts, in the document's words. -/
structure ChunkC : Prop where
  take : ∀ (w : World) (A : Option Addr) (bs : List UInt8) (n c : Nat), bs.length = n → n ≤ c → n ≤ 140737488351232 → Src w (fun _ => True) A bs → Calls Tryd.prog 8 #[.slice A n c] w (TakeGot (takeF bs) w)
  put : ∀ (w : World) (A : Option Addr) (ps : List (List UInt8)) (n c : Nat), ps.length = n → n ≤ 5864062014805 → SrcL w A ps → (∀ x ∈ ps, x.length ≤ 140737488351232) → ZeroTab w → Calls Tryd.prog 12 #[.slice A n c] w (PutGot8 (putC ps) w)

theorem text_eq (x y : List UInt8) : ((⟨x.toArray⟩ : ByteArray).toList == (⟨y.toArray⟩ : ByteArray).toList) = (x == y) := by
  rw [Lib.toList_data, Lib.toList_data]
set_option maxHeartbeats 4000000 in
set_option maxRecDepth 100000 in
theorem bequal_any {P P' : Nat → Prop} (w : World) (A A' : Option Addr) (x y : List UInt8) (n c n' c' : Nat) (hn : x.length = n) (hn' : y.length = n') (hx : Src w P A x) (hy : Src w P' A' y) :
    Calls Tryd.prog 10 #[.slice A n c, .slice A' n' c'] w fun e w' => e = .returned (.bool (x == y)) ∧ w = w' := by
  have h1 := run_text w A x n c hn hx
  have h2 := run_text w A' y n' c' hn' hy
  have HE := Lib.hid (text_eq x y)
  obtain ⟨S, hS⟩ : ∃ S : ByteArray, S = ⟨x.toArray⟩ := ⟨_, rfl⟩
  obtain ⟨S', hS'⟩ : ∃ S : ByteArray, S = ⟨y.toArray⟩ := ⟨_, rfl⟩
  rw [← hS] at h1 HE
  rw [← hS'] at h2 HE
  clear hn hn' hx hy hS hS'
  cases hq : (S.toList == S'.toList) with
  | false =>
    have HQ := Lib.hid (show (x == y) = false by rw [← HE.out, hq])
    go_enter Tryd.func10, Tryd.ntmps10
    go_wp2_with fail
    go_ret
    exact ⟨ret_bool HQ.out.symm, rfl⟩
  | true =>
    have HQ := Lib.hid (show (x == y) = true by rw [← HE.out, hq])
    go_enter Tryd.func10, Tryd.ntmps10
    go_wp2_with fail
    go_ret
    exact ⟨ret_bool HQ.out.symm, rfl⟩
theorem xor_byte (d : UInt8) : ∃ d' : UInt8, bits .xor .u8 (d.toNat : Int) 255 = (d'.toNat : Int) := by
  have h : ∀ n : Fin 256, bits .xor .u8 ((UInt8.ofNat n.val).toNat : Int) 255 = ((UInt8.ofNat n.val ^^^ 255).toNat : Int) := by decide +kernel
  have := h ⟨d.toNat, d.toNat_lt⟩
  simp only [UInt8.ofNat_toNat] at this
  exact ⟨_, this⟩
/-- A block's first n cells are bytes. -/
def BytesAt (X : World) (g n : Nat) : Prop := ∃ cl : List Value, Is X g 5 cl ∧ n ≤ cl.length ∧ ∀ i, i < n → ∃ d : UInt8, cl[i]? = some (.int .u8 (d.toNat : Int))
theorem BytesAt.cell {X : World} {g n : Nat} (h : BytesAt X g n) (i : Nat) (hi : i < n) : ∃ d : UInt8, X.cell? ⟨g, i, none⟩ = some (.int .u8 (d.toNat : Int)) ∧ X.frozen? ⟨g, i, none⟩ = false := by
  obtain ⟨cl, h1, _, h3⟩ := h
  obtain ⟨d, hd⟩ := h3 i hi
  exact ⟨d, (h1.cell i).trans hd, h1.free i⟩
theorem BytesAt.set {X : World} {g n : Nat} (h : BytesAt X g n) (i : Nat) (d : UInt8) : BytesAt (X.setCell ⟨g, i, none⟩ (.int .u8 (d.toNat : Int))) g n := by
  obtain ⟨cl, h1, h2, h3⟩ := h
  refine ⟨cl.set i (.int .u8 (d.toNat : Int)), h1.set i _, by simpa using h2, fun j hj => ?_⟩
  by_cases hij : i = j
  · subst hij
    exact ⟨d, by rw [List.getElem?_set_self (by omega)]⟩
  · rw [List.getElem?_set_ne hij]
    exact h3 j hj
theorem BytesAt.kept {X X' : World} {g n : Nat} {S : Nat → Prop} (h : BytesAt X g n) (ht : Turn S X X') (hg : ¬ S g) : BytesAt X' g n := by
  obtain ⟨cl, h1, h2⟩ := h
  exact ⟨cl, h1.kept ht hg, h2⟩
/-- Bytes of the call's own: empty, or a block's first ones. -/
theorem Own.block {X : World} {v : Value} {o : Option Nat} {bs : List UInt8} (h : Own X v o bs) : ∃ A c, v = .slice A bs.length c ∧ bs.length ≤ c ∧ Src X (fun _ => True) A bs ∧ (0 < bs.length → ∃ g, A = some ⟨g, 0, none⟩ ∧ o = some g ∧ BytesAt X g bs.length) := by
  obtain ⟨A, c, hv, hs⟩ := h.src (fun _ => True) (fun _ _ => trivial)
  obtain ⟨⟨h1, h2⟩, h3⟩ := h
  refine ⟨A, c, hv, ?_, hs, fun h0 => ?_⟩
  · rcases h2 with ⟨_, hn⟩ | ⟨g, cap, cur, hv2, _, hh, hnc, _⟩
    · rw [hn]; exact Nat.zero_le _
    · rw [hv2] at hv
      injection hv with _ _ hcc
      omega
  rcases h2 with ⟨_, hn⟩ | ⟨g, cap, cur, hv2, _, hh, hnc, _, hsz, htk⟩
  · omega
  · rw [hv2] at hv h3
    injection hv with hA
    refine ⟨g, hA.symm, h3.symm, cur.toList, by unfold Is; simpa using hh, by simp; omega, fun i hi => ?_⟩
    have hx : (vals bs)[i]? = some (.int .u8 (bs[i].toNat : Int)) := by rw [vals_get, List.getElem?_eq_getElem hi]; rfl
    rw [← htk, List.getElem?_take] at hx
    split at hx
    · exact ⟨_, hx⟩
    · cases hx
/-- An empty list of bytes of the call's own. -/
theorem Own.built (w : World) : Own (w.alloc (.cells #[] 5)) (.slice (some ⟨w.heap.size, 0, none⟩) 0 0) (some w.heap.size) [] :=
  ⟨⟨rfl, .inr ⟨w.heap.size, 0, #[], rfl, Nat.zero_le _, heap_alloc_new w _, Nat.le_refl _, Nat.zero_le _, rfl, rfl⟩⟩, rfl⟩
end Go.Proofs.YtilgljnmdfejmaaDoor
