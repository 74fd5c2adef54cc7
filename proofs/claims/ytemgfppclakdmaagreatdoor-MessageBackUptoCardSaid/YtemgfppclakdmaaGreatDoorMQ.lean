/-
  What MessageBack asks.
  Conditions: the landed code's contracts; what the arguments read; Go's table of powers of ten.
-/
import Derived.Test.YtemgfppclakdmaaGreatDoorMP
namespace Go.Proofs.YtemgfppclakdmaaGreatDoor
open Go.RowKit

/-- A request, a response as its parts, with room. -/
def RqTold2 (R : RqM × List Fld × List UInt8) (u f : Nat) (X : World) (e : Ending) (w' : World) : Prop := ∃ Af cf Ab cb, e = .returned (.tuple #[.agg #[.string ⟨R.1.1.toArray⟩, .string ⟨R.1.2.1.toArray⟩, .int .i64 (R.1.2.2 : Int), .slice Af R.2.1.length cf, .slice Ab R.2.2.length cb], .int .i64 (u : Int), .int .i64 (f : Int)]) ∧
  R.2.1.length ≤ cf ∧ SrcF w' (fun _ => True) Af R.2.1 ∧ Src w' (fun _ => True) Ab R.2.2 ∧ Below X.heap.size X w'
def RsTold2 (R : RsM × List Fld × List UInt8) (u f : Nat) (X : World) (e : Ending) (w' : World) : Prop := ∃ Af cf Ab cb, e = .returned (.tuple #[.agg #[.int .i64 (R.1.2.1 : Int), .string ⟨R.1.2.2.toArray⟩, .int .i64 (R.1.1 : Int), .slice Af R.2.1.length cf, .slice Ab R.2.2.length cb], .int .i64 (u : Int), .int .i64 (f : Int)]) ∧
  R.2.1.length ≤ cf ∧ SrcF w' (fun _ => True) Af R.2.1 ∧ Src w' (fun _ => True) Ab R.2.2 ∧ Below X.heap.size X w'
theorem OwnF.cap {w : World} {v : Value} {o : Option Nat} {ls : List Fld} (h : OwnF w v o ls) : ∃ A c, v = .slice A ls.length c ∧ ls.length ≤ c ∧ SrcF w (fun _ => True) A ls := by
  obtain ⟨A, c, hv, hs⟩ := h.src (fun _ => True) (fun _ _ => trivial)
  refine ⟨A, c, hv, ?_, hs⟩
  obtain ⟨⟨_, h2⟩, _⟩ := h
  rcases h2 with ⟨_, hn⟩ | ⟨g, cap, cur, hv2, _, _, hnc, _⟩
  · rw [hn]; exact Nat.zero_le _
  · rw [hv2] at hv
    injection hv with _ _ hcc
    omega
theorem RqGot9.told2 {R : Option (RqM × List Fld × List UInt8) × Nat × Nat} {w w' : World} {e : Ending} (h : RqGot9 R w e w') : RqTold2 (R.1.getD rqZ) R.2.1 R.2.2 w e w' := by
  obtain ⟨fv, fo, bv, bo, rfl, h1, h2, _, _, h5⟩ := h
  obtain ⟨A, c, rfl, hc, s⟩ := h1.cap
  obtain ⟨A', c', rfl, s'⟩ := h2.src (fun _ => True) (fun _ _ => trivial)
  exact ⟨A, c, A', c', rfl, hc, s, s', h5⟩
theorem RsGot9.told2 {R : Option (RsM × List Fld × List UInt8) × Nat × Nat} {w w' : World} {e : Ending} (h : RsGot9 R w e w') : RsTold2 (R.1.getD rsZ) R.2.1 R.2.2 w e w' := by
  obtain ⟨fv, fo, bv, bo, rfl, h1, h2, _, _, h5⟩ := h
  obtain ⟨A, c, rfl, hc, s⟩ := h1.cap
  obtain ⟨A', c', rfl, s'⟩ := h2.src (fun _ => True) (fun _ _ => trivial)
  exact ⟨A, c, A', c', rfl, hc, s, s', h5⟩
theorem req_short (b : List UInt8) (k n : Nat) (h : (requestM b).2 = (n, 0)) (hk : k < n) : requestM (b.take k) = (none, 0, 8) := by
  have h8 := msgM_short (begin := Sta.reqF) (kind := fun a l => reqK (a.2.2 : Int) l) (fun _ _ _ => reqK_small _ _) b n k h hk
  rcases request_range (b.take k) with ⟨_, _, _, _, h2, _, _⟩ | ⟨_, h2, h3⟩
  · unfold requestM at h2
    rw [h8] at h2
    cases h2
  · have e : requestM (b.take k) = ((requestM (b.take k)).1, (requestM (b.take k)).2.1, (requestM (b.take k)).2.2) := rfl
    rw [e, h2, h3, show (requestM (b.take k)).2.2 = 8 from h8]
theorem res_short (b m : List UInt8) (k n : Nat) (h : (responseM b m false).2 = (n, 0)) (hk : k < n) : responseM (b.take k) m false = (none, 0, 8) := by
  have h8 := msgM_short (begin := Sta.statF) (kind := fun a l => resK (a.2.1 : Int) m (reqK (a.1 : Int) l)) (fun _ _ _ => resK_small _ _ _ (reqK_small _ _)) b n k h hk
  rcases response_range (b.take k) m false with ⟨_, _, _, _, h2, _, _⟩ | ⟨_, h2, h3⟩
  · unfold responseM at h2
    rw [h8] at h2
    cases h2
  · have e : responseM (b.take k) m false = ((responseM (b.take k) m false).1, (responseM (b.take k) m false).2.1, (responseM (b.take k) m false).2.2) := rfl
    rw [e, h2, h3, show (responseM (b.take k) m false).2.2 = 8 from h8]
theorem srcf_lt {w : World} {P : Nat → Prop} {A : Option Addr} {ls : List Fld} (h : SrcF w P A ls) : SrcF w (fun b => b < w.heap.size) A ls := fun h0 => by
  obtain ⟨ad, h1, h2, h3, h4⟩ := h h0
  exact ⟨ad, h1, h3, h3, h4⟩
theorem srcf_turn {w w' : World} {P S : Nat → Prop} {A : Option Addr} {ls : List Fld} (h : SrcF w P A ls) (ht : Turn S w w') (hS : ∀ k, P k → ¬ S k) : SrcF w' P A ls := fun h0 => by
  obtain ⟨ad, h1, h2, h3, h4⟩ := h h0
  refine ⟨ad, h1, h2, Nat.lt_of_lt_of_le h3 ht.size, fun i f hf => ?_⟩
  obtain ⟨c1, c2⟩ := h4 i f hf
  have hb : ∀ k, (ad.add k).block = ad.block := fun k => by unfold Addr.add; split <;> rfl
  exact ⟨(ht.cell (by rw [hb]; exact h3) (by rw [hb]; exact hS _ h2)).trans c1, (ht.cell (by rw [hb]; exact h3) (by rw [hb]; exact hS _ h2)).trans c2⟩
theorem srcf_true {w : World} {P : Nat → Prop} {A : Option Addr} {ls : List Fld} (h : SrcF w P A ls) : SrcF w (fun _ => True) A ls := fun h0 => by
  obtain ⟨ad, h1, _, h3, h4⟩ := h h0
  exact ⟨ad, h1, trivial, h3, h4⟩
theorem src_lt {w : World} {P : Nat → Prop} {A : Option Addr} {bs : List UInt8} (h : Src w P A bs) : Src w (fun b => b < w.heap.size) A bs := fun h0 => by
  obtain ⟨ad, h1, h2, h3, h4⟩ := h h0
  exact ⟨ad, h1, h3, h3, h4⟩
/-- A copy with a tail behind it: append(append([]byte{}, b...), tail...). -/
theorem tail_any (w X : World) (hX : Below w.heap.size w X) (Ab At : Option Addr) (bs ts : List UInt8) (L cb nt ct : Nat) (hL : bs.length = L) (hnt : ts.length = nt) (h1 : L ≤ 100000) (h2 : nt ≤ 100000000) (sb : Src X (fun _ => True) Ab bs) (stl : Src w (fun _ => True) At ts) :
    ∃ (v3 : Value) (w3 : World) (M : Option Addr) (cM : Nat) (w4 : World), (Builtin.append_ #[22, 22] 22 #[.slice (some ⟨X.heap.size, 0, none⟩) 0 0, .slice Ab L cb]).run Tryz.prog (X.alloc (.cells #[] 5)) = .ok v3 w3 ∧
      (Builtin.append_ #[22, 22] 22 #[v3, .slice At nt ct]).run Tryz.prog w3 = .ok (.slice M (L + nt) cM) w4 ∧ L + nt ≤ cM ∧ Src w4 (fun _ => True) M (bs ++ ts) ∧ Below w.heap.size w w4 ∧ Below X.heap.size X w4 ∧ Below X.heap.size X w3 := by
  have b0 : Below X.heap.size X (X.alloc (.cells #[] 5)) := (Below.refl _ _).alloc (Nat.le_refl _) _
  obtain ⟨v3, w3, o3, r3, own3, t3, f3⟩ := run_append_src (X.alloc (.cells #[] 5)) _ _ [] bs (Own.built X) Ab L cb hL (sb.kept (Turn.of_below (S := fun _ => False) b0) (fun _ _ h => h)) (by simp; omega)
  rw [List.nil_append] at own3
  have b3 : Below X.heap.size X w3 := below_own b0 (fun b hb => by injection hb with hb; omega) t3
  have f3' : ∀ b, o3 = some b → X.heap.size ≤ b := fun b hb => by
    rcases f3 with h | h
    · rw [h] at hb; injection hb with hb; omega
    · rw [h] at hb; injection hb with hb; simp at hb; omega
  have bw3 := hX.trans (b3.mono hX.size)
  obtain ⟨v4, w4, o4, r4, own4, t4, f4⟩ := run_append_src w3 v3 o3 bs ts own3 At nt ct hnt (stl.kept (Turn.of_below (S := fun _ => False) bw3) (fun _ _ h => h)) (by omega)
  have b4 : Below X.heap.size X w4 := below_own b3 f3' t4
  obtain ⟨M, cM, hM, hMc, sM, _⟩ := own4.block
  have hl : (bs ++ ts).length = L + nt := by rw [List.length_append, hL, hnt]
  rw [hl] at hM hMc
  subst hM
  exact ⟨v3, w3, M, cM, w4, r3, r4, hMc, sM, hX.trans (b4.mono hX.size), b4, b3⟩

end Go.Proofs.YtemgfppclakdmaaGreatDoor
