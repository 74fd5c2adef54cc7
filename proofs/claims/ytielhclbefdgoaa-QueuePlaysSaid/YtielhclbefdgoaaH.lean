/-
  What Push does as a call on a queue.
  Conditions: those that each theorem names.
-/
import Derived.Test.YtielhclbefdgoaaG
namespace Go.Proofs.Ytielhclbefdgoaa
open Go.RowKit

/-- A slice value's address A reads the bytes bs, and lies in a block of which P holds. -/
def Src (w : World) (P : Nat → Prop) (A : Option Addr) (bs : List UInt8) : Prop :=
  0 < bs.length → ∃ ad : Addr, A = some ad ∧ P ad.block ∧ ad.block < w.heap.size ∧ ∀ i v, (vals bs)[i]? = some v → w.cell? (ad.add i) = some v

theorem Src.kept {w w' : World} {P S : Nat → Prop} {A : Option Addr} {bs : List UInt8} (h : Src w P A bs) (ht : Turn S w w') (hS : ∀ k, P k → ¬ S k) : Src w' P A bs := by
  intro h0
  obtain ⟨ad, hA, hP, hlt, hc⟩ := h h0
  refine ⟨ad, hA, hP, Nat.lt_of_lt_of_le hlt ht.size, fun i v hv => (ht.cell (p := ad.add i) ?_ ?_).trans (hc i v hv)⟩
  · unfold Addr.add; split <;> exact hlt
  · unfold Addr.add; split <;> exact hS _ hP
theorem Src.mono {w : World} {P P' : Nat → Prop} {A : Option Addr} {bs : List UInt8} (h : Src w P A bs) (hp : ∀ k, k < w.heap.size → P k → P' k) : Src w P' A bs := by
  intro h0
  obtain ⟨ad, hA, hP, hlt, hc⟩ := h h0
  exact ⟨ad, hA, hp _ hlt hP, hlt, hc⟩
theorem add_add_at (a : Addr) (i j : Nat) : (a.add i).add j = a.add (i + j) := by
  unfold Addr.add
  by_cases hi : i = 0 <;> by_cases hj : j = 0 <;> simp [hi, hj, Nat.add_assoc]

/-- b[k:], k the first ones' number. -/
theorem run_cut (A : Option Addr) (n c k : Nat) (hk : k ≤ n) (hn : n ≤ c) : ∃ A', (∀ W : World, (Instr.slice 31 (.slice A n c) (some (.int .i64 (k : Int))) none none).run Try.prog W = .ok (.slice A' (n - k) (c - k)) W) ∧
    (0 < n - k → A' = A.map (·.add k)) := by
  refine ⟨if c = k then A else A.map (·.add (k * 1)), fun W => ?_, fun h => ?_⟩
  · have h1 : ¬ n < k := by omega
    simp [Instr.slice, run_underlying Try.underlying31, Instr.sliceBounds, Instr.sliceBound, asIntOf, h1]
  · rw [if_neg (by omega), Nat.mul_one]

set_option maxHeartbeats 400000 in
theorem push_nil (v : Value) (w : World) : Calls Try.prog 9 #[.pointer none, v] w fun e w' => e = .returned (.int .i64 2) ∧ w = w' := by
  go_enter Try.func9, Try.ntmps9
  go_wp2_with (go_at_call 18; refine (none_nil _).mono ?_; rintro e w' ⟨rfl, rfl⟩)
  go_ret
  exact ⟨rfl, rfl⟩

set_option maxHeartbeats 400000 in
theorem push_unmade (g : Nat) (v : Value) (w : World) (h0 : w.cell? ⟨g, 0, none⟩ = some (.bool false)) : Calls Try.prog 9 #[.pointer (some ⟨g, 0, none⟩), v] w fun e w' => e = .returned (.int .i64 2) ∧ w = w' := by
  go_enter Try.func9, Try.ntmps9
  go_wp2_with (go_at_call 18; refine (none_made g false _ h0).mono ?_; rintro e w' ⟨rfl, rfl⟩)
  go_ret
  exact ⟨rfl, rfl⟩

set_option maxHeartbeats 400000 in
theorem push_full (w : World) (g r m : Nat) (xs : List UInt8) (h : Queue w g r m xs) (A : Option Addr) (n c : Nat) (hn : m < xs.length + n) (_hmax : n ≤ 140737488351232) :
    Calls Try.prog 9 #[.pointer (some ⟨g, 0, none⟩), .slice A n c] w fun e w' => e = .returned (.int .i64 7) ∧ ∃ k, w' = w.drewN k := by
  have hc := h.count
  have hm := h.most
  have C0 := Lib.hid (none_made g true w h.c0)
  have C1 := Lib.hid (room_queue w g r m xs h)
  have hlt : m - xs.length < n := by omega
  go_enter Try.func9, Try.ntmps9
  go_wp2_with fail
  refine C0.out.mono ?_
  rintro e w' ⟨rfl, rfl⟩
  go_wp2_with fail
  refine C1.out.mono ?_
  rintro e w' ⟨rfl, j, rfl⟩
  go_wp2_with fail
  go_ret
  exact ⟨rfl, j, rfl⟩

/-- What Push leaves. -/
def Pushes (g r m : Nat) (l : List UInt8) (w : World) (e : Ending) (w' : World) : Prop :=
  e = .returned (.int .i64 0) ∧ Queue w' g r m l ∧ Turn (fun k => k = g ∨ k = r) w w' ∧ w'.heap.size = w.heap.size

/-- Nothing but draws. -/
def Quiet (w w' : World) : Prop := ∃ n, w' = w.drewN n
theorem Quiet.turn {w w' : World} (h : Quiet w w') : Turn (fun _ => False) w w' := by
  obtain ⟨n, rfl⟩ := h
  exact (Turn.refl _ _).drewN n
theorem Quiet.size {w w' : World} (h : Quiet w w') : w'.heap.size = w.heap.size := by
  obtain ⟨n, rfl⟩ := h
  rfl
theorem no_false : ¬ (fun _ : Nat => False) 0 := fun h => h

theorem pushed_queue {w w3 : World} {g r m f k : Nat} {rs bs xs : List UInt8} (h : Ring w g r m f xs.length rs) (hx : cont rs f xs.length = xs) (hn : xs.length + bs.length ≤ m) (hk : k = min bs.length (m - turnTo m f xs.length)) (ht : Turn (fun x => x = r) w w3)
    (h3 : Is w3 r 5 (splice (splice (vals rs) (turnTo m f xs.length) (vals (bs.take k))) 0 (vals (bs.drop k)))) (y : Int) (hy : y = ((xs.length + bs.length : Nat) : Int)) :
    Queue (w3.setCell ⟨g, 3, none⟩ (.int .i64 y)) g r m (xs ++ bs) := by
  subst hy
  have hl := h.len
  subst hl
  rw [vals_splice, vals_splice] at h3
  have hhead := h.head.kept ht h.ne
  have htt := turnTo_first rs.length f xs.length h.first h.count
  have hl1 : (bs.take k).length = k := by simp; omega
  have hs1 : (splice rs (turnTo rs.length f xs.length) (bs.take k)).length = rs.length := length_splice _ _ _ (by omega)
  refine ⟨f, _, ⟨?_, h3.far (p := ⟨g, 3, none⟩) h.ne.symm _, ?_, h.most, h.first, by simpa using hn⟩, ?_⟩
  · rw [List.length_append]; exact hhead.set 3 _
  · rw [length_splice _ _ _ (by simp; omega), hs1]
  · rw [List.length_append]
    have := cont_push rs bs f xs.length k h.first hn hk
    rw [this, hx]

set_option maxHeartbeats 1000000 in
theorem push_ok (w : World) (g r m : Nat) (xs bs : List UInt8) (h : Queue w g r m xs) (A : Option Addr) (c n : Nat) (hlen : bs.length = n) (hn : xs.length + n ≤ m) (hc : n ≤ c) (hs : Src w (fun k => k ≠ g ∧ k ≠ r) A bs) :
    Calls Try.prog 9 #[.pointer (some ⟨g, 0, none⟩), .slice A n c] w (Pushes g r m (xs ++ bs) w) := by
  have hcount := h.count
  have C0 := Lib.hid (none_made g true w h.c0)
  have C1 := Lib.hid (room_queue w g r m xs h)
  obtain ⟨f, rs, h1, h2⟩ := h
  have hm := h1.most
  have hf := h1.first
  have hfm : f ≤ m := by omega
  have htt := turnTo_first m f xs.length hf hcount
  have H1 := Lib.hid h1
  have H2 := Lib.hid h2
  have HLEN := Lib.hid hlen
  have HF := Lib.hid hf
  have HT := Lib.hid htt
  clear h1 h2 hlen hf htt
  go_enter Try.func9, Try.ntmps9
  go_wp2_with fail
  refine C0.out.mono ?_
  rintro e w' ⟨rfl, rfl⟩
  go_wp2_with fail
  refine C1.out.mono ?_
  rintro e w1 ⟨rfl, hq1⟩
  have HQ1 : Quiet w w1 := hq1
  clear hq1
  have R1 := Lib.hid (H1.out.kept HQ1.turn (fun h => h) (fun h => h))
  have c1 := R1.out.c1
  have c2 := R1.out.c2
  have c3 := R1.out.c3
  go_wp2_with fail
  refine (after_turn g m f xs.length _ hfm hcount hm w1 c1 c2).mono ?_
  rintro e w' ⟨rfl, rfl⟩
  go_wp2_with fail
  refine (places_any g r m (turnTo m f xs.length) n HT.out (by omega) hm w1 c1).mono ?_
  rintro e w2 ⟨o, k, hk, ho, rfl, hq2⟩
  have HQ2 : Quiet w1 w2 := hq2
  have HK := Lib.hid hk
  have HO := Lib.hid ho
  have hkn : k ≤ n := by omega
  clear hk ho hq2 c1 c2 c3
  have T2 := Lib.hid (HQ1.turn.trans HQ2.turn (fun _ _ h => h))
  have R2 := Lib.hid (H1.out.kept T2.out (fun h => h) (fun h => h))
  have S2 := hs.kept T2.out (fun _ _ h => h)
  obtain ⟨w3, hrun3, hr3, ht3, hs3⟩ := run_copy_in (P := Try.prog) w2 31 31 3 5 Try.underlying31 byteSize (some ⟨r, o, none⟩) A k k n c k r (turnTo m f xs.length) (vals rs) 5 R2.out.ring (vals (bs.take k)) (by rw [vals_length, List.length_take]; have := HLEN.out; omega)
    (Nat.min_eq_right hkn).symm (fun h => ⟨by rw [HO.out h], by
      obtain ⟨ad, hA, _, _, hcell⟩ := S2 (by have := HLEN.out; omega)
      refine ⟨ad, hA, fun i v hv => hcell i v ?_⟩
      rw [vals_take, List.getElem?_take] at hv
      split at hv
      · exact hv
      · cases hv⟩) (by rw [vals_length, H1.out.len]; have := HK.out; have := HT.out; omega) (vals_one _)
  obtain ⟨A', hcut, hA'⟩ := run_cut A n c k hkn hc
  have S3 := S2.kept ht3 (fun _ h => h.2)
  have hl3 : (splice (vals rs) (turnTo m f xs.length) (vals (bs.take k))).length = m := by
    rw [length_splice, vals_length, H1.out.len]
    rw [vals_length, vals_length, List.length_take, H1.out.len]
    have := HK.out; have := HT.out; have := HLEN.out; omega
  obtain ⟨w4, hrun4, hr4, ht4, hs4⟩ := run_copy_in (P := Try.prog) w3 31 31 3 5 Try.underlying31 byteSize (some ⟨r, 0, none⟩) A' (n - k) (n - k) (n - k) (c - k) (n - k) r 0 _ 5 hr3 (vals (bs.drop k)) (by rw [vals_length, List.length_drop, HLEN.out])
    (Nat.min_self _).symm (fun h => ⟨rfl, by
      obtain ⟨ad, hA, _, _, hcell⟩ := S3 (by have := HLEN.out; omega)
      refine ⟨ad.add k, by rw [hA' h, hA]; rfl, fun i v hv => ?_⟩
      rw [add_add_at]
      refine hcell _ v ?_
      rw [vals_drop, List.getElem?_drop] at hv
      exact hv⟩) (by rw [hl3]; omega) (vals_one _)
  have T4 := Lib.hid ((T2.out.mono (S' := fun x => x = r) (fun _ _ h => h.elim)).trans (ht3.trans ht4 (fun _ _ h => h)) (fun _ _ h => h))
  have HS4 := Lib.hid (hs4.trans (hs3.trans (HQ2.size.trans HQ1.size)))
  have HR4 := Lib.hid hr4
  have IH := Lib.hid (H1.out.head.kept T4.out H1.out.ne)
  have d3 := IH.out.cell 3
  have f3 := IH.out.free 3
  clear hs3 hs4 hl3 hr3 hr4 ht3 ht4 S2 S3 hs
  have HA' := Lib.hid hA'
  clear hA'
  go_wp2_with fail
  go_ret
  refine ⟨rfl, pushed_queue H1.out H2.out (by rw [HLEN.out]; exact hn) (by rw [HLEN.out]; exact HK.out) T4.out HR4.out _ (by rw [HLEN.out]; omega), ?_, by simpa [World.setCell] using HS4.out⟩
  exact (T4.out.mono (fun _ _ h => .inr h)).setCell (p := ⟨g, 3, none⟩) (fun _ => .inl rfl) _
end Go.Proofs.Ytielhclbefdgoaa
