/-
  What lay and front do as calls: the queue's first bytes, laid down.
  Conditions: those that each theorem names.
-/
import Derived.Test.YtielhclbefdgoaaB
import Derived.Test.YtielhclbefdgoaaC
namespace Go.Proofs.Ytielhclbefdgoaa
open Go.RowKit

theorem byteSize : (Try.prog.info? 5).map (·.size) = some 1 := by kernel_rfl

theorem laid_eq (rs ds : List UInt8) (f n k : Nat) (hf : f ≤ rs.length) (hn : n ≤ rs.length) (hk : k = min n (rs.length - f)) (hd : n ≤ ds.length) :
    splice (splice (vals ds) 0 (vals ((rs.drop f).take k))) k (vals (rs.take (n - k))) = vals (cont rs f n ++ ds.drop n) := by
  have hl1 : ((rs.drop f).take k).length = k := by simp; omega
  have hl2 : (rs.take (n - k)).length = n - k := by simp; omega
  have h1 : cont rs f n = (rs.drop f).take k ++ rs.take (n - k) := by
    unfold cont
    rw [List.take_append, List.length_drop]
    by_cases h : n ≤ rs.length - f
    · obtain rfl : k = n := by omega
      have e : k - (rs.length - f) = 0 := by omega
      simp [e]
    · obtain rfl : k = rs.length - f := by omega
      rw [List.take_take, Nat.min_eq_left (by omega), List.take_of_length_le (i := n) (by simp; omega), List.take_of_length_le (i := rs.length - f) (by simp)]
  rw [h1, vals_append, vals_append]
  unfold splice
  simp only [vals_length, hl1, hl2, List.take_zero, List.nil_append, Nat.zero_add]
  rw [List.take_append_of_le_length (by simp [vals_length, hl1]), List.take_of_length_le (by simp [vals_length, hl1]), List.append_assoc]
  congr 2
  rw [List.drop_append, vals_length, hl1, List.drop_of_length_le (by simp [vals_length, hl1]), List.nil_append, List.drop_drop, ← vals_drop]
  congr 2
  omega

/-- What lay leaves. -/
def Laid (d : Nat) (l : List UInt8) (w : World) (e : Ending) (w' : World) : Prop :=
  e = .returned (.tuple #[]) ∧ Is w' d 5 (vals l) ∧ Turn (· = d) w w' ∧ w'.heap.size = w.heap.size

set_option maxHeartbeats 400000 in
theorem lay_any (g r d m f n c : Nat) (rs ds : List UInt8) (w : World) (h1 : w.cell? ⟨g, 1, none⟩ = some (.slice (some ⟨r, 0, none⟩) m m)) (h2 : w.cell? ⟨g, 2, none⟩ = some (.int .i64 f))
    (hr : Is w r 5 (vals rs)) (hd : Is w d 5 (vals ds)) (hne : r ≠ d) (hl : rs.length = m) (hm : m ≤ 16384) (hf : f < m ∨ (m = 0 ∧ f = 0)) (hn : n ≤ m) (hnc : n ≤ c) (hcd : c ≤ ds.length) (hcl : c ≤ 16384) :
    Calls Try.prog 23 #[.pointer (some ⟨g, 0, none⟩), .slice (some ⟨d, 0, none⟩) n c] w (Laid d (cont rs f n ++ ds.drop n) w) := by
  have HL := Lib.hid hl
  clear hl
  have hub := Try.underlying31
  have HUB := Lib.hid hub
  clear hub
  go_enter Try.func23, Try.ntmps23
  go_wp2_with fail
  refine (places_any g r m f n hf hn hm _ h1).mono ?_
  rintro e w1 ⟨o, k, hk, ho, rfl, j, rfl⟩
  have HK := Lib.hid hk
  have HO := Lib.hid ho
  have hkn : k ≤ n := by omega
  clear hk ho
  have hrj := hr.drewN j
  have hdj := hd.drewN j
  have hlk : (vals ((rs.drop f).take k)).length = k := by rw [vals_length]; simp; have := HL.out; have := HK.out; omega
  obtain ⟨w2, hrun2, hd2, ht2, hs2⟩ := run_copy_in (P := Try.prog) (w.drewN j) 31 31 3 5 Try.underlying31 byteSize (some ⟨d, 0, none⟩) (some ⟨r, o, none⟩) n c k k k d 0 (vals ds) 5 hdj (vals ((rs.drop f).take k)) hlk
    (Nat.min_eq_left hkn).symm (fun h => ⟨rfl, _, rfl, fun i v hv => by rw [HO.out h]; exact hrj.bytes f k i v hv⟩) (by rw [vals_length]; omega) (vals_one _)
  have hr2 := hrj.kept ht2 (by simpa using hne)
  have hl2 : (splice (vals ds) 0 (vals ((rs.drop f).take k))).length = ds.length := by rw [length_splice _ _ _ (by rw [hlk, vals_length]; omega), vals_length]
  have hlk2 : (vals ((rs.drop 0).take (n - k))).length = n - k := by rw [vals_length]; simp; have := HL.out; omega
  have HE := Lib.hid (laid_eq rs ds f n k (by have := HL.out; omega) (by have := HL.out; omega) (by rw [HL.out]; exact HK.out) (by omega))
  have HD2 := Lib.hid hd2
  have HT2 := Lib.hid ht2
  have HS2 := Lib.hid hs2
  have HLK := Lib.hid hlk2
  have HL2 := Lib.hid hl2
  clear hlk hlk2 hl2 hd2 ht2 hs2
  by_cases hck : c = k
  · subst hck
    obtain rfl : n = c := by omega
    have hz : n - n = 0 := by omega
    have hrun3 := run_copy_none (P := Try.prog) w2 31 31 3 5 (some ⟨d, 0, none⟩) (some ⟨r, 0, none⟩) 0 0 0 0 Try.underlying31 byteSize rfl
    go_wp2_with fail
    go_end0
    refine ⟨rfl, ?_, ((Turn.refl _ _).drewN j).trans HT2.out (fun _ _ h => h), HS2.out⟩
    rw [← HE.out, hz, List.take_zero, show vals [] = [] from rfl, splice_nil]
    exact HD2.out
  · obtain ⟨w3, hrun3, hd3, ht3, hs3⟩ := run_copy_in (P := Try.prog) w2 31 31 3 5 Try.underlying31 byteSize (some ⟨d, k, none⟩) (some ⟨r, 0, none⟩) (n - k) (c - k) (n - k) (n - k) (n - k) d k _ 5 HD2.out (vals ((rs.drop 0).take (n - k))) HLK.out
      (Nat.min_self _).symm (fun h => ⟨rfl, _, rfl, fun i v hv => hr2.bytes 0 (n - k) i v hv⟩) (by rw [HL2.out]; omega) (vals_one _)
    have HD3 := Lib.hid hd3
    have HT3 := Lib.hid ht3
    have HS3 := Lib.hid hs3
    clear hd3 ht3 hs3
    go_wp2_with fail
    go_end0
    refine ⟨rfl, ?_, (((Turn.refl _ _).drewN j).trans HT2.out (fun _ _ h => h)).trans HT3.out (fun _ _ h => h), HS3.out.trans HS2.out⟩
    rw [← HE.out]
    exact HD3.out

/-- What front answers: the bytes l in a new block. -/
def Fronts (l : List UInt8) (w : World) (e : Ending) (w' : World) : Prop :=
  e = .returned (.slice (some ⟨w.heap.size, 0, none⟩) l.length l.length) ∧ Is w' w.heap.size 5 (vals l) ∧ Turn (fun _ => False) w w' ∧ w'.heap.size = w.heap.size + 1

theorem cont_length (rs : List UInt8) (f n : Nat) (hn : n ≤ rs.length) : (cont rs f n).length = n := by
  unfold cont
  simp only [List.length_take, List.length_append, List.length_drop]
  omega

set_option maxHeartbeats 400000 in
theorem front_any (g r m f n : Nat) (rs : List UInt8) (w : World) (h1 : w.cell? ⟨g, 1, none⟩ = some (.slice (some ⟨r, 0, none⟩) m m)) (h2 : w.cell? ⟨g, 2, none⟩ = some (.int .i64 f)) (hg : g < w.heap.size)
    (hr : Is w r 5 (vals rs)) (hl : rs.length = m) (hm : m ≤ 16384) (hf : f < m ∨ (m = 0 ∧ f = 0)) (hn : n ≤ m) :
    Calls Try.prog 22 #[.pointer (some ⟨g, 0, none⟩), .int .i64 n] w (Fronts (cont rs f n) w) := by
  obtain ⟨w1, hrun, hd, ht, hs⟩ := run_make_bytes n (by omega) w
  have h1' := (ht.cell (p := ⟨g, 1, none⟩) hg (fun h => h)).trans h1
  have h2' := (ht.cell (p := ⟨g, 2, none⟩) hg (fun h => h)).trans h2
  have HL := Lib.hid (cont_length rs f n (by omega))
  have hne : r ≠ w.heap.size := Nat.ne_of_lt hr.lt
  have hr' := hr.kept ht (fun h => h)
  have C := Lib.hid (lay_any g r w.heap.size m f n n rs (List.replicate n 0) w1 h1' h2' hr' hd hne hl hm hf hn (Nat.le_refl _) (by simp) (by omega))
  have HT := Lib.hid ht
  have HS := Lib.hid hs
  clear hs hl ht h1 h2 h1' h2'
  go_enter Try.func22, Try.ntmps22
  go_wp2_with fail
  refine C.out.mono ?_
  rintro e w2 ⟨rfl, hd2, ht2, hs2⟩
  have HS2 := Lib.hid hs2
  clear hs2
  go_wp2_with fail
  go_ret
  refine ⟨?_, ?_, (HT.out.trans ht2 (fun k hk h => Nat.lt_irrefl k (by rw [h] at hk ⊢; exact hk))), HS2.out.trans HS.out⟩
  · rw [HL.out]; rfl
  · simpa using hd2
end Go.Proofs.Ytielhclbefdgoaa
